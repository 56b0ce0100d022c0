/-
  The way down an error's first parts: its number, its path, its operations; the reference's Way.
-/
import Derived.Test.YtaaojfgakgjlkaaDoorE1
import Derived.Deep.LoopGhost
namespace Go.Proofs.YtaaojfgakgjlkaaDoor
open Go.RowKit

/-- the next error on the way -/
def nextT : Tr → Option Tr
  | .num _ => none
  | .flt _ _ t => some t
  | .lst .nil => none
  | .lst (.cons t _) => some t
def codeT : Tr → Nat
  | .num k => k
  | .flt _ _ t => codeT t
  | .lst .nil => 0
  | .lst (.cons t _) => codeT t
def opsT : Tr → List Str
  | .num _ => []
  | .flt op _ t => op :: opsT t
  | .lst .nil => []
  | .lst (.cons t _) => opsT t
def pathT : Str → Tr → Str
  | p, .num _ => p
  | p, .flt _ path t => pathT (if path = [] then p else path) t
  | p, .lst .nil => p
  | p, .lst (.cons t _) => pathT p t
def deepT : Tr → Nat
  | .num _ => 1
  | .flt _ _ t => deepT t + 1
  | .lst .nil => 1
  | .lst (.cons t _) => deepT t + 1
def codeO : Option Tr → Nat
  | none => 0
  | some T => codeT T
def opsO : Option Tr → List Str
  | none => []
  | some T => opsT T
def pathO (p : Str) : Option Tr → Str
  | none => p
  | some T => pathT p T
def deepO : Option Tr → Nat
  | none => 0
  | some T => deepT T
theorem deep_pos (T : Tr) : 0 < deepT T := by
  cases T with
  | num k => simp [deepT]
  | flt op path t => simp [deepT]
  | lst ts => cases ts <;> simp [deepT]
theorem ops_le (T : Tr) : (opsT T).length ≤ deepT T := by
  refine Tr.rec (motive_1 := fun T => (opsT T).length ≤ deepT T) (motive_2 := fun ts => ∀ t r, ts = .cons t r → (opsT t).length ≤ deepT t) ?_ ?_ ?_ ?_ ?_ T
  · intro k; simp [opsT]
  · intro op path t ih; simp [opsT, deepT]; exact ih
  · intro ts ih
    cases ts with
    | nil => simp [opsT]
    | cons t r => have := ih t r rfl; simp [opsT, deepT]; omega
  · intro t r h; cases h
  · intro t ts h1 _ t' r' h; cases h; exact h1
theorem info9 : (Tryd.prog.info? 9).map (fun i => (i.zero, i.size, i.bytes)) = some (some (.string ByteArray.empty), 1, 16) := by kernel_rfl
/-- texts as values -/
def sv (x : Str) : Value := .string (B x)
theorem one_sv (xs : List Str) : ∀ u ∈ xs.map sv, u.oneCell' = true := by
  intro u hu
  simp only [List.mem_map] at hu
  obtain ⟨x, _, rfl⟩ := hu
  rfl
theorem row_cells5 {W : World} {g : Nat} {a b c d e : Value} {t : TypeId} (h : W.heap[g]? = some (.cells [a, b, c, d, e].toArray t (0, 0))) : W.cell? ⟨g, 0, none⟩ = some a ∧ W.cell? ⟨g, 1, none⟩ = some b ∧ W.cell? ⟨g, 2, none⟩ = some c ∧ W.cell? ⟨g, 3, none⟩ = some d ∧ W.cell? ⟨g, 4, none⟩ = some e := by
  refine ⟨?_, ?_, ?_, ?_, ?_⟩ <;> (rw [cell_of_row W g _ _ _ (0, 0) h]; rfl)
theorem row_froz5 {W : World} {g : Nat} {cs : Array Value} {t : TypeId} (h : W.heap[g]? = some (.cells cs t (0, 0))) : W.frozen? ⟨g, 0, none⟩ = false ∧ W.frozen? ⟨g, 1, none⟩ = false ∧ W.frozen? ⟨g, 2, none⟩ = false ∧ W.frozen? ⟨g, 3, none⟩ = false ∧ W.frozen? ⟨g, 4, none⟩ = false := by
  simp [World.frozen?, h]
theorem isR_cells {n : Nat} {W : World} {T : Tr} {vs : List Value} (h : IsR n W T vs) : ∃ k c op path p m cap, vs = [iv k, iv c, .string op, .string path, .slice p m cap] := by
  cases T with
  | num k => unfold IsR at h; obtain ⟨rfl, _⟩ := h; exact ⟨_, _, _, _, _, _, _, rfl⟩
  | flt op path t => unfold IsR at h; obtain ⟨g, cap, us, rfl, _⟩ := h; exact ⟨_, _, _, _, _, _, _, rfl⟩
  | lst ts => unfold IsR at h; obtain ⟨g, cap, uss, rfl, _⟩ := h; exact ⟨_, _, _, _, _, _, _, rfl⟩
theorem own_set5 {W : World} {g n : Nat} {v : Value} {xs : List Value} (h : W.ownsRow (g + 1) 9 1 v n xs) (a b c d e : Value) : (set5 W g a b c d e).ownsRow (g + 1) 9 1 v n xs := by
  refine ⟨h.1, ?_⟩
  rcases h.2 with h | ⟨g', c', cur, hv, h4, hg, rest⟩
  · exact .inl h
  · exact .inr ⟨g', c', cur, hv, h4, (keep5 W g a b c d e g' (by omega)).trans hg, rest⟩
theorem path_nil (p op : Str) (t : Tr) : pathO p (some (.flt op [] t)) = pathO p (some t) := by simp [pathO, pathT]
theorem path_some (p op : Str) {path : Str} (h : ¬ path = []) (t : Tr) : pathO p (some (.flt op path t)) = pathO path (some t) := by simp [pathO, pathT, h]
theorem ops_snoc (xs : List Str) (op path : Str) (t : Tr) : (xs ++ [op]) ++ opsO (some t) = xs ++ opsO (some (.flt op path t)) := by simp [opsO, opsT]
theorem deep_snoc {xs : List Str} {op path : Str} {t : Tr} {D : Nat} (h : xs.length + deepO (some (.flt op path t)) ≤ D) : (xs ++ [op]).length + deepO (some t) ≤ D := by
  have e : deepO (some (.flt op path t)) = deepO (some t) + 1 := rfl
  rw [List.length_append, List.length_singleton]
  omega
theorem size5_le {W1 W : World} {g x : Nat} {a b c d e : Value} (h1 : W.heap.size ≤ W1.heap.size) (h2 : x ≤ W.heap.size) : x ≤ (set5 W1 g a b c d e).heap.size := by rw [size5]; omega
theorem own_base {W : World} {b1 b2 : Nat} {e : TypeId} {size n : Nat} {v : Value} {xs : List Value} (hb : b1 ≤ b2) (h : W.ownsRow b2 e size v n xs) : W.ownsRow b1 e size v n xs := by
  refine ⟨h.1, ?_⟩
  rcases h.2 with h | ⟨g, c, cur, hv, h4, rest⟩
  · exact .inl h
  · exact .inr ⟨g, c, cur, hv, by omega, rest⟩
set_option maxHeartbeats 4000000 in
set_option maxRecDepth 100000 in
theorem way_any (o : Option Tr) (n : Nat) (u5 : List Value) (w : World) (hv : IsRO n w o u5) (hn : n ≤ w.heap.size) (hd : deepO o ≤ 100000000) :
    Calls Tryd.prog 9 #[.agg u5.toArray] w fun e w' => ∃ v, e = .returned (.tuple #[.int .i64 (codeO o : Int), .string (B (pathO [] o)), v]) ∧ w'.ownsRow w.heap.size 9 1 v (opsO o).length ((opsO o).map sv) ∧ Below w.heap.size w w' := by
  obtain ⟨i9, hi9, hz0, hz1, hz2⟩ := info_parts info9
  have h5 : ∃ a b c d e, u5 = [a, b, c, d, e] := by
    cases o with
    | none => obtain rfl : u5 = noneR := hv; exact ⟨_, _, _, _, _, rfl⟩
    | some T =>
      have hv' : IsR n w T u5 := hv
      cases T with
      | num k => unfold IsR at hv'; obtain ⟨rfl, _⟩ := hv'; exact ⟨_, _, _, _, _, rfl⟩
      | flt op path t => unfold IsR at hv'; obtain ⟨_, _, _, rfl, _⟩ := hv'; exact ⟨_, _, _, _, _, rfl⟩
      | lst ts => unfold IsR at hv'; obtain ⟨_, _, _, rfl, _⟩ := hv'; exact ⟨_, _, _, _, _, rfl⟩
  obtain ⟨a, b, c, d, e5, rfl⟩ := h5
  have HV := hid_in hv
  have HN := hid_in hn
  have HD := hid_in hd
  clear hv hn hd
  go_enter Tryd.func9, Tryd.ntmps9
  go_wp2_with fail
  have hb0 : Below w.heap.size w (w.alloc (.cells #[a, b, c, d, e5] 33)) := (Below.refl _ _).alloc (Nat.le_refl _) _
  have HB0 := hid_in hb0
  have HR0 : Hid ((w.alloc (.cells #[a, b, c, d, e5] 33)).heap[w.heap.size]? = some (.cells #[a, b, c, d, e5] 33 (0, 0))) := World.alloc_heap_new w _
  clear hb0
  go_loopg [5, 6] (deepO o) (fun g v5 v6 W => ∃ (o' : Option Tr) (p' : Str) (xs : List Str) (us' : List Value), g = deepO o' ∧ v5 = .string (B p') ∧ us'.length = 5 ∧ Hid (pathO p' o' = pathO [] o) ∧ Hid (xs ++ opsO o' = opsO o) ∧ Hid (codeO o' = codeO o) ∧ Hid (xs.length + deepO o' ≤ deepO o) ∧ Hid (IsRO n W o' us') ∧ Hid (W.heap[w.heap.size]? = some (.cells us'.toArray 33 (0, 0))) ∧ Hid (W.ownsRow (w.heap.size + 1) 9 1 v6 xs.length (xs.map sv)) ∧ Hid (Below w.heap.size w W) ∧ w.heap.size + 1 ≤ W.heap.size)
  case atStart => exact ⟨o, [], [], [a, b, c, d, e5], rfl, rfl, rfl, rfl, rfl, rfl, (by show 0 + _ ≤ _; omega), isRO_below (HB0.out.mono HN.out) HV.out, HR0.out, World.ownsRow_nil _ _ _ _, HB0.out, by simp⟩
  case round =>
    obtain ⟨o', p', xs, us', rfl, rfl, hl5, HP, HX, HC, HXD, HI, HR, HO, HB, hsz⟩ := hrel
    obtain ⟨a0, a1, a2, a3, a4, rfl⟩ := five hl5
    have cw : ∀ (y : Nat) z, [a0, a1, a2, a3, a4][y]? = some z → wr.cell? ⟨w.heap.size, y, none⟩ = some z := fun y z h => by rw [cell_of_row wr w.heap.size y _ _ (0, 0) HR.out]; simpa using h
    have fw : ∀ y, wr.frozen? ⟨w.heap.size, y, none⟩ = false := fun y => by simp [World.frozen?, HR.out]
    have c0 := cw 0 _ rfl
    have c1 := cw 1 _ rfl
    have c2 := cw 2 _ rfl
    have c3 := cw 3 _ rfl
    have c4 := cw 4 _ rfl
    have f0 := fw 0
    have f1 := fw 1
    have f2 := fw 2
    have f3 := fw 3
    have f4 := fw 4
    clear cw fw hl5
    cases o' with
    | none =>
      have hv : [a0, a1, a2, a3, a4] = noneR := HI.out
      simp only [noneR, List.cons.injEq, and_true] at hv
      obtain ⟨rfl, rfl, rfl, rfl, rfl⟩ := hv
      simp only [iv, e0] at c0 c1 c2 c3 c4
      go_wp2_with fail
      go_ret3
      have e1 := HP.out
      have e2 := HX.out
      have e3 := HC.out
      rw [← e1, ← e2, ← e3]
      refine ⟨u6, rfl, ?_, HB.out⟩
      simpa [opsO, opsT] using own_base (Nat.le_succ _) HO.out
    | some T =>
      cases T with
      | num k =>
        have hv : IsR n wr (.num k) [a0, a1, a2, a3, a4] := HI.out
        unfold IsR at hv
        obtain ⟨he, _, _⟩ := hv
        simp only [List.cons.injEq, and_true] at he
        obtain ⟨rfl, rfl, rfl, rfl, rfl⟩ := he
        simp only [iv, e0] at c0 c1 c2 c3 c4
        go_wp2_with fail
        go_ret3
        have e1 := HP.out
        have e2 := HX.out
        have e3 := HC.out
        rw [← e1, ← e2, ← e3]
        refine ⟨u6, rfl, ?_, HB.out⟩
        simpa [opsO, opsT] using own_base (Nat.le_succ _) HO.out
      | flt op path t =>
        have hv : IsR n wr (.flt op path t) [a0, a1, a2, a3, a4] := HI.out
        unfold IsR at hv
        obtain ⟨kg, kc, k5, he, hkg, hk1, hk9, hk5, hkc, hRk⟩ := hv
        simp only [List.cons.injEq, and_true] at he
        obtain ⟨rfl, rfl, rfl, rfl, rfl⟩ := he
        simp only [iv] at c0 c1
        obtain ⟨kd, cd, kop, kpath, kq, kqn, kqc, rfl⟩ := isR_cells hRk
        have q0 := hkc 0 _ rfl
        have q1 := hkc 1 _ rfl
        have q2 := hkc 2 _ rfl
        have q3 := hkc 3 _ rfl
        have q4 := hkc 4 _ rfl
        simp only [iv] at q0 q1
        have hkw : kg < w.heap.size := Nat.lt_of_lt_of_le hkg HN.out
        have tP := toL path
        have hwk : kg < wr.heap.size := by omega
        have HRK := hid_in hRk
        obtain ⟨m, hm⟩ : ∃ m, Hid (xs.length = m) := ⟨_, rfl⟩
        rw [hm.out] at HO
        have hmd : m ≤ 100000000 := by have := HXD.out; have := HD.out; rw [← hm.out]; omega
        by_cases hp : path = []
        · subst hp
          go_wp2_with (first
            | (at_builtin; refine wpList_append_lies _ rfl _ _ 34 rfl (w.heap.size + 1) 9 i9 (.string ByteArray.empty) 1 16 Tryd.underlying34 hi9 hz0 hz1 hz2 rfl (by decide) u6 m (xs.map sv) rfl (HO.out.alloc _) ⟨wr.heap.size, 0, none⟩ 1 1 [.string (B op)] rfl rfl (cell_one_new _ _ _) (by simp [Value.oneCell']) (by decide) (by unfold maxLen; omega) (by omega) (by simp; omega) (wr.heap.size + 1) (by simp) ?_; intro g1 cap1 w1 hown' hgrow hgg hgl; have hb1 : Below (w.heap.size + 1) wr w1 := ((Below.refl _ wr).alloc hsz _).grown hgrow (by simp; omega) (fun k e => own_ge HO.out k e); have HB1 := hid_in hb1; have hs1 := hb1.size; obtain ⟨d0, d1, d2, d3, d4⟩ := row_cells5 ((hb1.block w.heap.size (Nat.lt_succ_self _)).trans HR.out); obtain ⟨g0, g2, g3, g4, g5⟩ := row_froz5 ((hb1.block w.heap.size (Nat.lt_succ_self _)).trans HR.out); have HR1 := hid_in ((hb1.block w.heap.size (Nat.lt_succ_self _)).trans HR.out); have r0 := (hb1.cell (p := ⟨kg, 0, none⟩) (Nat.lt_succ_of_lt hkw)).trans q0; have r1 := (hb1.cell (p := ⟨kg, 1, none⟩) (Nat.lt_succ_of_lt hkw)).trans q1; have r2 := (hb1.cell (p := ⟨kg, 2, none⟩) (Nat.lt_succ_of_lt hkw)).trans q2; have r3 := (hb1.cell (p := ⟨kg, 3, none⟩) (Nat.lt_succ_of_lt hkw)).trans q3; have r4 := (hb1.cell (p := ⟨kg, 4, none⟩) (Nat.lt_succ_of_lt hkw)).trans q4; have HO1 := hid_in hown'; clear hown' hgrow hgg hgl hb1))
          go_roundg (deepT t)
          case measure => simp [deepO, deepT]
          case rel =>
            refine ⟨some t, p', xs ++ [op], [iv kd, iv cd, .string kop, .string kpath, .slice kq kqn kqc], rfl, rfl, rfl, ?_, ?_, ?_, ?_, ?_, row5 HR1.out rfl _ _ _ _ _, ?_, below5 (HB.out.trans (HB1.out.mono (Nat.le_succ _))) (Nat.le_refl _) _ _ _ _ _, size5_le hs1 hsz⟩
            · exact (path_nil p' op t).symm.trans HP.out
            · exact (ops_snoc xs op [] t).trans HX.out
            · exact HC.out
            · exact deep_snoc HXD.out
            · exact isR_below (below5 (HB1.out.mono (by have := HN.out; omega)) HN.out _ _ _ _ _) t _ HRK.out
            · have h := own_set5 HO1.out (.int .i64 (kd : Int)) (.int .i64 (cd : Int)) (.string kop) (.string kpath) (.slice kq kqn kqc)
              rw [List.length_append, hm.out, List.map_append]
              exact h
        · have hpe : path.isEmpty = false := by simpa using hp
          go_wp2_with (first
            | (at_builtin; refine wpList_append_lies _ rfl _ _ 34 rfl (w.heap.size + 1) 9 i9 (.string ByteArray.empty) 1 16 Tryd.underlying34 hi9 hz0 hz1 hz2 rfl (by decide) u6 m (xs.map sv) rfl (HO.out.alloc _) ⟨wr.heap.size, 0, none⟩ 1 1 [.string (B op)] rfl rfl (cell_one_new _ _ _) (by simp [Value.oneCell']) (by decide) (by unfold maxLen; omega) (by omega) (by simp; omega) (wr.heap.size + 1) (by simp) ?_; intro g1 cap1 w1 hown' hgrow hgg hgl; have hb1 : Below (w.heap.size + 1) wr w1 := ((Below.refl _ wr).alloc hsz _).grown hgrow (by simp; omega) (fun k e => own_ge HO.out k e); have HB1 := hid_in hb1; have hs1 := hb1.size; obtain ⟨d0, d1, d2, d3, d4⟩ := row_cells5 ((hb1.block w.heap.size (Nat.lt_succ_self _)).trans HR.out); obtain ⟨g0, g2, g3, g4, g5⟩ := row_froz5 ((hb1.block w.heap.size (Nat.lt_succ_self _)).trans HR.out); have HR1 := hid_in ((hb1.block w.heap.size (Nat.lt_succ_self _)).trans HR.out); have r0 := (hb1.cell (p := ⟨kg, 0, none⟩) (Nat.lt_succ_of_lt hkw)).trans q0; have r1 := (hb1.cell (p := ⟨kg, 1, none⟩) (Nat.lt_succ_of_lt hkw)).trans q1; have r2 := (hb1.cell (p := ⟨kg, 2, none⟩) (Nat.lt_succ_of_lt hkw)).trans q2; have r3 := (hb1.cell (p := ⟨kg, 3, none⟩) (Nat.lt_succ_of_lt hkw)).trans q3; have r4 := (hb1.cell (p := ⟨kg, 4, none⟩) (Nat.lt_succ_of_lt hkw)).trans q4; have HO1 := hid_in hown'; clear hown' hgrow hgg hgl hb1))
          go_roundg (deepT t)
          case measure => simp [deepO, deepT]
          case rel =>
            refine ⟨some t, path, xs ++ [op], [iv kd, iv cd, .string kop, .string kpath, .slice kq kqn kqc], rfl, rfl, rfl, ?_, ?_, ?_, ?_, ?_, row5 HR1.out rfl _ _ _ _ _, ?_, below5 (HB.out.trans (HB1.out.mono (Nat.le_succ _))) (Nat.le_refl _) _ _ _ _ _, size5_le hs1 hsz⟩
            · exact (path_some p' op hp t).symm.trans HP.out
            · exact (ops_snoc xs op path t).trans HX.out
            · exact HC.out
            · exact deep_snoc HXD.out
            · exact isR_below (below5 (HB1.out.mono (by have := HN.out; omega)) HN.out _ _ _ _ _) t _ HRK.out
            · have h := own_set5 HO1.out (.int .i64 (kd : Int)) (.int .i64 (cd : Int)) (.string kop) (.string kpath) (.slice kq kqn kqc)
              rw [List.length_append, hm.out, List.map_append]
              exact h
      | lst ts =>
        have hv : IsR n wr (.lst ts) [a0, a1, a2, a3, a4] := HI.out
        unfold IsR at hv
        obtain ⟨kg, kc, kss, he, hkg, hk2, hk1, hk9, hk5, hkc, hRk⟩ := hv
        simp only [List.cons.injEq, and_true] at he
        obtain ⟨rfl, rfl, rfl, rfl, rfl⟩ := he
        cases ts with
        | nil =>
          cases kss with
          | nil => simp at hk2
          | cons k5 r => unfold IsRs at hRk; exact hRk.elim
        | cons t ts =>
          cases kss with
          | nil => simp at hk2
          | cons k5 r =>
            unfold IsRs at hRk
            obtain ⟨kd, cd, kop, kpath, kq, kqn, kqc, rfl⟩ := isR_cells hRk.1
            have q0 : wr.cell? ⟨kg, 0, none⟩ = _ := hkc 0 0 _ _ rfl rfl
            have q1 : wr.cell? ⟨kg, 1, none⟩ = _ := hkc 0 1 _ _ rfl rfl
            have q2 : wr.cell? ⟨kg, 2, none⟩ = _ := hkc 0 2 _ _ rfl rfl
            have q3 : wr.cell? ⟨kg, 3, none⟩ = _ := hkc 0 3 _ _ rfl rfl
            have q4 : wr.cell? ⟨kg, 4, none⟩ = _ := hkc 0 4 _ _ rfl rfl
            simp only [iv, e0] at q0 q1 c0 c1 c2 c3
            have HRK := hid_in hRk.1
            have hkw : kg < w.heap.size := Nat.lt_of_lt_of_le hkg HN.out
            have hwk : kg < wr.heap.size := by omega
            obtain ⟨kn, hkn⟩ : ∃ kn, ([iv kd, iv cd, Value.string kop, .string kpath, .slice kq kqn kqc] :: r).length = kn := ⟨_, rfl⟩
            rw [hkn] at c4 hk2 hk1
            clear hkc hRk hk5 hkn
            go_wp2_with fail
            go_roundg (deepT t)
            case measure => simp [deepO, deepT]
            case rel =>
              refine ⟨some t, p', xs, [iv kd, iv cd, .string kop, .string kpath, .slice kq kqn kqc], rfl, rfl, rfl, HP.out, HX.out, HC.out, Nat.le_trans (by show _ ≤ xs.length + (deepT t + 1); exact Nat.le_succ _) HXD.out, ?_, row5 HR.out rfl _ _ _ _ _, own_set5 HO.out _ _ _ _ _, below5 HB.out (Nat.le_refl _) _ _ _ _ _, size5_le (Nat.le_refl _) hsz⟩
              exact isR_below (below5 (Below.refl n wr) HN.out _ _ _ _ _) t _ HRK.out
end Go.Proofs.YtaaojfgakgjlkaaDoor
