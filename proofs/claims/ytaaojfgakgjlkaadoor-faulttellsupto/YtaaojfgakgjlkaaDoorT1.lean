/-
  The faults on the way to an error.
-/
import Derived.Test.YtaaojfgakgjlkaaDoorT0
import Derived.Test.YtaaojfgakgjlkaaDoorH1
namespace Go.Proofs.YtaaojfgakgjlkaaDoor
open Go.RowKit

def waysT : Tr → List (Str × Str)
  | .num _ => []
  | .flt op path t => (op, path) :: waysT t
  | .lst .nil => []
  | .lst (.cons t _) => waysT t
def waysO : Option Tr → List (Str × Str)
  | none => []
  | some T => waysT T
def ptr (b : Nat) : Value := .pointer (some ⟨b, 0, none⟩)
/-- these blocks are faults with these operations and paths -/
def FR (n : Nat) (W : World) (bs : List Nat) (ws : List (Str × Str)) : Prop :=
  bs.length = ws.length ∧ ∀ (j b : Nat) (x : Str × Str), bs[j]? = some b → ws[j]? = some x → b < n ∧ W.cell? ⟨b, 0, none⟩ = some (.string (B x.1)) ∧ W.cell? ⟨b, 1, none⟩ = some (.string (B x.2))
theorem FR.snoc {n : Nat} {W : World} {bs : List Nat} {ws : List (Str × Str)} (h : FR n W bs ws) {b : Nat} {x : Str × Str} (hb : b < n) (h0 : W.cell? ⟨b, 0, none⟩ = some (.string (B x.1))) (h1 : W.cell? ⟨b, 1, none⟩ = some (.string (B x.2))) : FR n W (bs ++ [b]) (ws ++ [x]) := by
  refine ⟨by simp [h.1], fun j b' x' hj hx => ?_⟩
  by_cases hlt : j < bs.length
  · rw [List.getElem?_append_left hlt] at hj
    rw [List.getElem?_append_left (by rw [← h.1]; exact hlt)] at hx
    exact h.2 j b' x' hj hx
  · have hj2 : j = bs.length := by
      have := (List.getElem?_eq_some_iff.1 hj).1
      simp at this; omega
    subst hj2
    rw [List.getElem?_append_right (Nat.le_refl _), Nat.sub_self] at hj
    rw [List.getElem?_append_right (by rw [h.1]; exact Nat.le_refl _), h.1, Nat.sub_self] at hx
    simp at hj hx
    subst hj hx
    exact ⟨hb, h0, h1⟩
theorem FR.below {n : Nat} {W W' : World} {bs : List Nat} {ws : List (Str × Str)} (h : FR n W bs ws) (hb : Below n W W') : FR n W' bs ws :=
  ⟨h.1, fun j b x h1 h2 => ⟨(h.2 j b x h1 h2).1, (hb.cell (p := ⟨b, 0, none⟩) (h.2 j b x h1 h2).1).trans (h.2 j b x h1 h2).2.1, (hb.cell (p := ⟨b, 1, none⟩) (h.2 j b x h1 h2).1).trans (h.2 j b x h1 h2).2.2⟩⟩
set_option maxHeartbeats 1000000 in
set_option maxRecDepth 100000 in
theorem inside_nil (w : World) : Calls Tryd.prog 34 #[.nilIface] w fun e w' => e = .returned (.slice none 0 0) ∧ w' = w := by
  have t1 := ta0_42
  have t2 := ta0_44
  go_enter Tryd.func34, Tryd.ntmps34
  go_wp2_with fail
  go_ret
  exact ⟨rfl, rfl⟩
set_option maxHeartbeats 1000000 in
set_option maxRecDepth 100000 in
theorem inside_lst (b g k cap : Nat) (w : World) (h : w.heap[b]? = some (.cells #[.slice (some ⟨g, 0, none⟩) k cap] 65 (0, 0))) : Calls Tryd.prog 34 #[.iface 44 (.pointer (some ⟨b, 0, none⟩))] w fun e w' => e = .returned (.slice (some ⟨g, 0, none⟩) k cap) ∧ w' = w := by
  have t1 := ta44_42
  have t2 := ta44_44
  have c0 : w.cell? ⟨b, 0, none⟩ = some (.slice (some ⟨g, 0, none⟩) k cap) := by rw [cell_of_row w b 0 _ _ (0, 0) h]; rfl
  clear h
  go_enter Tryd.func34, Tryd.ntmps34
  go_wp2_with fail
  go_ret
  exact ⟨rfl, rfl⟩
theorem grown_old {W w1 : World} {Y : Obj} {o : Option Nat} {b : Nat} {v : Value} (h : (W.alloc Y).grownBy w1 o) (hne : some b ≠ o) (hb : b < W.heap.size) (hc : W.cell? ⟨b, 0, none⟩ = some v) : w1.cell? ⟨b, 0, none⟩ = some v := by
  rw [World.cell?_of_block (w := W.alloc Y) (a := ⟨b, 0, none⟩) (h.block b (by simp; omega) hne), World.cell?_of_block (w := W) (a := ⟨b, 0, none⟩) (Below.heap_alloc W Y b hb)]
  exact hc
theorem ways_snoc (ws : List (Str × Str)) (op path : Str) (t : Tr) : (ws ++ [(op, path)]) ++ waysT t = ws ++ waysT (.flt op path t) := by simp [waysT]
theorem len_snoc {bs : List Nat} {b : Nat} {op path : Str} {t : Tr} {D : Nat} (h : bs.length + deepT (.flt op path t) ≤ D) : (bs ++ [b]).length + deepT t ≤ D := by
  have e : deepT (.flt op path t) = deepT t + 1 := rfl
  rw [List.length_append, List.length_singleton]
  omega
theorem isE_shape {n : Nat} {W : World} {T : Tr} {v : Value} (hv : IsE n W T v) : ∃ t x, v = .iface t x := by
  cases T with
  | num k => unfold IsE at hv; obtain ⟨rfl, _⟩ := hv; exact ⟨_, _, rfl⟩
  | flt op path t => unfold IsE at hv; obtain ⟨_, _, rfl, _⟩ := hv; exact ⟨_, _, rfl⟩
  | lst ts => unfold IsE at hv; obtain ⟨_, _, _, _, rfl, _⟩ := hv; exact ⟨_, _, rfl⟩
set_option maxHeartbeats 1000000 in
set_option maxRecDepth 100000 in
theorem faults_none (w : World) : Calls Tryd.prog 26 #[.nilIface] w fun e w' => e = .returned (.slice none 0 0) ∧ Below w.heap.size w w' := by
  have t4 := ta0_42
  have HB0 : Hid (Below w.heap.size w (w.alloc (.cells #[.nilIface] 30))) := (Below.refl _ _).alloc (Nat.le_refl _) _
  go_enter Tryd.func26, Tryd.ntmps26
  go_wp2_with fail
  refine wp_loop_rounds 2 ?_
  rw [rounds_succ]
  go_wp2_with (first | (go_at_call 34; refine (inside_nil _).mono ?_; rintro e w' ⟨rfl, hw⟩; subst hw))
  rw [rounds_succ]
  go_wp2_with fail
  go_ret
  exact ⟨rfl, HB0.out⟩
set_option maxHeartbeats 4000000 in
set_option maxRecDepth 100000 in
theorem faults_some (T : Tr) (n : Nat) (ty : TypeId) (x : Value) (w : World) (hv : IsE n w T (.iface ty x)) (hn : n ≤ w.heap.size) (hd : deepT T ≤ 100000000) :
    Calls Tryd.prog 26 #[.iface ty x] w fun e w' => ∃ v' bs, e = .returned v' ∧ w'.ownsRow w.heap.size 42 1 v' bs.length (bs.map ptr) ∧ FR n w' bs (waysT T) ∧ Below w.heap.size w w' := by
  obtain ⟨i42, hi42, hz0, hz1, hz2⟩ := info_parts info42
  have HV := hid_in hv
  have HN := hid_in hn
  have HD := hid_in hd
  have t1 := ta42_42
  have t2 := ta31_42
  have t3 := ta44_42
  clear hv hn hd
  have HB0 : Hid (Below w.heap.size w (w.alloc (.cells #[.iface ty x] 30))) := (Below.refl _ _).alloc (Nat.le_refl _) _
  have HC0 : Hid ((w.alloc (.cells #[.iface ty x] 30)).cell? ⟨w.heap.size, 0, none⟩ = some (.iface ty x)) := by
    show _ = _
    rw [cell_of_row _ w.heap.size 0 _ _ (0, 0) (World.alloc_heap_new w _)]; rfl
  go_enter Tryd.func26, Tryd.ntmps26
  go_wp2_with fail
  go_loopg [3, 4] (deepT T + 1) (fun g v3 v4 W => ∃ (bs : List Nat) (ws : List (Str × Str)), Hid (FR n W bs ws) ∧ Hid (W.ownsRow w.heap.size 42 1 v3 bs.length (bs.map ptr)) ∧ Hid (Below w.heap.size w W) ∧ w.heap.size ≤ W.heap.size ∧ ((v4 = .slice none 0 0 ∧ Hid (ws = waysT T)) ∨ ∃ (T' : Tr) (v' : Value) (b' q1 c1 : Nat), g = deepT T' + 1 ∧ v4 = .slice (some ⟨b', 0, none⟩) q1 c1 ∧ 0 < q1 ∧ q1 ≤ c1 ∧ c1 ≤ 9223372036854775807 ∧ W.cell? ⟨b', 0, none⟩ = some v' ∧ b' < W.heap.size ∧ Hid (some b' ≠ v3.ownBlock) ∧ Hid (IsE n W T' v') ∧ Hid (ws ++ waysT T' = waysT T) ∧ Hid (bs.length + deepT T' ≤ deepT T)))
  case atStart => exact ⟨[], [], ⟨rfl, fun j b x h => by simp at h⟩, World.ownsRow_nil _ _ _ _, HB0.out, by simp, .inr ⟨T, _, w.heap.size, 1, 1, rfl, rfl, by omega, by omega, by omega, HC0.out, by simp, (by show _ ≠ _; simp [Value.ownBlock]), isE_below (HB0.out.mono HN.out) T _ HV.out, rfl, (by show 0 + _ ≤ _; omega)⟩⟩
  case round =>
    obtain ⟨bs, ws, HF, HO, HB, hsz, ⟨rfl, HW⟩ | ⟨T', v', b', q1, c1, rfl, rfl, hq1, hqc, hc9, cv, hbl, HNE, HI, HW, HL⟩⟩ := hrel
    · go_wp2_with fail
      go_ret
      exact ⟨_, bs, rfl, HO.out, by rw [← HW.out]; exact HF.out, HB.out⟩
    · obtain ⟨m, hm⟩ : ∃ m, Hid (bs.length = m) := ⟨_, rfl⟩
      rw [hm.out] at HO
      have hmd : m ≤ 100000000 := by have := HL.out; have := HD.out; rw [← hm.out]; omega
      have kq : (0 : Int) < (q1 : Int) := by omega
      cases T' with
      | num k =>
        have hv' : IsE n wr (.num k) v' := HI.out
        unfold IsE at hv'
        obtain ⟨rfl, _, _⟩ := hv'
        go_wp2_with (first | (go_at_call 34; refine (inside_num _ _).mono ?_; rintro e w' ⟨rfl, hw⟩; subst hw))
        go_roundg 0
        case measure => simp
        case rel => exact ⟨bs, ws, HF, (by rw [hm.out]; exact HO), HB, hsz, .inl ⟨rfl, (List.append_nil ws).symm.trans HW.out⟩⟩
      | flt op path t =>
        have hv' : IsE n wr (.flt op path t) v' := HI.out
        unfold IsE at hv'
        obtain ⟨fb, ev, rfl, hfb, hrow, hEk⟩ := hv'
        obtain ⟨et, ex, rfl⟩ := isE_shape hEk
        have HROW := hid_in hrow
        have HEK := hid_in hEk
        obtain ⟨r0, r1, r2⟩ := cell_row3 hrow
        have HR0 := hid_in r0
        have HR1 := hid_in r1
        clear hrow hEk r0 r1 r2
        go_wp2_with (first
          | (at_builtin; refine wpList_append_lies _ rfl _ _ 61 rfl w.heap.size 42 i42 (.pointer none) 1 8 Tryd.underlying61 hi42 hz0 hz1 hz2 rfl (by decide) u3 m (bs.map ptr) rfl (HO.out.alloc _) ⟨wr.heap.size, 0, none⟩ 1 1 [.pointer (some ⟨fb, 0, none⟩)] rfl rfl (cell_one_new _ _ _) (by simp [Value.oneCell']) (by decide) (by unfold maxLen; omega) (by omega) (by simp; omega) (wr.heap.size + 1) (by simp) ?_; intro g1 cap1 w1 hown' hgrow hgg hgl; have HB1 : Hid (Below w.heap.size wr w1) := ((Below.refl _ wr).alloc hsz _).grown hgrow (by simp; omega) (fun k e => own_ge HO.out k e); have hs1 := HB1.out.size; have cv1 : w1.cell? ⟨b', 0, none⟩ = some (.iface 42 (.pointer (some ⟨fb, 0, none⟩))) := grown_old hgrow HNE.out hbl cv; have HO1 := hid_in hown'; have hg1 := own_lt hown' g1 rfl; clear hown' hgrow hgg hgl)
          | (go_at_call 34; refine (inside_flt fb _ _ et ex w1 ((HB1.out.block fb (Nat.lt_of_lt_of_le hfb HN.out)).trans HROW.out)).mono ?_; rintro e w' ⟨rfl, hw⟩; subst hw))
        have HB2 : Hid (Below w.heap.size wr (w1.alloc (.cells #[.iface et ex] 30))) := HB1.out.alloc (by omega) _
        go_roundg (deepT t + 1)
        case measure => simp [deepT]
        case rel =>
          refine ⟨bs ++ [fb], ws ++ [(op, path)], (HF.out.snoc hfb HR0.out HR1.out).below (HB2.out.mono HN.out), ?_, HB.out.trans HB2.out, by simp; omega, .inr ⟨t, _, w1.heap.size, 1, 1, rfl, rfl, by omega, by omega, by omega, ?_, by simp, ?_, isE_below (HB2.out.mono HN.out) t _ HEK.out, ?_, ?_⟩⟩
          · have h := HO1.out.alloc (.cells #[.iface et ex] 30)
            rw [List.length_append, hm.out, List.map_append]
            exact h
          · rw [cell_of_row _ w1.heap.size 0 _ _ (0, 0) (World.alloc_heap_new w1 _)]; rfl
          · show some w1.heap.size ≠ some g1
            intro e
            have := Option.some.inj e
            omega
          · exact (ways_snoc ws op path t).trans HW.out
          · exact len_snoc HL.out
      | lst ts =>
        have hv' : IsE n wr (.lst ts) v' := HI.out
        unfold IsE at hv'
        obtain ⟨fb, fg, fc, vs, rfl, hfb, hrow, hfg, hf2, hfl, hf9, hfcl, hEk⟩ := hv'
        cases ts with
        | nil =>
          cases vs with
          | nil => simp at hf2
          | cons a r => unfold IsEs at hEk; exact hEk.elim
        | cons t ts =>
          cases vs with
          | nil => simp at hf2
          | cons a r =>
            unfold IsEs at hEk
            have HROW := hid_in hrow
            have HEK := hid_in hEk.1
            have HC := hid_in (hfcl 0 a rfl)
            obtain ⟨kn, hkn⟩ : ∃ kn, (a :: r).length = kn := ⟨_, rfl⟩
            rw [hkn] at HROW hf2 hfl
            clear hrow hEk hfcl hkn
            go_wp2_with (first | (go_at_call 34; refine (inside_lst fb fg kn fc wr HROW.out).mono ?_; rintro e w' ⟨rfl, hw⟩; subst hw))
            go_roundg (deepT t + 1)
            case measure => simp [deepT]
            case rel =>
              refine ⟨bs, ws, HF, (by rw [hm.out]; exact HO), HB, hsz, .inr ⟨t, a, fg, kn, fc, rfl, rfl, by omega, hfl, hf9, HC.out, by have := HN.out; omega, ?_, HEK.out, HW.out, Nat.le_trans (by show _ ≤ bs.length + (deepT t + 1); exact Nat.le_succ _) HL.out⟩⟩
              intro e
              have := own_ge HO.out fg e.symm
              have := HN.out
              omega
end Go.Proofs.YtaaojfgakgjlkaaDoor
