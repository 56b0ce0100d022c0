/-
  The walk of the reference's All.
-/
import Derived.Test.YtaaojfgakgjlkaaDoorE0
namespace Go.Proofs.YtaaojfgakgjlkaaDoor
open Go.RowKit

theorem info33 : (Tryd.prog.info? 33).map (fun i => (i.zero, i.size, i.bytes)) = some (some (.agg #[.int .i64 0, .int .i64 0, .string ByteArray.empty, .string ByteArray.empty, .slice none 0 0]), 5, 72) := by kernel_rfl
/-- the slice reads as these errors of the reference, in blocks of A -/
structure RErrs (A : Nat → Prop) (W : World) (p : Option Addr) (cap : Nat) (os : List (Option Tr)) (uss : List (List Value)) : Prop where
  len : uss.length = os.length
  le : uss.length ≤ cap
  big : cap ≤ 9223372036854775807
  cells : ∃ b o, (uss ≠ [] → p = some ⟨b, o, none⟩ ∧ b < W.heap.size) ∧ ∀ (j i : Nat) us u, uss[j]? = some us → us[i]? = some u → W.cell? ⟨b, o + j * 5 + i, none⟩ = some u
  are : ∀ (j : Nat) o us, os[j]? = some o → uss[j]? = some us → IsROA A W o us
theorem flat_at {ks : List (List Value)} (h5 : ∀ us ∈ ks, us.length = 5) {j i : Nat} {us : List Value} {u : Value} (hj : ks[j]? = some us) (hi : us[i]? = some u) : ks.flatten[j * 5 + i]? = some u := by
  induction ks generalizing j with
  | nil => simp at hj
  | cons k ks ih =>
    have hk : k.length = 5 := h5 k (by simp)
    rw [List.flatten_cons]
    cases j with
    | zero =>
      simp at hj
      subst hj
      have := (List.getElem?_eq_some_iff.1 hi).1
      rw [Nat.zero_mul, Nat.zero_add, List.getElem?_append_left this]
      exact hi
    | succ j =>
      rw [List.getElem?_append_right (by omega), hk, show (j + 1) * 5 + i - 5 = j * 5 + i by omega]
      exact ih (fun us hu => h5 us (by simp [hu])) (by simpa using hj)
theorem flat_len {ks : List (List Value)} (h5 : ∀ us ∈ ks, us.length = 5) : ks.flatten.length = ks.length * 5 := by
  induction ks with
  | nil => rfl
  | cons k ks ih =>
    rw [List.flatten_cons, List.length_append, h5 k (by simp), ih (fun us hu => h5 us (by simp [hu]))]
    simp; omega

theorem cells_new (W : World) (vs : List Value) (X : Array Value) (t : TypeId) (hX : X = vs.toArray) (b : Nat) (hb : W.heap.size = b) : ∀ (j : Nat) x, vs[j]? = some x → (W.alloc (.cells X t)).cell? ((⟨b, 0, none⟩ : Addr).add j) = some x := by
  intro j x hx
  subst hX hb
  have e : ((⟨W.heap.size, 0, none⟩ : Addr).add j) = ⟨W.heap.size, j, none⟩ := by simp [Addr.add]; omega
  rw [e, cell_of_row _ W.heap.size j _ _ (0, 0) (World.alloc_heap_new W _)]
  simpa using hx
/-- five cells of a block stored -/
def set5 (W : World) (g : Nat) (a b c d e : Value) : World := ((((W.setCell ⟨g, 0, none⟩ a).setCell ⟨g, 1, none⟩ b).setCell ⟨g, 2, none⟩ c).setCell ⟨g, 3, none⟩ d).setCell ⟨g, 4, none⟩ e
theorem below5 {B : Nat} {w W : World} (h : Below B w W) {g : Nat} (hg : B ≤ g) (a b c d e : Value) : Below B w (set5 W g a b c d e) :=
  ((((h.setCell (p := ⟨g, 0, none⟩) hg a).setCell (p := ⟨g, 1, none⟩) hg b).setCell (p := ⟨g, 2, none⟩) hg c).setCell (p := ⟨g, 3, none⟩) hg d).setCell (p := ⟨g, 4, none⟩) hg e
theorem keep5 (W : World) (g : Nat) (a b c d e : Value) (k : Nat) (h : k ≠ g) : (set5 W g a b c d e).heap[k]? = W.heap[k]? := by
  unfold set5
  rw [Below.heap_setCell _ _ _ _ h, Below.heap_setCell _ _ _ _ h, Below.heap_setCell _ _ _ _ h, Below.heap_setCell _ _ _ _ h, Below.heap_setCell _ _ _ _ h]
theorem size5 (W : World) (g : Nat) (a b c d e : Value) : (set5 W g a b c d e).heap.size = W.heap.size := by simp [set5, World.setCell]
theorem row5 {W : World} {g : Nat} {cs : Array Value} {t : TypeId} (h : W.heap[g]? = some (.cells cs t (0, 0))) (hs : cs.size = 5) (a b c d e : Value) : (set5 W g a b c d e).heap[g]? = some (.cells #[a, b, c, d, e] t (0, 0)) := by
  unfold set5
  rw [row_put (row_put (row_put (row_put (row_put h 0 a) 1 b) 2 c) 3 d) 4 e]
  obtain ⟨l⟩ := cs
  obtain ⟨x0, x1, x2, x3, x4, rfl⟩ := five hs
  rfl
theorem info33s : (Tryd.prog.info? 33).map (·.size) = some 5 := by kernel_rfl
def zR : Obj := .cells #[.int .i64 0, .int .i64 0, .string ByteArray.empty, .string ByteArray.empty, .slice none 0 0] 33
set_option maxHeartbeats 2000000 in
set_option maxRecDepth 100000 in
theorem rall_any (A : Nat → Prop) (p : Option Addr) (cap : Nat) (os : List (Option Tr)) (uss : List (List Value)) (w : World) (he : RErrs A w p cap os uss) (hA : ∀ b, A b → b < w.heap.size) (hl : uss.length ≤ 1000) :
    Calls Tryd.prog 24 #[.slice p uss.length cap] w fun e w' => ∃ r, e = .returned (.agg (List.toArray r)) ∧ IsROA (fun b => A b ∨ (w.heap.size ≤ b ∧ b < w'.heap.size)) w' (allO os) r ∧ Below w.heap.size w w' := by
  obtain ⟨b, o, hp, hcell⟩ := he.cells
  obtain ⟨i33, hi33, hz0, hz1, hz2⟩ := info_parts info33
  have HP := hid_in (fun h => (hp h).1)
  have HPB := hid_in (fun h => (hp h).2)
  have HC := hid_in hcell
  have HARE := hid_in he.are
  have HLEN := hid_in he.len
  have hbig := he.big
  have hcapl := he.le
  have HAA := hid_in hA
  generalize hn : uss.length = n at *
  have Hn := hid_in hn
  clear hn hp hcell he hA
  go_enter Tryd.func24, Tryd.ntmps24
  go_wp2_with fail
  go_loopw [3, 4] (fun v3 vi W => ∃ i : Nat, i ≤ n ∧ vi = .int .i64 (i : Int) ∧ Hid (Below (w.heap.size + 1) (w.alloc zR) W) ∧ Hid (∃ ks : List (List Value), W.ownsRow (w.heap.size + 1) 33 5 v3 ks.length ks.flatten ∧ ks.length = (kept (os.take i)).length ∧ ∀ (j : Nat) t us, (kept (os.take i))[j]? = some t → ks[j]? = some us → IsRA A w t us)) (fun _ vi _ => n - (intOf vi).toNat)
  case atStart => exact ⟨0, by omega, rfl, Below.refl _ _, [], World.ownsRow_nil _ _ _ _, rfl, fun j t u h => by simp [kept] at h⟩
  case round =>
    obtain ⟨i, hi, rfl, hbw, hks⟩ := hrel
    by_cases hlt : i < n
    · obtain ⟨us, hu⟩ : ∃ us, uss[i]? = some us := ⟨_, List.getElem?_eq_getElem (by rw [Hn.out]; exact hlt)⟩
      obtain ⟨x, hx⟩ : ∃ x, os[i]? = some x := ⟨_, List.getElem?_eq_getElem (by rw [← HLEN.out]; exact hlt)⟩
      have hne : uss ≠ [] := by rintro rfl; simp at hu
      obtain rfl := HP.out hne
      have hbl := HPB.out hne
      have hE := HARE.out i x us hx hu
      obtain ⟨kd, cd, op, path, q, qn, qc, rfl, hkd, hkd3⟩ := isROA_cells hE
      have cu : ∀ (y : Nat) u, [iv kd, iv cd, .string op, .string path, .slice q qn qc][y]? = some u → wr.cell? ⟨b, o + i * 5 + y, none⟩ = some u := fun y u hy => (hbw.out.cell (p := ⟨b, o + i * 5 + y, none⟩) (Nat.lt_succ_of_lt hbl)).trans <| (Below.cell (Below.alloc (Below.refl w.heap.size w) (Nat.le_refl _) zR) (p := ⟨b, o + i * 5 + y, none⟩) hbl).trans (HC.out i y _ u hu hy)
      have c0 : wr.cell? ⟨b, o + i * 5, none⟩ = some (.int .i64 (kd : Int)) := cu 0 _ rfl
      have c1 : wr.cell? ⟨b, o + i * 5 + 1, none⟩ = some (.int .i64 (cd : Int)) := cu 1 _ rfl
      have c2 : wr.cell? ⟨b, o + i * 5 + 2, none⟩ = some (.string op) := cu 2 _ rfl
      have c3 : wr.cell? ⟨b, o + i * 5 + 3, none⟩ = some (.string path) := cu 3 _ rfl
      have c4 : wr.cell? ⟨b, o + i * 5 + 4, none⟩ = some (.slice q qn qc) := cu 4 _ rfl
      clear cu
      cases x with
      | none =>
        obtain rfl : kd = 0 := hkd.2 rfl
        have HK := hid_in (kept_none hx)
        clear hu hx hne hE hkd hkd3
        go_wp2_with fail
        go_roundw
        case rel =>
          go_light
          refine ⟨i + 1, by omega, by go_num, hbw, ?_⟩
          have h1 := hks.out
          rw [← HK.out] at h1
          exact h1
        case measure => simp [intOf]; omega
      | some T =>
        have hk0 : 0 < kd := by
          rcases Nat.eq_zero_or_pos kd with h | h
          · cases hkd.1 h
          · exact h
        have hq0 : ((kd : Int) == 0) = false := by rw [beq_eq_false_iff_ne]; omega
        have hE' : IsRA A w T _ := hE
        have HE := hid_in hE'
        have HK := hid_in (kept_some hx)
        have HKL := hid_in (kept_le os i)
        obtain ⟨ks, hown, hkl, hk2⟩ := hks.out
        have HOWN := hid_in hown
        have HKK := hid_in hkl
        have HK2 := hid_in hk2
        clear hu hx hne hE hE' hown hkl hk2 hks hkd
        obtain ⟨m, hm⟩ : ∃ m, Hid (m = ks.length) := ⟨_, rfl⟩
        rw [← hm.out] at HOWN
        have hml : m ≤ i := by rw [hm.out, HKK.out]; exact HKL.out
        have hmx : m + 1 ≤ maxLen := by unfold maxLen; omega
        have hws : w.heap.size + 1 ≤ wr.heap.size := by have := hbw.out.size; simpa using this
        go_wp2_with (first | (at_builtin; refine wpList_append_own _ rfl _ _ 27 rfl (w.heap.size + 1) 33 i33 _ 5 72 Tryd.underlying27 hi33 hz0 hz1 hz2 rfl (by decide) u3 m ks.flatten rfl (HOWN.out.alloc _) ⟨wr.heap.size, 0, none⟩ 1 1 [iv kd, iv cd, .string op, .string path, .slice q qn qc] rfl rfl (cells_new _ _ _ _ rfl _ rfl) (by simp [Value.oneCell', iv]) hmx (by omega) (by simp; omega) ?_; intro v' w1 hown' hgrow _; have HO := hid_in hown'; have HG := hid_in hgrow; clear hown' hgrow))
        have HB1 : Hid (Below (w.heap.size + 1) (w.alloc zR) w1) := (hbw.out.alloc hws _).grown HG.out (by simp; omega) (fun k e => own_ge HOWN.out k e)
        refine ⟨⟨i + 1, by omega, by go_num, HB1, ks ++ [[iv kd, iv cd, .string op, .string path, .slice q qn qc]], ?_, ?_, ?_⟩, by simp [intOf]; omega⟩
        · rw [List.length_append, ← hm.out, List.flatten_append]; exact HO.out
        · rw [HK.out, List.length_append, List.length_append, HKK.out]; rfl
        · intro j t u h1 h2
          rw [HK.out] at h1
          by_cases hj : j < ks.length
          · rw [List.getElem?_append_left (by rw [← HKK.out]; exact hj)] at h1
            rw [List.getElem?_append_left hj] at h2
            exact HK2.out j t u h1 h2
          · have hj2 : j = ks.length := by
              have := (List.getElem?_eq_some_iff.1 h2).1
              simp at this; omega
            subst hj2
            rw [List.getElem?_append_right (by rw [HKK.out]; exact Nat.le_refl _), HKK.out, Nat.sub_self] at h1
            rw [List.getElem?_append_right (Nat.le_refl _), Nat.sub_self] at h2
            simp at h1 h2
            subst h1 h2
            exact HE.out
    · have hin : i = n := by omega
      subst hin
      obtain ⟨ks, hown, hkl, hk2⟩ := hks.out
      have hti : os.take i = os := List.take_of_length_le (by rw [← HLEN.out]; exact Nat.le_refl _)
      rw [hti] at hkl hk2
      have hml : ks.length ≤ 1000 := by rw [hkl]; have := kept_le os i; rw [hti] at this; omega
      have hsz : w.heap.size + 1 ≤ wr.heap.size := by have := hbw.out.size; simpa using this
      have hkeep : ∀ b, A b → wr.heap[b]? = w.heap[b]? := fun b hb => (hbw.out.block b (Nat.lt_succ_of_lt (HAA.out b hb))).trans (Below.heap_alloc w zR b (HAA.out b hb))
      have hres : wr.heap[w.heap.size]? = some zR := (hbw.out.block w.heap.size (Nat.lt_succ_self _)).trans (World.alloc_heap_new w zR)
      have HRES := hid_in hres
      have HBW : Hid (Below w.heap.size w wr) := ((Below.refl w.heap.size w).alloc (Nat.le_refl _) zR).trans (hbw.out.mono (Nat.le_succ _))
      have f0 : ∀ j, wr.frozen? ⟨w.heap.size, j, none⟩ = false := fun j => by simp [World.frozen?, hres, zR]
      have f0' := f0 0
      have f1' := f0 1
      have f2' := f0 2
      have f3' := f0 3
      have f4' := f0 4
      have r0 : wr.cell? ⟨w.heap.size, 0, none⟩ = some (.int .i64 0) := by rw [cell_of_row wr w.heap.size 0 _ _ (0, 0) hres]; rfl
      have r1 : wr.cell? ⟨w.heap.size, 1, none⟩ = some (.int .i64 0) := by rw [cell_of_row wr w.heap.size 1 _ _ (0, 0) hres]; rfl
      have r2 : wr.cell? ⟨w.heap.size, 2, none⟩ = some (.string ByteArray.empty) := by rw [cell_of_row wr w.heap.size 2 _ _ (0, 0) hres]; rfl
      have r3 : wr.cell? ⟨w.heap.size, 3, none⟩ = some (.string ByteArray.empty) := by rw [cell_of_row wr w.heap.size 3 _ _ (0, 0) hres]; rfl
      have r4 : wr.cell? ⟨w.heap.size, 4, none⟩ = some (.slice none 0 0) := by rw [cell_of_row wr w.heap.size 4 _ _ (0, 0) hres]; rfl
      have HAL : Hid (allO os = match kept os with | [] => none | [t] => some t | ts => some (.lst (TrL.of ts))) := rfl
      generalize kept os = kk at hkl hk2 HAL
      clear hks hti hres f0
      match kk, ks, hkl with
      | [], [], _ =>
        obtain ⟨pp, cc, rfl⟩ : ∃ pp cc, u3 = .slice pp 0 cc := by
          rcases hown.2 with ⟨rfl, _⟩ | ⟨g, c, cur, rfl, _⟩
          · exact ⟨_, _, rfl⟩
          · exact ⟨_, _, rfl⟩
        clear hown hk2 hkeep
        go_wp2_with fail
        refine bodyPost_ret (results_cell_row (p := 2) (ty := 33) rfl _ _ w.heap.size 33 _ (0, 0) _ rfl (row5 HRES.out rfl (.int .i64 0) (.int .i64 0) (.string { data := #[] }) (.string { data := #[] }) (.slice none 0 0)) Tryd.underlying33 rfl info33s) rfl ?_
        exact ⟨[iv 0, iv 0, e0, e0, .slice none 0 0], rfl, by rw [HAL.out]; exact rfl, below5 HBW.out (Nat.le_refl _) _ _ _ _ _⟩
      | [t], [u], _ =>
        rcases hown.2 with ⟨_, h0⟩ | ⟨g, c, cur, rfl, hgb, hgr, hgc, hgm, hgs, hgt⟩
        · simp at h0
        have hE := hk2 0 t u rfl rfl
        obtain ⟨kd, cd, op, path, q, qn, qc, rfl, _, _⟩ := isRA_cells hE
        have hgl : g < wr.heap.size := (Array.getElem?_eq_some_iff.1 hgr).1
        have cu : ∀ (y : Nat) z, [iv kd, iv cd, .string op, .string path, .slice q qn qc][y]? = some z → wr.cell? ⟨g, y, none⟩ = some z := by
          intro y z hy
          rw [cell_of_row wr g y _ _ (0, 0) hgr]
          have hl5 := (List.getElem?_eq_some_iff.1 hy).1
          have h1 : (cur.toList.take (1 * 5))[y]? = [iv kd, iv cd, .string op, .string path, .slice q qn qc][y]? := by
            have h2 : cur.toList.take (1 * 5) = [iv kd, iv cd, .string op, .string path, .slice q qn qc] := hgt
            rw [h2]
          rw [List.getElem?_take, if_pos (by simpa using hl5), Array.getElem?_toList] at h1
          rw [h1, hy]
        have c0 : wr.cell? ⟨g, 0, none⟩ = some (.int .i64 (kd : Int)) := cu 0 _ rfl
        have c1 : wr.cell? ⟨g, 1, none⟩ = some (.int .i64 (cd : Int)) := cu 1 _ rfl
        have c2 : wr.cell? ⟨g, 2, none⟩ = some (.string op) := cu 2 _ rfl
        have c3 : wr.cell? ⟨g, 3, none⟩ = some (.string path) := cu 3 _ rfl
        have c4 : wr.cell? ⟨g, 4, none⟩ = some (.slice q qn qc) := cu 4 _ rfl
        have HE := hid_in hE
        have HKE := hid_in hkeep
        have hone : [[iv kd, iv cd, Value.string op, .string path, .slice q qn qc]].length = 1 := rfl
        rw [hone] at hgc ⊢
        clear hown hk2 hkeep hgr hgt hgs cu hE hone
        go_wp2_with fail
        refine bodyPost_ret (results_cell_row (p := 2) (ty := 33) rfl _ _ w.heap.size 33 _ (0, 0) _ rfl (row5 HRES.out rfl (.int .i64 (kd : Int)) (.int .i64 (cd : Int)) (.string op) (.string path) (.slice q qn qc)) Tryd.underlying33 rfl info33s) rfl ?_
        refine ⟨[iv kd, iv cd, .string op, .string path, .slice q qn qc], rfl, ?_, below5 HBW.out (Nat.le_refl _) _ _ _ _ _⟩
        rw [HAL.out]
        exact isRA_keep (fun b hb => .inl hb) (fun b hb => (keep5 _ _ _ _ _ _ _ _ (by have := HAA.out b hb; omega)).trans (HKE.out b hb)) t _ HE.out
      | t1 :: t2 :: tr, v1 :: v2 :: vr, hkl =>
        rcases hown.2 with ⟨_, h0⟩ | ⟨g, c, cur, rfl, hgb, hgr, hgc, hgm, hgs, hgt⟩
        · simp at h0
        have h5 : ∀ us ∈ v1 :: v2 :: vr, us.length = 5 := by
          intro us hu
          obtain ⟨x, hx⟩ := List.mem_iff_getElem?.1 hu
          have hxl := (List.getElem?_eq_some_iff.1 hx).1
          obtain ⟨t, ht⟩ : ∃ t, (t1 :: t2 :: tr)[x]? = some t := ⟨_, List.getElem?_eq_getElem (by rw [← hkl]; exact hxl)⟩
          obtain ⟨_, _, _, _, _, _, _, rfl, _⟩ := isRA_cells (hk2 x t us ht hx)
          rfl
        have HCE : Hid (∀ (j y : Nat) us z, (v1 :: v2 :: vr)[j]? = some us → us[y]? = some z → wr.cell? ⟨g, j * 5 + y, none⟩ = some z) := by
          intro j y us z hj hy
          rw [cell_of_row wr g (j * 5 + y) _ _ (0, 0) hgr]
          have h1 := flat_at h5 hj hy
          have hlt := (List.getElem?_eq_some_iff.1 h1).1
          rw [flat_len h5] at hlt
          rw [← hgt, List.getElem?_take, if_pos hlt, Array.getElem?_toList] at h1
          exact h1
        have H5 := hid_in h5
        have hgl : g < wr.heap.size := (Array.getElem?_eq_some_iff.1 hgr).1
        have HK2 := hid_in hk2
        have HKE := hid_in hkeep
        have HKL := hid_in hkl
        have hc9 : c ≤ 9223372036854775807 := by unfold maxLen at hgm; omega
        have Hgc := hid_in hgc
        clear hown hk2 hkeep hgr hgt hgs hkl hgm hgc h5
        obtain ⟨m, hm⟩ : ∃ m, Hid (m = (v1 :: v2 :: vr).length) := ⟨_, rfl⟩
        rw [← hm.out] at hml ⊢
        have hm2 : 2 ≤ m := by rw [hm.out]; simp
        have hq0 : ((m : Int) == 0) = false := by rw [beq_eq_false_iff_ne]; omega
        have hq1 : ((m : Int) == 1) = false := by rw [beq_eq_false_iff_ne]; omega
        go_wp2_with fail
        refine bodyPost_ret (results_cell_row (p := 2) (ty := 33) rfl _ _ w.heap.size 33 _ (0, 0) _ rfl (row5 HRES.out rfl (.int .i64 3) (.int .i64 0) (.string { data := #[] }) (.string { data := #[] }) (.slice (some ⟨g, 0, none⟩) m c)) Tryd.underlying33 rfl info33s) rfl ?_
        refine ⟨[iv 3, iv 0, e0, e0, .slice (some ⟨g, 0, none⟩) m c], rfl, ?_, below5 HBW.out (Nat.le_refl _) _ _ _ _ _⟩
        rw [HAL.out]
        show IsRA _ _ (.lst (TrL.of (t1 :: t2 :: tr))) _
        unfold IsRA
        refine ⟨g, c, v1 :: v2 :: vr, by rw [← hm.out], .inr ⟨by omega, (size5 _ _ _ _ _ _ _).symm ▸ hgl⟩, by simp, Hgc.out, hc9, H5.out, fun j y us z hj hz => ?_, ?_⟩
        · exact (World.cell?_of_block (w := wr) (a := ⟨g, j * 5 + y, none⟩) (keep5 _ _ _ _ _ _ _ g (by omega))).trans (HCE.out j y us z hj hz)
        · refine isRAs_of (by rw [HKL.out]) (fun j t u h1 h2 => isRA_keep (fun b hb => .inl hb) (fun b hb => ?_) t u (HK2.out j t u h1 h2))
          exact (keep5 _ _ _ _ _ _ _ b (by have := HAA.out b hb; omega)).trans (HKE.out b hb)
end Go.Proofs.YtaaojfgakgjlkaaDoor
