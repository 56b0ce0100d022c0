/-
  Errors as the reference has them: trees of structs; the walk of its Text.
-/
import Derived.Test.YtaaojfgakgjlkaaDoorA2
namespace Go.Proofs.YtaaojfgakgjlkaaDoor
open Go.RowKit

def iv (k : Nat) : Value := .int .i64 (k : Int)
def e0 : Value := .string { data := #[] }
/-- none -/
def noneR : List Value := [iv 0, iv 0, e0, e0, .slice none 0 0]
mutual
/-- the five cells are this error, its parts in blocks below n -/
def IsR (n : Nat) (W : World) : Tr → List Value → Prop
  | .num k, vs => vs = [iv 1, iv k, e0, e0, .slice none 0 0] ∧ 0 < k ∧ k ≤ 300
  | .flt op path t, vs => ∃ g cap us, vs = [iv 2, iv 0, .string (B op), .string (B path), .slice (some ⟨g, 0, none⟩) 1 cap] ∧ g < n ∧ 1 ≤ cap ∧ cap ≤ 9223372036854775807 ∧ us.length = 5 ∧ (∀ (i : Nat) u, us[i]? = some u → W.cell? ⟨g, i, none⟩ = some u) ∧ IsR n W t us
  | .lst ts, vs => ∃ g cap uss, vs = [iv 3, iv 0, e0, e0, .slice (some ⟨g, 0, none⟩) uss.length cap] ∧ g < n ∧ 2 ≤ uss.length ∧ uss.length ≤ cap ∧ cap ≤ 9223372036854775807 ∧ (∀ us ∈ uss, us.length = 5) ∧ (∀ (j i : Nat) us u, uss[j]? = some us → us[i]? = some u → W.cell? ⟨g, j * 5 + i, none⟩ = some u) ∧ IsRs n W ts uss
def IsRs (n : Nat) (W : World) : TrL → List (List Value) → Prop
  | .nil, [] => True
  | .cons t ts, v :: vs => IsR n W t v ∧ IsRs n W ts vs
  | _, _ => False
end
theorem isR_below {n : Nat} {W W' : World} (h : Below n W W') : (∀ T v, IsR n W T v → IsR n W' T v) := by
  intro T
  refine Tr.rec (motive_1 := fun T => ∀ v, IsR n W T v → IsR n W' T v) (motive_2 := fun ts => ∀ vs, IsRs n W ts vs → IsRs n W' ts vs) ?_ ?_ ?_ ?_ ?_ T
  · intro k v hv; exact hv
  · intro op path t ih v hv
    unfold IsR at hv ⊢
    obtain ⟨g, cap, us, h1, h2, h3, h4, h5, h6, h7⟩ := hv
    exact ⟨g, cap, us, h1, h2, h3, h4, h5, fun i u hu => (h.cell (p := ⟨g, i, none⟩) h2).trans (h6 i u hu), ih us h7⟩
  · intro ts ih v hv
    unfold IsR at hv ⊢
    obtain ⟨g, cap, uss, h1, h2, h3, h4, h5, h6, h7, h8⟩ := hv
    exact ⟨g, cap, uss, h1, h2, h3, h4, h5, h6, fun j i us u hj hu => (h.cell (p := ⟨g, j * 5 + i, none⟩) h2).trans (h7 j i us u hj hu), ih uss h8⟩
  · intro vs hv; cases vs <;> exact hv
  · intro t ts h1 h2 vs hv
    cases vs with
    | nil => unfold IsRs at hv; exact hv.elim
    | cons v vs => unfold IsRs at hv ⊢; exact ⟨h1 v hv.1, h2 vs hv.2⟩
theorem isR_mono {n m : Nat} (hnm : n ≤ m) {W : World} : (∀ T v, IsR n W T v → IsR m W T v) := by
  intro T
  refine Tr.rec (motive_1 := fun T => ∀ v, IsR n W T v → IsR m W T v) (motive_2 := fun ts => ∀ vs, IsRs n W ts vs → IsRs m W ts vs) ?_ ?_ ?_ ?_ ?_ T
  · intro k v hv; exact hv
  · intro op path t ih v hv
    unfold IsR at hv ⊢
    obtain ⟨g, cap, us, h1, h2, h3, h4, h5, h6, h7⟩ := hv
    exact ⟨g, cap, us, h1, by omega, h3, h4, h5, h6, ih us h7⟩
  · intro ts ih v hv
    unfold IsR at hv ⊢
    obtain ⟨g, cap, uss, h1, h2, h3, h4, h5, h6, h7, h8⟩ := hv
    exact ⟨g, cap, uss, h1, by omega, h3, h4, h5, h6, h7, ih uss h8⟩
  · intro vs hv; cases vs <;> exact hv
  · intro t ts h1 h2 vs hv
    cases vs with
    | nil => unfold IsRs at hv; exact hv.elim
    | cons v vs => unfold IsRs at hv ⊢; exact ⟨h1 v hv.1, h2 vs hv.2⟩
theorem isRs_list {n : Nat} {W : World} : ∀ {ts : TrL} {vs : List (List Value)}, IsRs n W ts vs → vs.length = ts.list.length ∧ ∀ (j : Nat) v, vs[j]? = some v → ∃ t, ts.list[j]? = some t ∧ IsR n W t v
  | .nil, [], _ => ⟨rfl, fun j v h => by simp at h⟩
  | .cons t ts, v :: vs, h => by
    unfold IsRs at h
    obtain ⟨h1, h2⟩ := isRs_list h.2
    refine ⟨by simp [TrL.list, h1], fun j u hu => ?_⟩
    cases j with
    | zero => simp at hu; subst hu; exact ⟨t, rfl, h.1⟩
    | succ j => exact h2 j u (by simpa using hu)
  | .nil, _ :: _, h => by unfold IsRs at h; exact h.elim
  | .cons _ _, [], h => by unfold IsRs at h; exact h.elim
theorem five {us : List Value} (h : us.length = 5) : ∃ a b c d e, us = [a, b, c, d, e] := by
  match us, h with
  | [a, b, c, d, e], _ => exact ⟨a, b, c, d, e, rfl⟩

/-- what the reference's Text does with an error -/
def RTells (T : Tr) : Prop := ∀ (n : Nat) (w : World) (vs : List Value), IsR n w T vs → n ≤ w.heap.size → Tab n w → (textS T).length ≤ 140737488355328 →
  Calls Tryd.prog 15 #[.agg vs.toArray] w fun e w' => e = .returned (.string (B (textS T))) ∧ Below w.heap.size w w'

set_option maxHeartbeats 400000 in
set_option maxRecDepth 100000 in
theorem rtell_num (k : Nat) : RTells (.num k) := by
  intro n w vs hv hn ht hl
  unfold IsR at hv
  obtain ⟨rfl, hk0, hk⟩ := hv
  have hbel : Below w.heap.size w (w.alloc (.cells #[.int .i64 1, .int .i64 (k : Int), .string { data := #[] }, .string { data := #[] }, .slice none 0 0] 33)) := (Below.refl _ _).alloc (Nat.le_refl _) _
  have HE := hid_in (err_any k hk n _ (ht.below (hbel.mono hn)))
  have HBE := hid_in hbel
  clear hl ht hbel
  simp only [textS]
  generalize B (errS ++ Lib.itoa (k : Int)) = s at HE ⊢
  show Calls Tryd.prog 15 #[.agg #[.int .i64 1, .int .i64 (k : Int), .string { data := #[] }, .string { data := #[] }, .slice none 0 0]] w fun e w' => e = .returned (.string s) ∧ Below w.heap.size w w'
  go_enter Tryd.func15, Tryd.ntmps15
  go_wp2_with (first
    | (go_at_call 27; refine HE.out.mono ?_; rintro e w1 ⟨rfl, hbel⟩; have HBW := hid_in (HBE.out.trans (hbel.mono HBE.out.size)); clear hbel))
  go_ret
  exact ⟨rfl, HBW.out⟩

theorem eight {xs : Str} (h : xs.length ≤ 140737488355328) (k : Nat) (hk : k ≤ 1000) : ¬ 9223372036854775807 < (B xs).size + k := by rw [B_size]; omega

set_option maxHeartbeats 1000000 in
set_option maxRecDepth 100000 in
theorem rtell_flt (op path : Str) (t : Tr) (ih : RTells t) : RTells (.flt op path t) := by
  intro n w vs hv hn ht hl
  unfold IsR at hv
  obtain ⟨g, cap, us, rfl, hg, hc1, hcb, h5, hcell, hkid⟩ := hv
  obtain ⟨a, b, c, d, e, rfl⟩ := five h5
  simp only [textS] at hl ⊢
  have hgw : g < w.heap.size := by omega
  have k0 : w.cell? ⟨g, 0, none⟩ = some a := hcell 0 a rfl
  have k1 : w.cell? ⟨g, 1, none⟩ = some b := hcell 1 b rfl
  have k2 : w.cell? ⟨g, 2, none⟩ = some c := hcell 2 c rfl
  have k3 : w.cell? ⟨g, 3, none⟩ = some d := hcell 3 d rfl
  have k4 : w.cell? ⟨g, 4, none⟩ = some e := hcell 4 e rfl
  have hlt : (textS t).length ≤ 140737488355328 := by simp at hl; omega
  have hbel : Below w.heap.size w (w.alloc (.cells #[.int .i64 2, .int .i64 0, .string (B op), .string (B path), .slice (some ⟨g, 0, none⟩) 1 cap] 33)) := (Below.refl _ _).alloc (Nat.le_refl _) _
  have HIH := hid_in (ih n _ [a, b, c, d, e] (isR_below (hbel.mono hn) _ _ hkid) (Nat.le_trans hn hbel.size) (ht.below (hbel.mono hn)) hlt)
  have HBE := hid_in hbel
  have hpl := hl
  have tP := toL path
  have ea : Hid (B op ++ { data := #[32] } = B (op ++ [32])) := append_B _ [32]
  have eb : Hid (B (op ++ [32]) ++ B path = B (op ++ [32] ++ path)) := append_B _ _
  have ec : Hid (B (op ++ [32] ++ path) ++ { data := #[58, 32] } = B (op ++ [32] ++ path ++ [58, 32])) := append_B _ [58, 32]
  have ed : Hid (B op ++ { data := #[58, 32] } = B (op ++ [58, 32])) := append_B _ [58, 32]
  have ef : Hid (∀ z, B z ++ B (textS t) = B (z ++ textS t)) := fun z => append_B _ _
  clear hcell hkid hbel ih ht h5
  by_cases hp : path = []
  · subst hp
    have n1 : ¬ 9223372036854775807 < (B op).size + 2 := by rw [B_size]; simp at hl; omega
    have n2 : ¬ 9223372036854775807 < (B (op ++ [58, 32])).size + (B (textS t)).size := by rw [B_size, B_size]; simp [pathS] at hl ⊢; omega
    have HR : Hid (B (op ++ [58, 32]) ++ B (textS t) = B (op ++ pathS [] ++ [58, 32] ++ textS t)) := by show _ = _; rw [ef.out]; simp [pathS]
    have ed' := ed.out
    clear ea eb ec ed ef hl hpl
    generalize B (op ++ pathS [] ++ [58, 32] ++ textS t) = r at HR ⊢
    generalize B (textS t) = st at n2 HR HIH
    generalize B (op ++ [58, 32]) = s2 at n2 HR ed'
    generalize B [] = sp at tP HBE HIH ⊢
    generalize B op = so at n1 ed' HBE HIH ⊢
    show Calls Tryd.prog 15 #[.agg #[.int .i64 2, .int .i64 0, .string so, .string sp, .slice (some ⟨g, 0, none⟩) 1 cap]] w fun e w' => e = .returned (.string r) ∧ Below w.heap.size w w'
    go_enter Tryd.func15, Tryd.ntmps15
    go_wp2_with (first
      | (go_at_call 15; refine HIH.out.mono ?_; rintro e w1 ⟨rfl, hbel⟩; have HBW := hid_in (HBE.out.trans (hbel.mono HBE.out.size)); clear hbel))
    go_ret
    refine ⟨?_, HBW.out⟩
    rw [← HR.out]; rfl
  · have n1 : ¬ 9223372036854775807 < (B op).size + 1 := by rw [B_size]; simp at hl; omega
    have n2 : ¬ 9223372036854775807 < (B (op ++ [32])).size + (B path).size := by rw [B_size, B_size]; simp [pathS, hp] at hl ⊢; omega
    have n3 : ¬ 9223372036854775807 < (B (op ++ [32] ++ path)).size + 2 := by rw [B_size]; simp [pathS, hp] at hl ⊢; omega
    have n4 : ¬ 9223372036854775807 < (B (op ++ [32] ++ path ++ [58, 32])).size + (B (textS t)).size := by rw [B_size, B_size]; simp [pathS, hp] at hl ⊢; omega
    have HR : Hid (B (op ++ [32] ++ path ++ [58, 32]) ++ B (textS t) = B (op ++ pathS path ++ [58, 32] ++ textS t)) := by show _ = _; rw [ef.out]; simp [pathS, hp]
    have ea' := ea.out
    have eb' := eb.out
    have ec' := ec.out
    have tP0 : (B path).toList.isEmpty = false := by rw [tP]; simpa using hp
    clear ea eb ec ed ef hl hpl tP hp
    generalize B (op ++ pathS path ++ [58, 32] ++ textS t) = r at HR ⊢
    generalize B (textS t) = st at n4 HR HIH
    generalize B (op ++ [32] ++ path ++ [58, 32]) = s4 at n4 HR ec'
    generalize B (op ++ [32] ++ path) = s3 at n3 eb' ec'
    generalize B (op ++ [32]) = s2 at n2 ea' eb'
    generalize B path = sp at tP0 HBE HIH n2 eb' ⊢
    generalize B op = so at n1 ea' HBE HIH ⊢
    show Calls Tryd.prog 15 #[.agg #[.int .i64 2, .int .i64 0, .string so, .string sp, .slice (some ⟨g, 0, none⟩) 1 cap]] w fun e w' => e = .returned (.string r) ∧ Below w.heap.size w w'
    go_enter Tryd.func15, Tryd.ntmps15
    go_wp2_with (first
      | (go_at_call 15; refine HIH.out.mono ?_; rintro e w1 ⟨rfl, hbel⟩; have HBW := hid_in (HBE.out.trans (hbel.mono HBE.out.size)); clear hbel))
    go_ret
    refine ⟨?_, HBW.out⟩
    rw [← HR.out]; rfl

set_option maxHeartbeats 1000000 in
set_option maxRecDepth 100000 in
theorem rtell_lst (ts : TrL) (ih : ∀ t ∈ ts.list, RTells t) : RTells (.lst ts) := by
  intro n w vs hv hn ht hl
  unfold IsR at hv
  obtain ⟨g, cap, uss, rfl, hg, h2, hcap, hcb, h5, hcell, hkids⟩ := hv
  rw [text_lst] at hl ⊢
  obtain ⟨hlen, hkid⟩ := isRs_list hkids
  generalize ts.list = xs at ih hl hlen hkid ⊢
  obtain ⟨w1, hw1⟩ : ∃ w1, w.alloc (.cells #[.int .i64 3, .int .i64 0, .string { data := #[] }, .string { data := #[] }, .slice (some ⟨g, 0, none⟩) uss.length cap] 33) = w1 := ⟨_, rfl⟩
  have hbel : Below w.heap.size w w1 := by rw [← hw1]; exact (Below.refl _ _).alloc (Nat.le_refl _) _
  have hrow : w1.heap[w.heap.size]? = some (.cells #[.int .i64 3, .int .i64 0, .string { data := #[] }, .string { data := #[] }, .slice (some ⟨g, 0, none⟩) uss.length cap] 33 (0, 0)) := by rw [← hw1]; exact World.alloc_heap_new w _
  have HQ := hid_in (show w1.cell? ⟨w.heap.size, 4, none⟩ = some (.slice (some ⟨g, 0, none⟩) uss.length cap) by rw [cell_of_row w1 _ 4 _ 33 (0, 0) hrow]; rfl)
  have hs1 : w1.heap.size = w.heap.size + 1 := by rw [← hw1]; simp
  have HS1 := hid_in hs1
  have HCE := hid_in hcell
  have H5 := hid_in h5
  have HKID := hid_in hkid
  have HTAB := hid_in ht
  have HIH := hid_in ih
  have HL := hid_in hl
  have HBE := hid_in hbel
  have HW1 := hid_in hw1
  generalize hvn : uss.length = k at *
  have Hvn := hid_in hvn
  have Hlen := hid_in hlen
  clear hcell hkids hkid ht ih hl hlen hvn h5 hrow hbel hs1 hw1
  have hgw : g < w.heap.size := by omega
  show Calls Tryd.prog 15 #[.agg #[.int .i64 3, .int .i64 0, .string { data := #[] }, .string { data := #[] }, .slice (some ⟨g, 0, none⟩) k cap]] w fun e w' => e = .returned (.string (B (joinT xs))) ∧ Below w.heap.size w w'
  go_enter Tryd.func15, Tryd.ntmps15
  go_wp2_with fail
  rw [HW1.out]
  go_loopw [4, 5] (fun vs vi W => Hid (Below w1.heap.size w1 W) ∧ ∃ i : Nat, i ≤ k ∧ vi = .int .i64 (i : Int) ∧ vs = .string (B (joinT (xs.take i)))) (fun _ vi _ => k - (intOf vi).toNat)
  case atStart => exact ⟨Below.refl _ _, 0, by omega, rfl, rfl⟩
  case round =>
    obtain ⟨hbw, i, hi, rfl, rfl⟩ := hrel
    have q4 : wr.cell? ⟨w.heap.size, 4, none⟩ = some (.slice (some ⟨g, 0, none⟩) k cap) := (hbw.out.cell (p := ⟨w.heap.size, 4, none⟩) (by rw [HS1.out]; exact Nat.lt_succ_self _)).trans HQ.out
    by_cases hlt : i < k
    · obtain ⟨us, hu⟩ : ∃ us, uss[i]? = some us := ⟨_, List.getElem?_eq_getElem (by rw [Hvn.out]; exact hlt)⟩
      obtain ⟨x, hx, hE⟩ := HKID.out i us hu
      obtain ⟨a, b, c, d, e, hus⟩ := five (H5.out us (List.mem_of_getElem? hu))
      subst hus
      have hgc : ∀ (j : Nat) z, [a, b, c, d, e][j]? = some z → wr.cell? ⟨g, i * 5 + j, none⟩ = some z := fun j z hz => (hbw.out.cell (p := ⟨g, i * 5 + j, none⟩) (by rw [HS1.out]; exact Nat.lt_succ_of_lt hgw)).trans ((HBE.out.cell (p := ⟨g, i * 5 + j, none⟩) hgw).trans (HCE.out i j _ z hu hz))
      have c0 : wr.cell? ⟨g, i * 5, none⟩ = some a := hgc 0 a rfl
      have c1 : wr.cell? ⟨g, i * 5 + 1, none⟩ = some b := hgc 1 b rfl
      have c2 : wr.cell? ⟨g, i * 5 + 2, none⟩ = some c := hgc 2 c rfl
      have c3 : wr.cell? ⟨g, i * 5 + 3, none⟩ = some d := hgc 3 d rfl
      have c4 : wr.cell? ⟨g, i * 5 + 4, none⟩ = some e := hgc 4 e rfl
      have hwb : Below w.heap.size w wr := HBE.out.trans (hbw.out.mono HBE.out.size)
      have HJ := hid_in (joinT_take hx)
      have HJL := hid_in (joinT_takele xs (i + 1))
      have hxl : (textS x).length ≤ 140737488355328 := by
        have h1 := HJ.out; have h2 := HJL.out; have h3 := HL.out
        rw [h1] at h2
        simp only [List.length_append] at h2; omega
      have HT := hid_in (HIH.out x (List.mem_of_getElem? hx) n wr _ (isR_below (hwb.mono hn) _ _ hE) (Nat.le_trans hn hwb.size) (HTAB.out.below (hwb.mono hn)) hxl)
      clear hu hx hE hgc hwb hxl
      obtain ⟨m, hm⟩ : ∃ m, Hid (m = joinT (xs.take i)) := ⟨_, rfl⟩
      rw [← hm.out] at HJ ⊢
      by_cases h0 : i = 0
      · have HJ0 : Hid (B m ++ B (textS x) = B (joinT (xs.take (i + 1)))) := by show _ = _; rw [HJ.out, if_pos h0, List.append_nil]; exact append_B _ _
        have n1 : ¬ 9223372036854775807 < (B m).size + (B (textS x)).size := by
          rw [B_size, B_size]
          have h1 := HJ.out; have h2 := HJL.out; have h3 := HL.out
          rw [h1] at h2
          simp only [List.length_append] at h2; omega
        clear HJ
        generalize B (textS x) = sx at HT n1 HJ0
        generalize B m = sm at n1 HJ0 ⊢
        have hi0 : ¬ 0 < i := by omega
        clear h0
        go_wp2_with (first
          | (go_at_call 15; refine HT.out.mono ?_; rintro e w2 ⟨rfl, hbel⟩; have HBW := hid_in (hbw.out.trans (hbel.mono hbw.out.size)); clear hbel))
        exact ⟨⟨HBW, i + 1, by omega, by go_num, by rw [HJ0.out]⟩, by simp [intOf]; omega⟩
      · have HJA : Hid (B m ++ { data := #[59, 32] } = B (m ++ [59, 32])) := append_B _ [59, 32]
        have HJ0 : Hid (B (m ++ [59, 32]) ++ B (textS x) = B (joinT (xs.take (i + 1)))) := by show _ = _; rw [HJ.out, if_neg h0]; exact append_B _ _
        have n1 : ¬ 9223372036854775807 < (B m).size + 2 := by
          rw [B_size]
          have h1 := HJ.out; have h2 := HJL.out; have h3 := HL.out
          rw [h1, if_neg h0] at h2
          simp only [List.length_append, List.length_cons, List.length_nil] at h2; omega
        have n2 : ¬ 9223372036854775807 < (B (m ++ [59, 32])).size + (B (textS x)).size := by
          rw [B_size, B_size]
          have h1 := HJ.out; have h2 := HJL.out; have h3 := HL.out
          rw [h1, if_neg h0] at h2
          simp only [List.length_append, List.length_cons, List.length_nil] at h2 ⊢; omega
        have ha := HJA.out
        clear HJ HJA
        generalize B (textS x) = sx at HT n2 HJ0
        generalize B (m ++ [59, 32]) = s2 at ha n2 HJ0
        generalize B m = sm at n1 ha ⊢
        have hi0 : 0 < i := by omega
        clear h0
        go_wp2_with (first
          | (go_at_call 15; refine HT.out.mono ?_; rintro e w2 ⟨rfl, hbel⟩; have HBW := hid_in (hbw.out.trans (hbel.mono hbw.out.size)); clear hbel))
        exact ⟨⟨HBW, i + 1, by omega, by go_num, by rw [HJ0.out]⟩, by simp [intOf]; omega⟩
    · have hik : i = k := by omega
      subst hik
      have hti : xs.take i = xs := List.take_of_length_le (by rw [← Hlen.out]; omega)
      rw [hti]
      clear hti
      go_wp2_with fail
      go_ret
      exact ⟨rfl, HBE.out.trans (hbw.out.mono HBE.out.size)⟩

theorem rtell_all (T : Tr) : RTells T :=
  Tr.rec (motive_1 := RTells) (motive_2 := fun ts => ∀ t ∈ ts.list, RTells t) rtell_num (fun op path t ih => rtell_flt op path t ih) (fun ts ih => rtell_lst ts ih)
    (fun t ht => by cases ht) (fun t ts h1 h2 u hu => by
      simp only [TrL.list, List.mem_cons] at hu
      rcases hu with rfl | hu
      · exact h1
      · exact h2 u hu) T
/-- an error, or none -/
def IsRO (n : Nat) (W : World) : Option Tr → List Value → Prop
  | none, vs => vs = noneR
  | some T, vs => IsR n W T vs
theorem isRO_below {n : Nat} {W W' : World} (h : Below n W W') {o : Option Tr} {v : List Value} (hv : IsRO n W o v) : IsRO n W' o v := by
  cases o with
  | none => exact hv
  | some T => exact isR_below h T v hv
theorem isRO_mono {n m : Nat} (h : n ≤ m) {W : World} {o : Option Tr} {v : List Value} (hv : IsRO n W o v) : IsRO m W o v := by
  cases o with
  | none => exact hv
  | some T => exact isR_mono h T v hv

set_option maxHeartbeats 400000 in
set_option maxRecDepth 100000 in
theorem rtext_any (o : Option Tr) (n : Nat) (vs : List Value) (w : World) (hv : IsRO n w o vs) (hn : n ≤ w.heap.size) (ht : Tab n w) (hl : (textO o).length ≤ 140737488355328) :
    Calls Tryd.prog 15 #[.agg vs.toArray] w fun e w' => e = .returned (.string (B (textO o))) ∧ Below w.heap.size w w' := by
  cases o with
  | some T => exact rtell_all T n w vs hv hn ht hl
  | none =>
    obtain rfl : vs = noneR := hv
    have hbel : Hid (Below w.heap.size w (w.alloc (.cells #[.int .i64 0, .int .i64 0, .string { data := #[] }, .string { data := #[] }, .slice none 0 0] 33))) := (Below.refl _ _).alloc (Nat.le_refl _) _
    show Calls Tryd.prog 15 #[.agg #[.int .i64 0, .int .i64 0, .string { data := #[] }, .string { data := #[] }, .slice none 0 0]] w fun e w' => e = .returned (.string (B [])) ∧ Below w.heap.size w w'
    go_enter Tryd.func15, Tryd.ntmps15
    go_wp2_with fail
    go_ret
    exact ⟨rfl, hbel.out⟩
end Go.Proofs.YtaaojfgakgjlkaaDoor
