/-
  The reference's table; its find, Bytes, Look. The reference's list and the program's array.
-/
import Derived.OwnWalk
import Derived.Laws.CopyOwn
import Derived.Laws.Tables
import Derived.Deep.RegionLaw
import Derived.Deep.DrawnRows
import Derived.Test.YtiijlnlkhpneaaaF00
import Derived.Test.YtiijlnlkhpneaaaF01
import Derived.Test.YtiijlnlkhpneaaaF02
import Derived.Test.YtiijlnlkhpneaaaF03
import Derived.Test.YtiijlnlkhpneaaaF04
import Derived.Test.YtiijlnlkhpneaaaF05
import Derived.Test.YtiijlnlkhpneaaaF06
import Derived.Test.YtiijlnlkhpneaaaF07
import Derived.Test.YtiijlnlkhpneaaaF08
import Derived.Test.YtiijlnlkhpneaaaF09
import Derived.Test.YtiijlnlkhpneaaaF10
import Derived.Test.YtiijlnlkhpneaaaF11
import Derived.Test.YtiijlnlkhpneaaaF12
import Derived.Test.YtiijlnlkhpneaaaF13
namespace Go.Proofs.Ytiijlnlkhpneaaa.Se
open Go.RowKit
open Nd (Row wp_world post_Row grownBy_setCell below_of_grown grownBy_trans grown_of_below grownBy_refl)
/-- the reference's table: block r holds the room and leads to seats -/
structure RT (w : World) (B r : Nat) (room : Int) (X : List Seat) : Prop where
  ex : ∃ v, Row w r [.int .i64 room, v] 32 ∧ SO w B v X
  ge : B ≤ r
theorem RT.below {w w' : World} {B r : Nat} {room : Int} {X : List Seat} (h : RT w B r room X) (hb : Below w.heap.size w w') : RT w' B r room X := by
  obtain ⟨v, h1, h2⟩ := h.ex
  exact ⟨⟨v, h1.below hb h1.lt, h2.below hb⟩, h.ge⟩
theorem SO.own {w : World} {B : Nat} {v : Value} {X : List Seat} (h : SO w B v X) : ∃ p cap, v = .slice p X.length cap ∧ X.length ≤ cap ∧ cap ≤ 9223372036854775807 ∧ (X ≠ [] → ∃ b cur, p = some ⟨b, 0, none⟩ ∧ B ≤ b ∧ Row w b cur 48 ∧ cur.take (X.length * 5) = tcells X) := by
  obtain ⟨_, ⟨rfl, h0⟩ | ⟨g, cap, cur, rfl, hB, hh, hn, hm, hs, ht⟩⟩ := h
  · obtain rfl := List.length_eq_zero_iff.1 h0
    exact ⟨none, 0, rfl, by simp, by omega, fun h => absurd rfl h⟩
  · refine ⟨_, cap, rfl, hn, by unfold maxLen at hm; omega, fun _ => ⟨g, cur.toList, rfl, hB, ?_, ht⟩⟩
    unfold Row
    rw [Array.toArray_toList]
    exact hh
theorem own_cell {w : World} {b : Nat} {cur : List Value} {X : List Seat} (hr : Row w b cur 48) (ht : cur.take (X.length * 5) = tcells X) {k : Nat} {s : Seat} (hk : X[k]? = some s) (j : Nat) (u : Value) (hj : s.cells[j]? = some u) : w.cell? ⟨b, k * 5 + j, none⟩ = some u := by
  have h1 := tcells_at hk j u hj
  have hl : k * 5 + j < X.length * 5 := by rw [← tcells_len]; exact (List.getElem?_eq_some_iff.1 h1).1
  rw [← ht, List.getElem?_take, if_pos hl] at h1
  rw [hr.cell]
  exact h1
/-- as it is met by a walk -/
theorem RT.at_ {w : World} {B r : Nat} {room : Int} {X : List Seat} (h : RT w B r room X) : ∃ p cap, Row w r [.int .i64 room, .slice p X.length cap] 32 ∧ X.length ≤ cap ∧ cap ≤ 9223372036854775807 ∧ (X ≠ [] → ∃ b, p = some ⟨b, 0, none⟩ ∧ B ≤ b ∧ b < w.heap.size ∧ ∀ W, Below w.heap.size w W → ∀ (i : Nat) s, X[i]? = some s → W.cell? ⟨b, i * 5, none⟩ = some (.int .i64 s.client) ∧ W.cell? ⟨b, i * 5 + 1, none⟩ = some (.int .i64 s.number) ∧ W.cell? ⟨b, i * 5 + 2, none⟩ = some (.int .i64 s.at_) ∧ W.cell? ⟨b, i * 5 + 3, none⟩ = some (.bool s.kept) ∧ W.cell? ⟨b, i * 5 + 4, none⟩ = some (.string s.reply)) := by
  obtain ⟨v, h1, h2⟩ := h.ex
  obtain ⟨p, cap, rfl, h3, h4, h5⟩ := h2.own
  refine ⟨p, cap, h1, h3, h4, fun hne => ?_⟩
  obtain ⟨b, cur, e, h6, h7, h8⟩ := h5 hne
  refine ⟨b, e, h6, h7.lt, fun W hb i s hi => ?_⟩
  have h9 := h7.below hb h7.lt
  exact ⟨own_cell h9 h8 hi 0 _ rfl, own_cell h9 h8 hi 1 _ rfl, own_cell h9 h8 hi 2 _ rfl, own_cell h9 h8 hi 3 _ rfl, own_cell h9 h8 hi 4 _ rfl⟩
def hasC (c : Int) (X : List Seat) (k : Nat) : Prop := ∃ s, X[k]? = some s ∧ s.client = c ∧ ∀ j x, X[j]? = some x → j < k → x.client ≠ c
set_option maxHeartbeats 2000000 in
set_option maxRecDepth 100000 in
theorem rfind_any {w : World} {B r : Nat} {room : Int} {X : List Seat} (h : RT w B r room X) (c : Int) (z : Option Nat) (hz : match z with | some k => hasC c X k | none => ∀ s ∈ X, s.client ≠ c) :
    Calls Try.prog 28 #[.pointer (some ⟨r, 0, none⟩), .int .i64 c] w fun e w' => e = .returned (.int .i64 (match z with | some k => (k : Int) | none => -1)) ∧ w' = w := by
  obtain ⟨p, cap, hrow, hl1, hl2, hat⟩ := h.at_
  have q1 : w.cell? ⟨r, 1, none⟩ = some (.slice p X.length cap) := hrow.cell 1
  have HAT := hid_in hat
  obtain ⟨R, HRR⟩ : ∃ R : Int, Hid ((match z with | some k => (k : Int) | none => -1) = R) := ⟨_, hid_in rfl⟩
  rw [HRR.out]
  have HIN : Hid (∀ (k : Nat) s, X[k]? = some s → (∀ j x, X[j]? = some x → j < k → x.client ≠ c) → s.client = c → R = (k : Int)) := hid_in (fun k s hk hb hs => by
    rw [← HRR.out]
    cases z with
    | none => exact absurd hs (hz s (List.mem_of_getElem? hk))
    | some k' =>
      obtain ⟨s', a1, a2, a3⟩ := hz
      simp only
      rcases Nat.lt_trichotomy k k' with hlt | rfl | hlt
      · exact absurd hs (a3 k s hk hlt)
      · rfl
      · exact absurd a2 (hb k' s' a1 hlt))
  have HEN : Hid ((∀ s ∈ X, s.client ≠ c) → R = -1) := hid_in (fun hn => by
    rw [← HRR.out]
    cases z with
    | none => rfl
    | some k' =>
      obtain ⟨s', a1, a2, a3⟩ := hz
      exact absurd a2 (hn s' (List.mem_of_getElem? a1)))
  generalize hm : X.length = m at *
  have HM := hid_in hm
  have hM : (m : Int) ≤ 9223372036854775807 := by omega
  clear h hrow hat hm hz HRR hl1 hl2
  go_enter Try.func28, Try.ntmps28
  go_wp2_with fail
  go_loopw [5] (fun vk W => ∃ k : Nat, k ≤ m ∧ vk = .int .i64 (k : Int) ∧ Hid (∀ j x, X[j]? = some x → j < k → x.client ≠ c) ∧ w = W) (fun vk _ => m - (intOf vk).toNat)
  case atStart => exact ⟨0, by omega, rfl, fun j x _ hj => absurd hj (Nat.not_lt_zero _), rfl⟩
  case round =>
    obtain ⟨k, hk, rfl, hbe, rfl⟩ := hrel
    by_cases hkm : k < m
    · obtain ⟨s, hs⟩ : ∃ s, X[k]? = some s := ⟨_, List.getElem?_eq_getElem (by rw [HM.out]; exact hkm)⟩
      obtain ⟨b, rfl, -, -, hcs⟩ := HAT.out (by rintro rfl; simp at hs)
      obtain ⟨u0, -, -, -, -⟩ := hcs _ (Below.refl _ _) k s hs
      have hkm2 : (k : Int) < (m : Int) := by omega
      have HKM := hid_in hkm
      have HS := hid_in hs
      clear hs hcs hk hkm
      by_cases hc : s.client = c
      · have HR2 := hid_in (HIN.out k s HS.out hbe.out hc)
        rw [hc] at u0
        clear hc
        go_wp2_with fail
        go_ret
        exact ⟨by rw [HR2.out]; rfl, rfl⟩
      · have hcb : (s.client == c) = false := by simpa using hc
        have HNX : Hid (∀ j x, X[j]? = some x → j < k + 1 → x.client ≠ c) := hid_in (fun j x hx hj => by
          rcases Nat.lt_or_eq_of_le (Nat.le_of_lt_succ hj) with h1 | h1
          · exact hbe.out j x hx h1
          · subst h1
            rw [HS.out] at hx
            cases hx
            exact hc)
        generalize s.client = sc at *
        clear hc
        go_wp2_with fail
        exact ⟨⟨k + 1, by have := HKM.out; omega, by go_num, HNX.out, trivial⟩, by have := HKM.out; simp [intOf]; omega⟩
    · obtain rfl : k = m := by omega
      have HR2 := hid_in (HEN.out (fun s hs => by
        obtain ⟨j, hj⟩ := List.getElem?_of_mem hs
        exact hbe.out j s hj (by rw [← HM.out]; exact (List.getElem?_eq_some_iff.1 hj).1)))
      clear hk hkm
      go_wp2_with fail
      go_ret
      exact ⟨by rw [HR2.out]; rfl, rfl⟩
set_option maxHeartbeats 2000000 in
set_option maxRecDepth 100000 in
theorem rbytes_any {w : World} {B r : Nat} {room : Int} {X : List Seat} (h : RT w B r room X) (hS : ShortT X) (h8 : X.length ≤ 8) :
    Calls Try.prog 47 #[.pointer (some ⟨r, 0, none⟩)] w fun e w' => e = .returned (.int .i64 (sumR X : Int)) ∧ w' = w := by
  obtain ⟨p, cap, hrow, hl1, hl2, hat⟩ := h.at_
  have q1 : w.cell? ⟨r, 1, none⟩ = some (.slice p X.length cap) := hrow.cell 1
  have HAT := hid_in hat
  have HSM : Hid (∀ i, sumR (X.take i) ≤ 65536) := hid_in (fun i => by
    have h1 := sumR_le (T := X.take i) (fun x hx => hS x (List.mem_of_mem_take hx))
    have h2 : (X.take i).length ≤ 8 := by simp; omega
    omega)
  obtain ⟨S, HS⟩ : ∃ S, Hid (sumR X = S) := ⟨_, hid_in rfl⟩
  rw [HS.out]
  generalize hm : X.length = m at *
  have HM := hid_in hm
  have hM : (m : Int) ≤ 8 := by omega
  clear h hrow hat hm hS hl1 hl2
  go_enter Try.func47, Try.ntmps47
  go_wp2_with fail
  go_loopw [3, 4] (fun vn vk W => ∃ k : Nat, k ≤ m ∧ vk = .int .i64 (k : Int) ∧ vn = .int .i64 (sumR (X.take k) : Int) ∧ w = W) (fun _ vk _ => m - (intOf vk).toNat)
  case atStart => exact ⟨0, by omega, rfl, rfl, rfl⟩
  case round =>
    obtain ⟨k, hk, rfl, rfl, rfl⟩ := hrel
    by_cases hkm : k < m
    · obtain ⟨s, hs⟩ : ∃ s, X[k]? = some s := ⟨_, List.getElem?_eq_getElem (by rw [HM.out]; exact hkm)⟩
      obtain ⟨b, rfl, -, -, hcs⟩ := HAT.out (by rintro rfl; simp at hs)
      obtain ⟨-, -, -, -, u4⟩ := hcs _ (Below.refl _ _) k s hs
      have HTK := hid_in (sumR_take hs)
      have hb1 := HSM.out k
      have hb2 := HSM.out (k + 1)
      rw [HTK.out] at hb2
      have hkm2 : (k : Int) < (m : Int) := by omega
      have HKM := hid_in hkm
      generalize sumR (X.take k) = y at *
      generalize s.reply = sr at *
      have hs2 : (y : Int) ≤ 65536 := by omega
      have hs3 : (sr.size : Int) ≤ 65536 := by omega
      clear hs hcs hk hkm hb1 hb2
      go_wp2_with fail
      refine ⟨⟨k + 1, by have := HKM.out; omega, by go_num, ?_, trivial⟩, by have := HKM.out; simp [intOf]; omega⟩
      rw [HTK.out]
      go_num
    · obtain rfl : k = m := by omega
      have HX : Hid (sumR (X.take k) = S) := hid_in (by rw [← HM.out, List.take_length]; exact HS.out)
      rw [HX.out]
      clear hk hkm
      go_wp2_with fail
      go_ret
      exact ⟨rfl, rfl⟩
end Go.Proofs.Ytiijlnlkhpneaaa.Se
namespace Go.Proofs.Ytiijlnlkhpneaaa.Se
open Go.RowKit
open Nd (Row wp_world post_Row grownBy_setCell below_of_grown grownBy_trans grown_of_below grownBy_refl)
theorem From.ge {off : Nat} {T : List Seat} (h : From off T) {s : Seat} (hs : s ∈ T.filter seated) : (off : Int) + 1 ≤ s.client := by
  have h1 := List.mem_filter.1 hs
  obtain ⟨j, hj⟩ := List.getElem?_of_mem h1.1
  rcases h j s hj with h2 | ⟨_, h2⟩
  · rw [seated_no h2] at h1
    exact absurd h1.2 (by simp)
  · rw [h2]; omega
theorem filter_pair : ∀ (T : List Seat) (off : Nat), From off T → (T.filter seated).Pairwise (fun a b => a.client < b.client)
  | [], _, _ => List.Pairwise.nil
  | a :: r, off, h => by
    have ih := filter_pair r (off + 1) h.tail
    rw [List.filter_cons]
    rcases h 0 a rfl with h1 | ⟨h1, h2⟩
    · rw [seated_no h1]
      exact ih
    · have h3 : seated a = true := by simpa [seated] using h1
      rw [h3]
      simp only [if_true]
      refine List.Pairwise.cons (fun b hb => ?_) ih
      have := h.tail.ge hb
      rw [h2]
      omega
theorem pair_at {X : List Seat} (h : X.Pairwise (fun a b => a.client < b.client)) {j k : Nat} {x y : Seat} (hj : X[j]? = some x) (hk : X[k]? = some y) (hlt : j < k) : x.client < y.client := by
  obtain ⟨h1, rfl⟩ := List.getElem?_eq_some_iff.1 hj
  obtain ⟨h2, rfl⟩ := List.getElem?_eq_some_iff.1 hk
  exact List.pairwise_iff_getElem.1 h j k h1 h2 hlt
/-- where a client stands in the list -/
theorem where_ {T : List Seat} (hr : Right T) {i : Nat} {s : Seat} (hs : T[i]? = some s) : (s = noSeat ∧ ∀ x ∈ T.filter seated, x.client ≠ (i : Int) + 1) ∨ (s.client = (i : Int) + 1 ∧ seated s = true ∧ ∃ k, (T.filter seated)[k]? = some s ∧ hasC ((i : Int) + 1) (T.filter seated) k) := by
  rcases hr.from i s hs with h1 | ⟨h1, h2⟩
  · left
    refine ⟨h1, fun x hx hc => ?_⟩
    have h3 := List.mem_filter.1 hx
    obtain ⟨j, hj⟩ := List.getElem?_of_mem h3.1
    rcases hr.from j x hj with h4 | ⟨_, h4⟩
    · rw [seated_no h4] at h3
      exact absurd h3.2 (by simp)
    · have : i = j := by omega
      subst this
      rw [hs] at hj
      cases hj
      rw [seated_no h1] at h3
      exact absurd h3.2 (by simp)
  · right
    rw [Nat.zero_add] at h2
    have h3 : seated s = true := by simpa [seated] using h1
    obtain ⟨k, hk⟩ := List.getElem?_of_mem (List.mem_filter.2 ⟨List.mem_of_getElem? hs, h3⟩)
    refine ⟨h2, h3, k, hk, s, hk, h2, fun j x hx hj => ?_⟩
    have := pair_at (filter_pair T 0 hr.from) hx hk hj
    omega
theorem away {T : List Seat} (hr : Right T) {c : Int} (hc : isC c = false) : ∀ x ∈ T.filter seated, x.client ≠ c := fun x hx e => by
  have h3 := List.mem_filter.1 hx
  obtain ⟨j, hj⟩ := List.getElem?_of_mem h3.1
  have hl : j < 8 := by rw [← hr.len]; exact (List.getElem?_eq_some_iff.1 hj).1
  rcases hr.from j x hj with h4 | ⟨_, h4⟩
  · rw [seated_no h4] at h3
    exact absurd h3.2 (by simp)
  · have h5 : ¬ (1 ≤ c ∧ c ≤ 8) := of_decide_eq_false hc
    omega
/-- a client's reply goes, in a list -/
def hushC (c : Int) (X : List Seat) : List Seat := X.map (fun s => if s.client = c then hush s else s)
theorem hushC_set {X : List Seat} (h : X.Pairwise (fun a b => a.client < b.client)) {k : Nat} {s : Seat} (hk : X[k]? = some s) : X.set k (hush s) = hushC s.client X := by
  refine List.ext_getElem? fun j => ?_
  unfold hushC
  rw [List.getElem?_map, List.getElem?_set]
  by_cases hj : k = j
  · subst hj
    rw [if_pos rfl, if_pos (List.getElem?_eq_some_iff.1 hk).1, hk]
    simp
  · rw [if_neg hj]
    cases hx : X[j]? with
    | none => rfl
    | some x =>
      have hne : x.client ≠ s.client := by
        rcases Nat.lt_or_ge j k with hlt | hge
        · have := pair_at h hx hk hlt; omega
        · have := pair_at h hk hx (by omega); omega
      simp [hne]
theorem hushC_keep {X : List Seat} {c : Int} (h : ∀ x ∈ X, x.client ≠ c) : hushC c X = X := by
  unfold hushC
  have e : X.map (fun s => if s.client = c then hush s else s) = X.map id := List.map_congr_left (fun x hx => by rw [if_neg (h x hx)]; rfl)
  rw [e, List.map_id]
theorem hushC_from : ∀ (T : List Seat) (off i : Nat) (s : Seat), From off T → T[i]? = some s → (T.set i (hush s)).filter seated = hushC (((off + i : Nat) : Int) + 1) (T.filter seated)
  | [], _, _, _, _, hs => by simp at hs
  | a :: r, off, 0, s, h, hs => by
    simp at hs
    subst hs
    rw [List.set_cons_zero, List.filter_cons, List.filter_cons]
    have hk : hushC (((off + 0 : Nat) : Int) + 1) (r.filter seated) = r.filter seated := hushC_keep (fun x hx => by have := h.tail.ge hx; omega)
    have hse : seated (hush a) = seated a := rfl
    rw [hse]
    rcases h 0 a rfl with h1 | ⟨h1, h2⟩
    · rw [seated_no h1]
      exact hk.symm
    · have h3 : seated a = true := by simpa [seated] using h1
      rw [h3]
      simp only [if_true]
      unfold hushC at hk ⊢
      rw [List.map_cons, hk, if_pos h2]
  | a :: r, off, i + 1, s, h, hs => by
    have ih := hushC_from r (off + 1) i s h.tail (by simpa using hs)
    rw [show off + 1 + i = off + (i + 1) by omega] at ih
    rw [List.set_cons_succ, List.filter_cons, List.filter_cons]
    rcases h 0 a rfl with h1 | ⟨h1, h2⟩
    · rw [seated_no h1]
      exact ih
    · have h3 : seated a = true := by simpa [seated] using h1
      rw [h3]
      simp only [if_true]
      unfold hushC at ih ⊢
      rw [List.map_cons, ih, if_neg (by rw [h2]; omega)]
/-- a reply goes on both sides -/
theorem hush_both {T : List Seat} (hr : Right T) {i k : Nat} {s : Seat} (hi : T[i]? = some s) (hk : (T.filter seated)[k]? = some s) : (T.set i (hush s)).filter seated = (T.filter seated).set k (hush s) := by
  rw [hushC_set (filter_pair T 0 hr.from) hk]
  have h1 := hushC_from T 0 i s hr.from hi
  rw [Nat.zero_add] at h1
  rw [h1]
  rcases where_ hr hi with ⟨h2, _⟩ | ⟨h2, _⟩
  · have := (List.mem_filter.1 (List.mem_of_getElem? hk)).2
    rw [seated_no h2] at this
    cases this
  · rw [h2]
/-- a seat that is put, in a list -/
def putC (n : Seat) (X : List Seat) : List Seat := X.filter (fun s => decide (s.client < n.client)) ++ n :: X.filter (fun s => decide (n.client < s.client))
theorem putC_from : ∀ (T : List Seat) (off i : Nat) (n : Seat), From off T → i < T.length → seated n = true → n.client = ((off + i : Nat) : Int) + 1 → (T.set i n).filter seated = putC n (T.filter seated)
  | [], _, _, _, _, hl, _, _ => by simp at hl
  | a :: r, off, 0, n, h, _, hn, hc => by
    have k1 : (r.filter seated).filter (fun s => decide (s.client < n.client)) = [] := List.filter_eq_nil_iff.2 (fun x hx => by have := h.tail.ge hx; simp; omega)
    have k2 : (r.filter seated).filter (fun s => decide (n.client < s.client)) = r.filter seated := List.filter_eq_self.2 (fun x hx => by have := h.tail.ge hx; simp; omega)
    unfold putC
    rw [List.set_cons_zero, List.filter_cons, hn, List.filter_cons]
    simp only [if_true]
    rcases h 0 a rfl with h1 | ⟨h1, h2⟩
    · rw [seated_no h1]
      simp only [Bool.false_eq_true, if_false]
      rw [k1, k2]
      rfl
    · have h3 : seated a = true := by simpa [seated] using h1
      rw [h3]
      simp only [if_true]
      rw [List.filter_cons, List.filter_cons, k1, k2, decide_eq_false (by omega), decide_eq_false (by omega)]
      rfl
  | a :: r, off, i + 1, n, h, hl, hn, hc => by
    have ih := putC_from r (off + 1) i n h.tail (by simpa using hl) hn (by rw [hc]; omega)
    unfold putC at ih ⊢
    rw [List.set_cons_succ, List.filter_cons, ih, List.filter_cons]
    rcases h 0 a rfl with h1 | ⟨h1, h2⟩
    · rw [seated_no h1]
      rfl
    · have h3 : seated a = true := by simpa [seated] using h1
      rw [h3]
      simp only [if_true]
      rw [List.filter_cons, List.filter_cons, decide_eq_true (by omega), decide_eq_false (by omega)]
      rfl
/-- the seat that goes first is the list's, too -/
theorem fold_seated : ∀ (T : List Seat) (off : Nat) (f : Seat), From off T → (T.filter seated).foldl pickS f = T.foldl pickS f
  | [], _, _, _ => rfl
  | a :: r, off, f, h => by
    rw [List.filter_cons, List.foldl_cons]
    rcases h 0 a rfl with h1 | ⟨h1, h2⟩
    · rw [seated_no h1]
      simp only [Bool.false_eq_true, if_false]
      rw [fold_seated r (off + 1) f h.tail]
      have : pickS f a = f := by
        unfold pickS
        rw [if_neg (by rw [h1]; simp [noSeat])]
      rw [this]
    · have h3 : seated a = true := by simpa [seated] using h1
      rw [h3]
      simp only [if_true]
      rw [List.foldl_cons, fold_seated r (off + 1) _ h.tail]
end Go.Proofs.Ytiijlnlkhpneaaa.Se
