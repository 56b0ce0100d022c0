/-
  Plain facts for SessionRoom; the reference's Seats of equal lists. The reference's table; its find, Bytes, Look.
-/
import Derived.Laws.Tables
import Derived.Laws.CopyOwn
import Derived.Deep.RegionLaw
import Derived.Deep.DrawnRows
import Derived.Lib.AppendZeros
import Derived.OwnWalk
import Derived.Laws.StructEq
import Derived.Test.YtiijlnlkhpneaaaD00
import Derived.Test.YtiijlnlkhpneaaaD01
import Derived.Test.YtiijlnlkhpneaaaD02
import Derived.Test.YtiijlnlkhpneaaaD03
import Derived.Test.YtiijlnlkhpneaaaD04
import Derived.Test.YtiijlnlkhpneaaaD05
namespace Go.Proofs.Ytiijlnlkhpneaaa.Se
open Go.RowKit
open Nd (Row wp_world grownBy_setCell below_of_grown grownBy_trans grown_of_below grownBy_refl)
/-- seats at their places, from a place on -/
def From (off : Nat) (T : List Seat) : Prop := ∀ (j : Nat) s, T[j]? = some s → s = noSeat ∨ (s.number ≠ 0 ∧ s.client = ((off + j : Nat) : Int) + 1)
theorem From.tail {off : Nat} {a : Seat} {r : List Seat} (h : From off (a :: r)) : From (off + 1) r := fun j s hs => by
  have h1 := h (j + 1) s (by simpa using hs)
  rw [show off + (j + 1) = off + 1 + j by omega] at h1
  exact h1
theorem Right.from {T : List Seat} (h : Right T) : From 0 T := fun j s hs => by
  rcases (h.at_ j s hs).who with h1 | ⟨h1, h2⟩
  · exact .inl h1
  · have h3 : 1 ≤ s.number ∧ s.number ≤ 1099511627776 := of_decide_eq_true h1
    exact .inr ⟨by omega, by rw [h2, Nat.zero_add]⟩
theorem seated_no {s : Seat} (h : s = noSeat) : seated s = false := by rw [h]; rfl
theorem sumR_cons (a : Seat) (r : List Seat) : sumR (a :: r) = a.reply.size + sumR r := by simp [sumR]
theorem keptN_cons (a : Seat) (r : List Seat) : keptN (a :: r) = (if a.kept then 1 else 0) + keptN r := by
  unfold keptN
  rw [List.filter_cons]
  cases a.kept <;> simp <;> omega
theorem sums_seated : ∀ (T : List Seat) (off : Nat), From off T → sumR (T.filter seated) = sumR T ∧ keptN (T.filter seated) = keptN T
  | [], _, _ => ⟨rfl, rfl⟩
  | a :: r, off, h => by
    obtain ⟨h1, h2⟩ := sums_seated r (off + 1) h.tail
    rw [List.filter_cons]
    rcases h 0 a rfl with h3 | ⟨h3, _⟩
    · rw [seated_no h3]
      simp only [Bool.false_eq_true, if_false]
      rw [h1, h2, sumR_cons, keptN_cons, h3]
      exact ⟨(Nat.zero_add _).symm, (Nat.zero_add _).symm⟩
    · have h4 : seated a = true := by simpa [seated] using h3
      rw [h4]
      simp only [if_true]
      rw [sumR_cons, sumR_cons, keptN_cons, keptN_cons, h1, h2]
      exact ⟨rfl, rfl⟩
theorem SO.grown {W W' : World} {B g : Nat} {v : Value} {X : List Seat} (h : SO W B v X) (hg : W.grownBy W' (some g)) (hB : g < B) : SO W' B v X := by
  obtain ⟨h1, h2 | ⟨b, cap, cur, hv, hb, hh, r⟩⟩ := h
  · exact ⟨h1, .inl h2⟩
  · refine ⟨h1, .inr ⟨b, cap, cur, hv, hb, ?_, r⟩⟩
    rw [hg.block b (Array.getElem?_eq_some_iff.1 hh).1 (fun e => by have := Option.some.inj e; omega)]
    exact hh
set_option maxHeartbeats 2000000 in
set_option maxRecDepth 100000 in
theorem seats_yes {w : World} {u v : Value} {X : List Seat} (hu : Sls w u X) (hv : Sls w v X) : Calls Try.prog 12 #[u, v] w fun e w' => e = .returned (.bool true) ∧ Below w.heap.size w w' := by
  obtain ⟨p, c, rfl, hl, hat⟩ := hu.at_
  obtain ⟨p', c', rfl, -, hat'⟩ := hv.at_
  have HA := hid_in hat
  have HA' := hid_in hat'
  have hM : (X.length : Int) ≤ 9223372036854775807 := by omega
  generalize hm : X.length = m at *
  have HM := hid_in hm
  clear hu hv hat hat' hl hm
  go_enter Try.func12, Try.ntmps12
  go_wp2_with fail
  go_loopw [5] (fun vk W => ∃ k : Nat, k ≤ m ∧ vk = .int .i64 (k : Int) ∧ ∃ d, W = w.drewN d) (fun vk _ => m - (intOf vk).toNat)
  case atStart => exact ⟨0, by omega, rfl, 0, rfl⟩
  case round =>
    obtain ⟨k, hk, rfl, d, rfl⟩ := hrel
    by_cases hkm : k < m
    · obtain ⟨s, hs⟩ : ∃ s, X[k]? = some s := ⟨_, List.getElem?_eq_getElem (by rw [HM.out]; exact hkm)⟩
      obtain ⟨b, o, rfl, hcs⟩ := HA.out (by rintro rfl; simp at hs)
      obtain ⟨b', o', rfl, hcs'⟩ := HA'.out (by rintro rfl; simp at hs)
      obtain ⟨u0, u1, u2, u3, u4⟩ := hcs _ (Below.refl _ _) k s hs
      obtain ⟨v0, v1, v2, v3, v4⟩ := hcs' _ (Below.refl _ _) k s hs
      obtain ⟨sc, sn, sa, sk, sr⟩ := s
      simp only at u0 u1 u2 u3 u4 v0 v1 v2 v3 v4
      have hkm2 : (k : Int) < (m : Int) := by omega
      have HKM := hid_in hkm
      clear hs hcs hcs' hk hkm
      go_upto_region 6 with fail
      go_quiet (fail)
      go_wp2_with fail
      exact ⟨⟨k + 1, by have := HKM.out; omega, by go_num, _, rfl⟩, by have := HKM.out; simp [intOf]; omega⟩
    · obtain rfl : k = m := by omega
      clear hk hkm
      go_wp2_with fail
      go_ret
      exact ⟨rfl, Nd.below_drewN (Below.refl _ _) d⟩
end Go.Proofs.Ytiijlnlkhpneaaa.Se
namespace Go.Proofs.Ytiijlnlkhpneaaa.Se
open Go.RowKit
open Nd (Row wp_world grownBy_setCell below_of_grown grownBy_trans grown_of_below grownBy_refl)
/-- the reference's table: block r holds the room and leads to seats -/
structure RT (w : World) (B r : Nat) (room : Int) (X : List Seat) : Prop where
  ex : ∃ v, Row w r [.int .i64 room, v] 32 ∧ SO w B v X
  ge : B ≤ r
theorem RT.below {w w' : World} {B r : Nat} {room : Int} {X : List Seat} (h : RT w B r room X) (hb : Below w.heap.size w w') : RT w' B r room X := by
  obtain ⟨v, h1, h2⟩ := h.ex
  exact ⟨⟨v, h1.below hb h1.lt, h2.below hb⟩, h.ge⟩
theorem SO.own {w : World} {B : Nat} {v : Value} {X : List Seat} (h : SO w B v X) : ∃ p cap, v = .slice p X.length cap ∧ X.length ≤ cap ∧ cap ≤ 9223372036854775807 ∧ (X ≠ [] → ∃ b cur, p = some ⟨b, 0, none⟩ ∧ B ≤ b ∧ Row w b cur 48 ∧ cur.take (X.length * 5) = tcells X) := by
  obtain ⟨_, ⟨rfl, h0⟩ | ⟨g, cap, cur, rfl, hB, hh, hn, hm, hs, ht⟩⟩ := h
  · obtain rfl := List.length_eq_zero_iff.1 h0
    exact ⟨none, 0, rfl, by simp, by omega, fun h => absurd rfl h⟩
  · refine ⟨_, cap, rfl, hn, by unfold maxLen at hm; omega, fun _ => ⟨g, cur.toList, rfl, hB, ?_, ht⟩⟩
    unfold Row
    rw [Array.toArray_toList]
    exact hh
theorem own_cell {w : World} {b : Nat} {cur : List Value} {X : List Seat} (hr : Row w b cur 48) (ht : cur.take (X.length * 5) = tcells X) {k : Nat} {s : Seat} (hk : X[k]? = some s) (j : Nat) (u : Value) (hj : s.cells[j]? = some u) : w.cell? ⟨b, k * 5 + j, none⟩ = some u := by
  have h1 := tcells_at hk j u hj
  have hl : k * 5 + j < X.length * 5 := by rw [← tcells_len]; exact (List.getElem?_eq_some_iff.1 h1).1
  rw [← ht, List.getElem?_take, if_pos hl] at h1
  rw [hr.cell]
  exact h1
/-- as it is met by a walk -/
theorem RT.at_ {w : World} {B r : Nat} {room : Int} {X : List Seat} (h : RT w B r room X) : ∃ p cap, Row w r [.int .i64 room, .slice p X.length cap] 32 ∧ X.length ≤ cap ∧ cap ≤ 9223372036854775807 ∧ (X ≠ [] → ∃ b, p = some ⟨b, 0, none⟩ ∧ B ≤ b ∧ b < w.heap.size ∧ ∀ W, Below w.heap.size w W → ∀ (i : Nat) s, X[i]? = some s → W.cell? ⟨b, i * 5, none⟩ = some (.int .i64 s.client) ∧ W.cell? ⟨b, i * 5 + 1, none⟩ = some (.int .i64 s.number) ∧ W.cell? ⟨b, i * 5 + 2, none⟩ = some (.int .i64 s.at_) ∧ W.cell? ⟨b, i * 5 + 3, none⟩ = some (.bool s.kept) ∧ W.cell? ⟨b, i * 5 + 4, none⟩ = some (.string s.reply)) := by
  obtain ⟨v, h1, h2⟩ := h.ex
  obtain ⟨p, cap, rfl, h3, h4, h5⟩ := h2.own
  refine ⟨p, cap, h1, h3, h4, fun hne => ?_⟩
  obtain ⟨b, cur, e, h6, h7, h8⟩ := h5 hne
  refine ⟨b, e, h6, h7.lt, fun W hb i s hi => ?_⟩
  have h9 := h7.below hb h7.lt
  exact ⟨own_cell h9 h8 hi 0 _ rfl, own_cell h9 h8 hi 1 _ rfl, own_cell h9 h8 hi 2 _ rfl, own_cell h9 h8 hi 3 _ rfl, own_cell h9 h8 hi 4 _ rfl⟩
def hasC (c : Int) (X : List Seat) (k : Nat) : Prop := ∃ s, X[k]? = some s ∧ s.client = c ∧ ∀ j x, X[j]? = some x → j < k → x.client ≠ c
set_option maxHeartbeats 2000000 in
set_option maxRecDepth 100000 in
theorem rfind_any {w : World} {B r : Nat} {room : Int} {X : List Seat} (h : RT w B r room X) (c : Int) (z : Option Nat) (hz : match z with | some k => hasC c X k | none => ∀ s ∈ X, s.client ≠ c) :
    Calls Try.prog 28 #[.pointer (some ⟨r, 0, none⟩), .int .i64 c] w fun e w' => e = .returned (.int .i64 (match z with | some k => (k : Int) | none => -1)) ∧ w' = w := by
  obtain ⟨p, cap, hrow, hl1, hl2, hat⟩ := h.at_
  have q1 : w.cell? ⟨r, 1, none⟩ = some (.slice p X.length cap) := hrow.cell 1
  have HAT := hid_in hat
  obtain ⟨R, HRR⟩ : ∃ R : Int, Hid ((match z with | some k => (k : Int) | none => -1) = R) := ⟨_, hid_in rfl⟩
  rw [HRR.out]
  have HIN : Hid (∀ (k : Nat) s, X[k]? = some s → (∀ j x, X[j]? = some x → j < k → x.client ≠ c) → s.client = c → R = (k : Int)) := hid_in (fun k s hk hb hs => by
    rw [← HRR.out]
    cases z with
    | none => exact absurd hs (hz s (List.mem_of_getElem? hk))
    | some k' =>
      obtain ⟨s', a1, a2, a3⟩ := hz
      simp only
      rcases Nat.lt_trichotomy k k' with hlt | rfl | hlt
      · exact absurd hs (a3 k s hk hlt)
      · rfl
      · exact absurd a2 (hb k' s' a1 hlt))
  have HEN : Hid ((∀ s ∈ X, s.client ≠ c) → R = -1) := hid_in (fun hn => by
    rw [← HRR.out]
    cases z with
    | none => rfl
    | some k' =>
      obtain ⟨s', a1, a2, a3⟩ := hz
      exact absurd a2 (hn s' (List.mem_of_getElem? a1)))
  generalize hm : X.length = m at *
  have HM := hid_in hm
  have hM : (m : Int) ≤ 9223372036854775807 := by omega
  clear h hrow hat hm hz HRR hl1 hl2
  go_enter Try.func28, Try.ntmps28
  go_wp2_with fail
  go_loopw [5] (fun vk W => ∃ k : Nat, k ≤ m ∧ vk = .int .i64 (k : Int) ∧ Hid (∀ j x, X[j]? = some x → j < k → x.client ≠ c) ∧ w = W) (fun vk _ => m - (intOf vk).toNat)
  case atStart => exact ⟨0, by omega, rfl, fun j x _ hj => absurd hj (Nat.not_lt_zero _), rfl⟩
  case round =>
    obtain ⟨k, hk, rfl, hbe, rfl⟩ := hrel
    by_cases hkm : k < m
    · obtain ⟨s, hs⟩ : ∃ s, X[k]? = some s := ⟨_, List.getElem?_eq_getElem (by rw [HM.out]; exact hkm)⟩
      obtain ⟨b, rfl, -, -, hcs⟩ := HAT.out (by rintro rfl; simp at hs)
      obtain ⟨u0, -, -, -, -⟩ := hcs _ (Below.refl _ _) k s hs
      have hkm2 : (k : Int) < (m : Int) := by omega
      have HKM := hid_in hkm
      have HS := hid_in hs
      clear hs hcs hk hkm
      by_cases hc : s.client = c
      · have HR2 := hid_in (HIN.out k s HS.out hbe.out hc)
        rw [hc] at u0
        clear hc
        go_wp2_with fail
        go_ret
        exact ⟨by rw [HR2.out]; rfl, rfl⟩
      · have hcb : (s.client == c) = false := by simpa using hc
        have HNX : Hid (∀ j x, X[j]? = some x → j < k + 1 → x.client ≠ c) := hid_in (fun j x hx hj => by
          rcases Nat.lt_or_eq_of_le (Nat.le_of_lt_succ hj) with h1 | h1
          · exact hbe.out j x hx h1
          · subst h1
            rw [HS.out] at hx
            cases hx
            exact hc)
        generalize s.client = sc at *
        clear hc
        go_wp2_with fail
        exact ⟨⟨k + 1, by have := HKM.out; omega, by go_num, HNX.out, trivial⟩, by have := HKM.out; simp [intOf]; omega⟩
    · obtain rfl : k = m := by omega
      have HR2 := hid_in (HEN.out (fun s hs => by
        obtain ⟨j, hj⟩ := List.getElem?_of_mem hs
        exact hbe.out j s hj (by rw [← HM.out]; exact (List.getElem?_eq_some_iff.1 hj).1)))
      clear hk hkm
      go_wp2_with fail
      go_ret
      exact ⟨by rw [HR2.out]; rfl, rfl⟩
set_option maxHeartbeats 2000000 in
set_option maxRecDepth 100000 in
theorem rbytes_any {w : World} {B r : Nat} {room : Int} {X : List Seat} (h : RT w B r room X) (hS : ShortT X) (h8 : X.length ≤ 8) :
    Calls Try.prog 47 #[.pointer (some ⟨r, 0, none⟩)] w fun e w' => e = .returned (.int .i64 (sumR X : Int)) ∧ w' = w := by
  obtain ⟨p, cap, hrow, hl1, hl2, hat⟩ := h.at_
  have q1 : w.cell? ⟨r, 1, none⟩ = some (.slice p X.length cap) := hrow.cell 1
  have HAT := hid_in hat
  have HSM : Hid (∀ i, sumR (X.take i) ≤ 65536) := hid_in (fun i => by
    have h1 := sumR_le (T := X.take i) (fun x hx => hS x (List.mem_of_mem_take hx))
    have h2 : (X.take i).length ≤ 8 := by simp; omega
    omega)
  obtain ⟨S, HS⟩ : ∃ S, Hid (sumR X = S) := ⟨_, hid_in rfl⟩
  rw [HS.out]
  generalize hm : X.length = m at *
  have HM := hid_in hm
  have hM : (m : Int) ≤ 8 := by omega
  clear h hrow hat hm hS hl1 hl2
  go_enter Try.func47, Try.ntmps47
  go_wp2_with fail
  go_loopw [3, 4] (fun vn vk W => ∃ k : Nat, k ≤ m ∧ vk = .int .i64 (k : Int) ∧ vn = .int .i64 (sumR (X.take k) : Int) ∧ w = W) (fun _ vk _ => m - (intOf vk).toNat)
  case atStart => exact ⟨0, by omega, rfl, rfl, rfl⟩
  case round =>
    obtain ⟨k, hk, rfl, rfl, rfl⟩ := hrel
    by_cases hkm : k < m
    · obtain ⟨s, hs⟩ : ∃ s, X[k]? = some s := ⟨_, List.getElem?_eq_getElem (by rw [HM.out]; exact hkm)⟩
      obtain ⟨b, rfl, -, -, hcs⟩ := HAT.out (by rintro rfl; simp at hs)
      obtain ⟨-, -, -, -, u4⟩ := hcs _ (Below.refl _ _) k s hs
      have HTK := hid_in (sumR_take hs)
      have hb1 := HSM.out k
      have hb2 := HSM.out (k + 1)
      rw [HTK.out] at hb2
      have hkm2 : (k : Int) < (m : Int) := by omega
      have HKM := hid_in hkm
      generalize sumR (X.take k) = y at *
      generalize s.reply = sr at *
      have hs2 : (y : Int) ≤ 65536 := by omega
      have hs3 : (sr.size : Int) ≤ 65536 := by omega
      clear hs hcs hk hkm hb1 hb2
      go_wp2_with fail
      refine ⟨⟨k + 1, by have := HKM.out; omega, by go_num, ?_, trivial⟩, by have := HKM.out; simp [intOf]; omega⟩
      rw [HTK.out]
      go_num
    · obtain rfl : k = m := by omega
      have HX : Hid (sumR (X.take k) = S) := hid_in (by rw [← HM.out, List.take_length]; exact HS.out)
      rw [HX.out]
      clear hk hkm
      go_wp2_with fail
      go_ret
      exact ⟨rfl, rfl⟩
end Go.Proofs.Ytiijlnlkhpneaaa.Se
