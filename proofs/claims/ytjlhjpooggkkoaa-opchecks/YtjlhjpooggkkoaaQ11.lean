/-
  The walks of the statements OpChecks and OpWords.
-/
import Derived.Deep.RegionLaw
import Derived.Deep.DrawnRows
import Derived.Test.YtjlhjpooggkkoaaRows
import Derived.OwnWalk
import Derived.Deep.CutRange
import Derived.Laws.Tables
import Derived.Laws.CopyOwn
import Derived.Test.YtjlhjpooggkkoaaQ00
import Derived.Test.YtjlhjpooggkkoaaQ01
import Derived.Test.YtjlhjpooggkkoaaQ02
import Derived.Test.YtjlhjpooggkkoaaQ03
import Derived.Test.YtjlhjpooggkkoaaQ04
import Derived.Test.YtjlhjpooggkkoaaQ05
import Derived.Test.YtjlhjpooggkkoaaQ06
import Derived.Test.YtjlhjpooggkkoaaQ07
import Derived.Test.YtjlhjpooggkkoaaQ08
import Derived.Test.YtjlhjpooggkkoaaQ09
import Derived.Test.YtjlhjpooggkkoaaQ10
namespace Go.Proofs.Ytjlhjpooggkkoaa.Nd
open Go.RowKit
set_option maxHeartbeats 1000000 in
set_option maxRecDepth 100000 in
theorem checks_any (o : Opn) (hp : o.path.size ≤ 9223372036854775807) (ht : o.dest.size ≤ 9223372036854775807) (w : World) : Calls Try.prog 3 #[o.val] w fun e w' => e = .returned (.bool true) ∧ Below w.heap.size w w' := by
  have HA := hid_in (fun W => awakeO_any W)
  have HC := hid_in (fun W => check_any o hp ht W)
  have HR := hid_in (fun W => rcheck_any o hp ht W)
  obtain ⟨c, Hc⟩ : ∃ c, Hid (checkS o = c) := ⟨_, rfl⟩
  rw [Hc.out] at HC HR
  obtain ⟨k, p, t, d, a, z⟩ := o
  simp only [Opn.val] at HC HR ⊢
  clear hp ht Hc
  obtain ⟨W0, H0, HR0, HB0, HZ0⟩ := op_row w k a z p t d
  go_enter Try.func3, Try.ntmps3
  go_upto_region 1 with fail
  refine wp_world H0.out ?_
  clear H0
  have hbd : Below W0.heap.size W0 W0.drew := (Below.refl _ _).drew
  have HBD : Hid (Below w.heap.size w W0.drew) := HB0.out.drew
  have HRD : Hid (Row W0.drew w.heap.size [.int .i64 k, .string p, .string t, .string d, .int .i64 a, .int .i64 z] 23) := HR0.out.drew
  clear hbd
  go_region_with (first | (go_at_call 9; refine (HA.out _).mono ?_; rintro e w1 ⟨rfl, hb1⟩; have HB1 := hid_in (HBD.out.trans (hb1.mono HBD.out.size)); have hr1 := HRD.out.below hb1 HRD.out.lt; have HR1 := hid_in hr1; have e0 : w1.cell? ⟨w.heap.size, 0, none⟩ = some (.int .i64 k) := hr1.cell 0; have e1 : w1.cell? ⟨w.heap.size, 1, none⟩ = some (.string p) := hr1.cell 1; have e2 : w1.cell? ⟨w.heap.size, 2, none⟩ = some (.string t) := hr1.cell 2; have e3 : w1.cell? ⟨w.heap.size, 3, none⟩ = some (.string d) := hr1.cell 3; have e4 : w1.cell? ⟨w.heap.size, 4, none⟩ = some (.int .i64 a) := hr1.cell 4; have e5 : w1.cell? ⟨w.heap.size, 5, none⟩ = some (.int .i64 z) := hr1.cell 5; clear hb1 hr1) | (go_at_call 10; refine (HC.out _).mono ?_; rintro e w2 ⟨rfl, hb2⟩; have HB2 := hid_in (HB1.out.trans (hb2.mono HB1.out.size)); have hr2 := HR1.out.below hb2 HR1.out.lt; have HR2 := hid_in hr2; have f0 : w2.cell? ⟨w.heap.size, 0, none⟩ = some (.int .i64 k) := hr2.cell 0; have f1 : w2.cell? ⟨w.heap.size, 1, none⟩ = some (.string p) := hr2.cell 1; have f2 : w2.cell? ⟨w.heap.size, 2, none⟩ = some (.string t) := hr2.cell 2; have f3 : w2.cell? ⟨w.heap.size, 3, none⟩ = some (.string d) := hr2.cell 3; have f4 : w2.cell? ⟨w.heap.size, 4, none⟩ = some (.int .i64 a) := hr2.cell 4; have f5 : w2.cell? ⟨w.heap.size, 5, none⟩ = some (.int .i64 z) := hr2.cell 5; clear hb2 hr2) | (go_at_call 11; refine (HR.out _).mono ?_; rintro e w3 ⟨rfl, hb3⟩; have HB3 := hid_in (HB2.out.trans (hb3.mono HB2.out.size)); have hr3 := HR2.out.below hb3 HR2.out.lt; have HR3 := hid_in hr3; have g0 : w3.cell? ⟨w.heap.size, 0, none⟩ = some (.int .i64 k) := hr3.cell 0; have g1 : w3.cell? ⟨w.heap.size, 1, none⟩ = some (.string p) := hr3.cell 1; have g2 : w3.cell? ⟨w.heap.size, 2, none⟩ = some (.string t) := hr3.cell 2; have g3 : w3.cell? ⟨w.heap.size, 3, none⟩ = some (.string d) := hr3.cell 3; have g4 : w3.cell? ⟨w.heap.size, 4, none⟩ = some (.int .i64 a) := hr3.cell 4; have g5 : w3.cell? ⟨w.heap.size, 5, none⟩ = some (.int .i64 z) := hr3.cell 5; clear hb3 hr3))
  all_goals
    go_wp2_with fail
    go_ret
    exact ⟨rfl, HB3.out⟩
theorem words_inj (i j : Nat) (hi : 1 ≤ i ∧ i ≤ 11) (hj : 1 ≤ j ∧ j ≤ 11) (h : wordOf (i : Int) = wordOf (j : Int)) : i = j := by
  have hi2 : i = 1 ∨ i = 2 ∨ i = 3 ∨ i = 4 ∨ i = 5 ∨ i = 6 ∨ i = 7 ∨ i = 8 ∨ i = 9 ∨ i = 10 ∨ i = 11 := by omega
  have hj2 : j = 1 ∨ j = 2 ∨ j = 3 ∨ j = 4 ∨ j = 5 ∨ j = 6 ∨ j = 7 ∨ j = 8 ∨ j = 9 ∨ j = 10 ∨ j = 11 := by omega
  rcases hi2 with rfl | rfl | rfl | rfl | rfl | rfl | rfl | rfl | rfl | rfl | rfl <;> rcases hj2 with rfl | rfl | rfl | rfl | rfl | rfl | rfl | rfl | rfl | rfl | rfl <;> first | rfl | exact absurd h (by decide)
theorem IsKind.unique {s : ByteArray} {a b : Int} (ha : IsKind s a) (hb : IsKind s b) : a = b := by
  rcases ha with ⟨rfl, h1⟩ | ⟨i, rfl, h1, h2, h3⟩ <;> rcases hb with ⟨rfl, k1⟩ | ⟨j, rfl, k1, k2, k3⟩
  · rfl
  · exact absurd k3 (h1 j k1 k2)
  · exact absurd h3 (k1 i h1 h2)
  · rw [words_inj i j ⟨h1, h2⟩ ⟨k1, k2⟩ (h3.trans k3.symm)]
/-- behind i kinds -/
def Want (s : ByteArray) (i : Nat) (v : Int) : Prop := (v = 0 ∧ ∀ j : Nat, 1 ≤ j → j < i → wordOf (j : Int) ≠ s) ∨ ∃ j : Nat, v = (j : Int) ∧ 1 ≤ j ∧ j < i ∧ wordOf (j : Int) = s
theorem Want.done {s : ByteArray} {v : Int} (h : Want s 12 v) : IsKind s v := by
  rcases h with ⟨rfl, h⟩ | ⟨j, rfl, h1, h2, h3⟩
  · exact .inl ⟨rfl, fun i h1 h2 => h i h1 (by omega)⟩
  · exact .inr ⟨j, rfl, h1, by omega, h3⟩
theorem Want.hit {s : ByteArray} {i : Nat} (hi : 1 ≤ i) (he : wordOf (i : Int) = s) : Want s (i + 1) (i : Int) := .inr ⟨i, rfl, hi, by omega, he⟩
theorem Want.miss {s : ByteArray} {i : Nat} {v : Int} (h : Want s i v) (he : wordOf (i : Int) ≠ s) : Want s (i + 1) v := by
  rcases h with ⟨rfl, h⟩ | ⟨j, rfl, h1, h2, h3⟩
  · refine .inl ⟨rfl, fun j h1 h2 => ?_⟩
    rcases (show j < i ∨ j = i by omega) with h4 | rfl
    · exact h j h1 h4
    · exact he
  · exact .inr ⟨j, rfl, h1, by omega, h3⟩
set_option maxHeartbeats 2000000 in
set_option maxRecDepth 100000 in
theorem words_any (k : Int) (s : ByteArray) (w : World) : Calls Try.prog 4 #[.int .i64 k, .string s] w fun e w' => e = .returned (.bool true) ∧ Below w.heap.size w w' := by
  have HA := hid_in (fun W => awakeO_any W)
  have HW := hid_in (fun W => word_any k W)
  have HRW := hid_in (fun W => rword_any k W)
  have HRD := hid_in (fun W => reads_any k W)
  obtain ⟨WD, HWD⟩ : ∃ WD, Hid (wordOf k = WD) := ⟨_, rfl⟩
  rw [HWD.out] at HW HRW
  clear HWD
  have hk : k = 8 ∨ k = 9 ∨ k = 10 ∨ ((k == 8) = false ∧ (k == 9) = false ∧ (k == 10) = false) := by
    simp only [beq_eq_false_iff_ne]
    omega
  have hr : ((k == 8) = false ∧ (k == 9) = false ∧ (k == 10) = false) → readsK k = false := by
    rintro ⟨h1, h2, h3⟩
    simp [readsK, h1, h2, h3]
  rcases hk with rfl | rfl | rfl | ⟨k1, k2, k3⟩
  case inr.inr.inr =>
    rw [hr ⟨k1, k2, k3⟩] at HRD
    clear hr
    go_enter Try.func4, Try.ntmps4
    go_upto_region 5 with (first | (go_at_call 9; refine (HA.out _).mono ?_; rintro e w1 ⟨rfl, hb1⟩; have HB1 := hid_in hb1; clear hb1) | (go_at_call 12; refine (HW.out _).mono ?_; rintro e w2 ⟨rfl, rfl⟩) | (go_at_call 13; refine (HRW.out _).mono ?_; rintro e w3 ⟨rfl, rfl⟩) | (go_at_call 14; refine (HRD.out _).mono ?_; rintro e w4 ⟨rfl, rfl⟩) | (go_at_call 15; refine (kindW_any s _).mono ?_; rintro e w5 ⟨⟨kk, rfl, hkk⟩, rfl⟩; have HKK := hid_in hkk; clear hkk))
    clear HW HRW HRD HA
    go_wp2_with fail
    go_loopw [6, 7] (fun vw vi w' => ∃ (i : Nat) (v : Int), vi = .int .i64 (i : Int) ∧ vw = .int .i64 v ∧ 1 ≤ i ∧ i ≤ 12 ∧ Want s i v ∧ w' = w5) (fun _ vi _ => 13 - (intOf vi).toNat)
    case atStart => exact ⟨1, 0, rfl, rfl, by omega, by omega, .inl ⟨rfl, fun j h1 h2 => by omega⟩, rfl⟩
    case round =>
      obtain ⟨i, v, rfl, rfl, h1, h2, hw, rfl⟩ := hrel
      have HWN := hid_in hw
      clear hw
      by_cases hj : i ≤ 11
      · have q1 : (i : Int) ≤ 11 := by omega
        have HRI := hid_in (fun W => rword_any (i : Int) W)
        have HKI : Hid (∀ W, Calls Try.prog 15 #[.string (wordOf (i : Int))] W fun e w' => e = .returned (.int .i64 (i : Int)) ∧ w' = W) := fun W => by
          refine (kindW_any (wordOf (i : Int)) W).mono ?_
          rintro e w' ⟨⟨k', rfl, hk'⟩, rfl⟩
          rw [hk'.unique (.inr ⟨i, rfl, h1, hj, rfl⟩)]
          exact ⟨rfl, rfl⟩
        obtain ⟨X, HX⟩ : ∃ X, Hid (wordOf (i : Int) = X) := ⟨_, rfl⟩
        rw [HX.out] at HRI HKI
        by_cases he : wordOf (i : Int) = s
        · have HWN2 := hid_in (Want.hit h1 he)
          have q2 : (X.toList == s.toList) = true := by rw [← HX.out, he]; simp
          clear he
          go_wp2_with (first | (go_at_call 13; refine (HRI.out _).mono ?_; rintro e u1 ⟨rfl, rfl⟩) | (go_at_call 15; refine (HKI.out _).mono ?_; rintro e u2 ⟨rfl, rfl⟩))
          exact ⟨⟨i + 1, (i : Int), by go_num, rfl, by omega, by omega, HWN2.out, by first | trivial | rfl⟩, by simp [intOf]; omega⟩
        · have HWN2 := hid_in (HWN.out.miss he)
          have q2 : (X.toList == s.toList) = false := by rw [← HX.out, beq_eq_false_iff_ne]; exact fun e => he (toL_inj e)
          clear he
          go_wp2_with (first | (go_at_call 13; refine (HRI.out _).mono ?_; rintro e u1 ⟨rfl, rfl⟩) | (go_at_call 15; refine (HKI.out _).mono ?_; rintro e u2 ⟨rfl, rfl⟩))
          exact ⟨⟨i + 1, v, by go_num, rfl, by omega, by omega, HWN2.out, by first | trivial | rfl⟩, by simp [intOf]; omega⟩
      · have hj12 : i = 12 := by omega
        subst hj12
        obtain rfl : kk = v := HKK.out.unique HWN.out.done
        go_wp2
        go_ret
        exact ⟨rfl, HB1.out⟩
  case inl =>
    clear hr
    rw [show readsK 8 = true from rfl] at HRD
    go_enter Try.func4, Try.ntmps4
    go_upto_region 5 with (first | (go_at_call 9; refine (HA.out _).mono ?_; rintro e w1 ⟨rfl, hb1⟩; have HB1 := hid_in hb1; clear hb1) | (go_at_call 12; refine (HW.out _).mono ?_; rintro e w2 ⟨rfl, rfl⟩) | (go_at_call 13; refine (HRW.out _).mono ?_; rintro e w3 ⟨rfl, rfl⟩) | (go_at_call 14; refine (HRD.out _).mono ?_; rintro e w4 ⟨rfl, rfl⟩) | (go_at_call 15; refine (kindW_any s _).mono ?_; rintro e w5 ⟨⟨kk, rfl, hkk⟩, rfl⟩; have HKK := hid_in hkk; clear hkk))
    clear HW HRW HRD HA
    go_wp2_with fail
    go_loopw [6, 7] (fun vw vi w' => ∃ (i : Nat) (v : Int), vi = .int .i64 (i : Int) ∧ vw = .int .i64 v ∧ 1 ≤ i ∧ i ≤ 12 ∧ Want s i v ∧ w' = w5) (fun _ vi _ => 13 - (intOf vi).toNat)
    case atStart => exact ⟨1, 0, rfl, rfl, by omega, by omega, .inl ⟨rfl, fun j h1 h2 => by omega⟩, rfl⟩
    case round =>
      obtain ⟨i, v, rfl, rfl, h1, h2, hw, rfl⟩ := hrel
      have HWN := hid_in hw
      clear hw
      by_cases hj : i ≤ 11
      · have q1 : (i : Int) ≤ 11 := by omega
        have HRI := hid_in (fun W => rword_any (i : Int) W)
        have HKI : Hid (∀ W, Calls Try.prog 15 #[.string (wordOf (i : Int))] W fun e w' => e = .returned (.int .i64 (i : Int)) ∧ w' = W) := fun W => by
          refine (kindW_any (wordOf (i : Int)) W).mono ?_
          rintro e w' ⟨⟨k', rfl, hk'⟩, rfl⟩
          rw [hk'.unique (.inr ⟨i, rfl, h1, hj, rfl⟩)]
          exact ⟨rfl, rfl⟩
        obtain ⟨X, HX⟩ : ∃ X, Hid (wordOf (i : Int) = X) := ⟨_, rfl⟩
        rw [HX.out] at HRI HKI
        by_cases he : wordOf (i : Int) = s
        · have HWN2 := hid_in (Want.hit h1 he)
          have q2 : (X.toList == s.toList) = true := by rw [← HX.out, he]; simp
          clear he
          go_wp2_with (first | (go_at_call 13; refine (HRI.out _).mono ?_; rintro e u1 ⟨rfl, rfl⟩) | (go_at_call 15; refine (HKI.out _).mono ?_; rintro e u2 ⟨rfl, rfl⟩))
          exact ⟨⟨i + 1, (i : Int), by go_num, rfl, by omega, by omega, HWN2.out, by first | trivial | rfl⟩, by simp [intOf]; omega⟩
        · have HWN2 := hid_in (HWN.out.miss he)
          have q2 : (X.toList == s.toList) = false := by rw [← HX.out, beq_eq_false_iff_ne]; exact fun e => he (toL_inj e)
          clear he
          go_wp2_with (first | (go_at_call 13; refine (HRI.out _).mono ?_; rintro e u1 ⟨rfl, rfl⟩) | (go_at_call 15; refine (HKI.out _).mono ?_; rintro e u2 ⟨rfl, rfl⟩))
          exact ⟨⟨i + 1, v, by go_num, rfl, by omega, by omega, HWN2.out, by first | trivial | rfl⟩, by simp [intOf]; omega⟩
      · have hj12 : i = 12 := by omega
        subst hj12
        obtain rfl : kk = v := HKK.out.unique HWN.out.done
        go_wp2
        go_ret
        exact ⟨rfl, HB1.out⟩
  case inr.inl =>
    clear hr
    rw [show readsK 9 = true from rfl] at HRD
    go_enter Try.func4, Try.ntmps4
    go_upto_region 5 with (first | (go_at_call 9; refine (HA.out _).mono ?_; rintro e w1 ⟨rfl, hb1⟩; have HB1 := hid_in hb1; clear hb1) | (go_at_call 12; refine (HW.out _).mono ?_; rintro e w2 ⟨rfl, rfl⟩) | (go_at_call 13; refine (HRW.out _).mono ?_; rintro e w3 ⟨rfl, rfl⟩) | (go_at_call 14; refine (HRD.out _).mono ?_; rintro e w4 ⟨rfl, rfl⟩) | (go_at_call 15; refine (kindW_any s _).mono ?_; rintro e w5 ⟨⟨kk, rfl, hkk⟩, rfl⟩; have HKK := hid_in hkk; clear hkk))
    clear HW HRW HRD HA
    go_wp2_with fail
    go_loopw [6, 7] (fun vw vi w' => ∃ (i : Nat) (v : Int), vi = .int .i64 (i : Int) ∧ vw = .int .i64 v ∧ 1 ≤ i ∧ i ≤ 12 ∧ Want s i v ∧ w' = w5) (fun _ vi _ => 13 - (intOf vi).toNat)
    case atStart => exact ⟨1, 0, rfl, rfl, by omega, by omega, .inl ⟨rfl, fun j h1 h2 => by omega⟩, rfl⟩
    case round =>
      obtain ⟨i, v, rfl, rfl, h1, h2, hw, rfl⟩ := hrel
      have HWN := hid_in hw
      clear hw
      by_cases hj : i ≤ 11
      · have q1 : (i : Int) ≤ 11 := by omega
        have HRI := hid_in (fun W => rword_any (i : Int) W)
        have HKI : Hid (∀ W, Calls Try.prog 15 #[.string (wordOf (i : Int))] W fun e w' => e = .returned (.int .i64 (i : Int)) ∧ w' = W) := fun W => by
          refine (kindW_any (wordOf (i : Int)) W).mono ?_
          rintro e w' ⟨⟨k', rfl, hk'⟩, rfl⟩
          rw [hk'.unique (.inr ⟨i, rfl, h1, hj, rfl⟩)]
          exact ⟨rfl, rfl⟩
        obtain ⟨X, HX⟩ : ∃ X, Hid (wordOf (i : Int) = X) := ⟨_, rfl⟩
        rw [HX.out] at HRI HKI
        by_cases he : wordOf (i : Int) = s
        · have HWN2 := hid_in (Want.hit h1 he)
          have q2 : (X.toList == s.toList) = true := by rw [← HX.out, he]; simp
          clear he
          go_wp2_with (first | (go_at_call 13; refine (HRI.out _).mono ?_; rintro e u1 ⟨rfl, rfl⟩) | (go_at_call 15; refine (HKI.out _).mono ?_; rintro e u2 ⟨rfl, rfl⟩))
          exact ⟨⟨i + 1, (i : Int), by go_num, rfl, by omega, by omega, HWN2.out, by first | trivial | rfl⟩, by simp [intOf]; omega⟩
        · have HWN2 := hid_in (HWN.out.miss he)
          have q2 : (X.toList == s.toList) = false := by rw [← HX.out, beq_eq_false_iff_ne]; exact fun e => he (toL_inj e)
          clear he
          go_wp2_with (first | (go_at_call 13; refine (HRI.out _).mono ?_; rintro e u1 ⟨rfl, rfl⟩) | (go_at_call 15; refine (HKI.out _).mono ?_; rintro e u2 ⟨rfl, rfl⟩))
          exact ⟨⟨i + 1, v, by go_num, rfl, by omega, by omega, HWN2.out, by first | trivial | rfl⟩, by simp [intOf]; omega⟩
      · have hj12 : i = 12 := by omega
        subst hj12
        obtain rfl : kk = v := HKK.out.unique HWN.out.done
        go_wp2
        go_ret
        exact ⟨rfl, HB1.out⟩
  case inr.inr.inl =>
    clear hr
    rw [show readsK 10 = true from rfl] at HRD
    go_enter Try.func4, Try.ntmps4
    go_upto_region 5 with (first | (go_at_call 9; refine (HA.out _).mono ?_; rintro e w1 ⟨rfl, hb1⟩; have HB1 := hid_in hb1; clear hb1) | (go_at_call 12; refine (HW.out _).mono ?_; rintro e w2 ⟨rfl, rfl⟩) | (go_at_call 13; refine (HRW.out _).mono ?_; rintro e w3 ⟨rfl, rfl⟩) | (go_at_call 14; refine (HRD.out _).mono ?_; rintro e w4 ⟨rfl, rfl⟩) | (go_at_call 15; refine (kindW_any s _).mono ?_; rintro e w5 ⟨⟨kk, rfl, hkk⟩, rfl⟩; have HKK := hid_in hkk; clear hkk))
    clear HW HRW HRD HA
    go_wp2_with fail
    go_loopw [6, 7] (fun vw vi w' => ∃ (i : Nat) (v : Int), vi = .int .i64 (i : Int) ∧ vw = .int .i64 v ∧ 1 ≤ i ∧ i ≤ 12 ∧ Want s i v ∧ w' = w5) (fun _ vi _ => 13 - (intOf vi).toNat)
    case atStart => exact ⟨1, 0, rfl, rfl, by omega, by omega, .inl ⟨rfl, fun j h1 h2 => by omega⟩, rfl⟩
    case round =>
      obtain ⟨i, v, rfl, rfl, h1, h2, hw, rfl⟩ := hrel
      have HWN := hid_in hw
      clear hw
      by_cases hj : i ≤ 11
      · have q1 : (i : Int) ≤ 11 := by omega
        have HRI := hid_in (fun W => rword_any (i : Int) W)
        have HKI : Hid (∀ W, Calls Try.prog 15 #[.string (wordOf (i : Int))] W fun e w' => e = .returned (.int .i64 (i : Int)) ∧ w' = W) := fun W => by
          refine (kindW_any (wordOf (i : Int)) W).mono ?_
          rintro e w' ⟨⟨k', rfl, hk'⟩, rfl⟩
          rw [hk'.unique (.inr ⟨i, rfl, h1, hj, rfl⟩)]
          exact ⟨rfl, rfl⟩
        obtain ⟨X, HX⟩ : ∃ X, Hid (wordOf (i : Int) = X) := ⟨_, rfl⟩
        rw [HX.out] at HRI HKI
        by_cases he : wordOf (i : Int) = s
        · have HWN2 := hid_in (Want.hit h1 he)
          have q2 : (X.toList == s.toList) = true := by rw [← HX.out, he]; simp
          clear he
          go_wp2_with (first | (go_at_call 13; refine (HRI.out _).mono ?_; rintro e u1 ⟨rfl, rfl⟩) | (go_at_call 15; refine (HKI.out _).mono ?_; rintro e u2 ⟨rfl, rfl⟩))
          exact ⟨⟨i + 1, (i : Int), by go_num, rfl, by omega, by omega, HWN2.out, by first | trivial | rfl⟩, by simp [intOf]; omega⟩
        · have HWN2 := hid_in (HWN.out.miss he)
          have q2 : (X.toList == s.toList) = false := by rw [← HX.out, beq_eq_false_iff_ne]; exact fun e => he (toL_inj e)
          clear he
          go_wp2_with (first | (go_at_call 13; refine (HRI.out _).mono ?_; rintro e u1 ⟨rfl, rfl⟩) | (go_at_call 15; refine (HKI.out _).mono ?_; rintro e u2 ⟨rfl, rfl⟩))
          exact ⟨⟨i + 1, v, by go_num, rfl, by omega, by omega, HWN2.out, by first | trivial | rfl⟩, by simp [intOf]; omega⟩
      · have hj12 : i = 12 := by omega
        subst hj12
        obtain rfl : kk = v := HKK.out.unique HWN.out.done
        go_wp2
        go_ret
        exact ⟨rfl, HB1.out⟩
end Go.Proofs.Ytjlhjpooggkkoaa.Nd
