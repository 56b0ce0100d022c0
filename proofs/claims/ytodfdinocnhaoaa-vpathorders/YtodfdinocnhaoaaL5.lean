/-
  The walk of the statement VpathOrders.
-/
import Derived.Test.YtodfdinocnhaoaaA9
namespace Go.Proofs.Ytodfdinocnhaoaa
open Go.RowKit

theorem within_pre {xs ys : List Str} (h : withinS xs ys = true) : ∃ r, xs = ys ++ r := by
  have h2 := of_decide_eq_true h
  exact ⟨xs.drop ys.length, by conv => lhs; rw [← List.take_append_drop ys.length xs, h2.2]⟩
theorem within_ge {xs ys : List Str} (h : withinS xs ys = true) : 0 ≤ cmpL xs ys := by
  obtain ⟨r, rfl⟩ := within_pre h
  have : cmpL (ys ++ r) (ys ++ []) = cmpL r [] := lexC_pre cmpS_is _ _ _
  rw [List.append_nil] at this
  rw [this]
  cases r <;> simp [cmpL, lexC]
theorem within_refl (xs : List Str) : withinS xs xs = true := decide_eq_true ⟨Nat.le_refl _, by simp⟩
theorem within_nil (xs : List Str) : withinS xs [] = true := decide_eq_true ⟨by simp, by simp⟩
theorem within_both (xs ys : List Str) : (withinS xs ys && withinS ys xs) = (cmpL xs ys == 0) := by
  cases h1 : withinS xs ys
  · symm
    rw [Bool.false_and, beq_eq_false_iff_ne]
    intro e
    rw [cmpL_is.zero] at e
    subst e
    rw [within_refl] at h1; cases h1
  · cases h2 : withinS ys xs
    · symm
      rw [Bool.and_false, beq_eq_false_iff_ne]
      intro e
      rw [cmpL_is.zero] at e
      subst e
      rw [within_refl] at h2; cases h2
    · symm
      rw [Bool.and_true, beq_iff_eq, cmpL_is.zero]
      obtain ⟨r, hr⟩ := within_pre h1
      obtain ⟨r2, hr2⟩ := within_pre h2
      have : r.length = 0 := by
        have e1 := congrArg List.length hr
        have e2 := congrArg List.length hr2
        simp at e1 e2; omega
      rw [hr, List.eq_nil_of_length_eq_zero this, List.append_nil]
theorem orders_cases (xs ys zs : List Str) : (cmpL xs ys = -1 ∧ cmpL ys xs = 1 ∧ withinS xs ys = false ∧ (cmpL ys zs ≤ 0 ∧ cmpL xs zs ≤ 0 ∨ 0 < cmpL ys zs)) ∨
    (cmpL xs ys = 0 ∧ cmpL ys xs = 0 ∧ withinS xs ys = true ∧ withinS ys xs = true ∧ cmpL xs zs = cmpL ys zs ∧ (cmpL ys zs < 0 ∨ cmpL ys zs = 0 ∨ 0 < cmpL ys zs)) ∨
    (cmpL xs ys = 1 ∧ cmpL ys xs = -1 ∧ (withinS xs ys = false ∨ withinS xs ys = true ∧ withinS ys xs = false) ∧ (cmpL ys zs < 0 ∨ 0 ≤ cmpL ys zs ∧ 0 ≤ cmpL xs zs)) := by
  have h3 := cmpL_is.three xs ys
  have ht := cmpL_is.turn xs ys
  have hb := within_both xs ys
  have tr := cmpL_is.trans
  have t3 := cmpL_is.three ys zs
  have u3 := cmpL_is.three xs zs
  have q1 := cmpL_is.turn ys zs
  have q2 := cmpL_is.turn xs zs
  rcases h3 with h | h | h
  · refine .inl ⟨h, by rw [ht, h]; rfl, ?_, ?_⟩
    · cases hw : withinS xs ys
      · rfl
      · have := within_ge hw; omega
    · rcases t3 with h1 | h1 | h1
      · have := tr xs ys zs (by omega) (by omega); exact .inl ⟨by omega, by omega⟩
      · rw [cmpL_is.zero] at h1; subst h1; exact .inl ⟨by rw [(cmpL_is.zero ys ys).2 rfl]; omega, by omega⟩
      · exact .inr (by omega)
  · have e := (cmpL_is.zero xs ys).1 h
    subst e
    exact .inr (.inl ⟨h, h, within_refl _, within_refl _, rfl, by omega⟩)
  · refine .inr (.inr ⟨h, by rw [ht, h], ?_, ?_⟩)
    · rw [h] at hb
      cases hw : withinS xs ys
      · exact .inl rfl
      · rw [hw, Bool.true_and] at hb; exact .inr ⟨rfl, hb⟩
    · rcases t3 with h1 | h1 | h1
      · exact .inl (by omega)
      · rw [cmpL_is.zero] at h1; subst h1; exact .inr ⟨by rw [(cmpL_is.zero ys ys).2 rfl]; omega, by omega⟩
      · have := tr zs ys xs (by omega) (by omega); exact .inr ⟨by omega, by omega⟩

set_option maxHeartbeats 2000000 in
set_option maxRecDepth 100000 in
theorem orders_w0 (xs ys zs : List Str) (u v t : Value) (w : World) (ha : Val w u xs) (hb : Val w v ys) (hc : Val w t zs) (Y Z : Int)
    (EX : Hid (cmpL xs ys = -1)) (EX' : Hid (cmpL ys xs = 1)) (EY : Hid (cmpL ys zs = Y)) (EZ : Hid (cmpL xs zs = Z)) (EI : Hid (withinS xs ys = false)) (h1 : Y ≤ 0) (h2 : Z ≤ 0) :
    Calls Try.prog 5 #[u, v, t] w fun e w' => e = .returned (.bool true) ∧ Below w.heap.size w w' := by
  have HA := hid_in (awake_any w)
  have EN := hid_in (within_nil xs)
  have ES := hid_in (within_refl xs)
  go_enter Try.func5, Try.ntmps5
  go_wp2_with (first
    | (go_at_call 8; refine HA.out.mono ?_; rintro e w1 ⟨rfl, hbel⟩; have ha1 := ha.below hbel; have hb1 := hb.below hbel; have hc1 := hc.below hbel; have HB := hid_in hbel; clear hbel ha hb hc)
    | (go_at_call 18; refine (compare_v (by assumption) (by assumption)).mono ?_; (first | rw [EX.out] | rw [EX'.out] | rw [EY.out] | rw [EZ.out]); rintro e w' ⟨rfl, hw⟩; obtain rfl := hw.symm; clear hw)
    | (go_at_call 19; refine (rcompare_v (by assumption) (by assumption)).mono ?_; rw [EX.out]; rintro e w2 ⟨rfl, hd⟩; have ha2 := ha1.drew hd; have hb2 := hb1.drew hd; have HD2 := hid_in (below_ex HB.out hd); clear hd)
    | (go_at_call 20; refine (within_v (by assumption) (by first | assumption | exact Val.none _)).mono ?_; (first | rw [EI.out] | rw [EN.out] | rw [ES.out]); rintro e w3 ⟨rfl, hd⟩; have ha2 := ha2.drew hd; have hb2 := hb2.drew hd; have HD2 := hid_in (below_ex HD2.out hd); clear hd)
    | (go_at_call 21; refine (rwithin_v (by assumption) (by assumption)).mono ?_; rw [EI.out]; rintro e w3 ⟨rfl, hd⟩; have ha2 := ha2.drew hd; have hb2 := hb2.drew hd; have HD2 := hid_in (below_ex HD2.out hd); clear hd))
  go_ret
  exact ⟨rfl, HD2.out⟩

set_option maxHeartbeats 2000000 in
set_option maxRecDepth 100000 in
theorem orders_w1 (xs ys zs : List Str) (u v t : Value) (w : World) (ha : Val w u xs) (hb : Val w v ys) (hc : Val w t zs) (Y Z : Int)
    (EX : Hid (cmpL xs ys = -1)) (EX' : Hid (cmpL ys xs = 1)) (EY : Hid (cmpL ys zs = Y)) (EZ : Hid (cmpL xs zs = Z)) (EI : Hid (withinS xs ys = false)) (h1 : 0 < Y) :
    Calls Try.prog 5 #[u, v, t] w fun e w' => e = .returned (.bool true) ∧ Below w.heap.size w w' := by
  have HA := hid_in (awake_any w)
  have EN := hid_in (within_nil xs)
  have ES := hid_in (within_refl xs)
  go_enter Try.func5, Try.ntmps5
  go_wp2_with (first
    | (go_at_call 8; refine HA.out.mono ?_; rintro e w1 ⟨rfl, hbel⟩; have ha1 := ha.below hbel; have hb1 := hb.below hbel; have hc1 := hc.below hbel; have HB := hid_in hbel; clear hbel ha hb hc)
    | (go_at_call 18; refine (compare_v (by assumption) (by assumption)).mono ?_; (first | rw [EX.out] | rw [EX'.out] | rw [EY.out] | rw [EZ.out]); rintro e w' ⟨rfl, hw⟩; obtain rfl := hw.symm; clear hw)
    | (go_at_call 19; refine (rcompare_v (by assumption) (by assumption)).mono ?_; rw [EX.out]; rintro e w2 ⟨rfl, hd⟩; have ha2 := ha1.drew hd; have hb2 := hb1.drew hd; have HD2 := hid_in (below_ex HB.out hd); clear hd)
    | (go_at_call 20; refine (within_v (by assumption) (by first | assumption | exact Val.none _)).mono ?_; (first | rw [EI.out] | rw [EN.out] | rw [ES.out]); rintro e w3 ⟨rfl, hd⟩; have ha2 := ha2.drew hd; have hb2 := hb2.drew hd; have HD2 := hid_in (below_ex HD2.out hd); clear hd)
    | (go_at_call 21; refine (rwithin_v (by assumption) (by assumption)).mono ?_; rw [EI.out]; rintro e w3 ⟨rfl, hd⟩; have ha2 := ha2.drew hd; have hb2 := hb2.drew hd; have HD2 := hid_in (below_ex HD2.out hd); clear hd))
  go_ret
  exact ⟨rfl, HD2.out⟩

set_option maxHeartbeats 2000000 in
set_option maxRecDepth 100000 in
theorem orders_w2 (xs ys zs : List Str) (u v t : Value) (w : World) (ha : Val w u xs) (hb : Val w v ys) (hc : Val w t zs) (Y Z : Int)
    (EX : Hid (cmpL xs ys = 0)) (EX' : Hid (cmpL ys xs = 0)) (EY : Hid (cmpL ys zs = Y)) (EZ : Hid (cmpL xs zs = Z)) (EI : Hid (withinS xs ys = true)) (EI' : Hid (withinS ys xs = true)) (h1 : Y < 0) (h2 : Z < 0) :
    Calls Try.prog 5 #[u, v, t] w fun e w' => e = .returned (.bool true) ∧ Below w.heap.size w w' := by
  have HA := hid_in (awake_any w)
  have EN := hid_in (within_nil xs)
  have ES := hid_in (within_refl xs)
  go_enter Try.func5, Try.ntmps5
  go_wp2_with (first
    | (go_at_call 8; refine HA.out.mono ?_; rintro e w1 ⟨rfl, hbel⟩; have ha1 := ha.below hbel; have hb1 := hb.below hbel; have hc1 := hc.below hbel; have HB := hid_in hbel; clear hbel ha hb hc)
    | (go_at_call 18; refine (compare_v (by assumption) (by assumption)).mono ?_; (first | rw [EX.out] | rw [EX'.out] | rw [EY.out] | rw [EZ.out]); rintro e w' ⟨rfl, hw⟩; obtain rfl := hw.symm; clear hw)
    | (go_at_call 19; refine (rcompare_v (by assumption) (by assumption)).mono ?_; rw [EX.out]; rintro e w2 ⟨rfl, hd⟩; have ha2 := ha1.drew hd; have hb2 := hb1.drew hd; have HD2 := hid_in (below_ex HB.out hd); clear hd)
    | (go_at_call 20; refine (within_v (by assumption) (by first | assumption | exact Val.none _)).mono ?_; (first | rw [EI.out] | rw [EI'.out] | rw [EN.out] | rw [ES.out]); rintro e w3 ⟨rfl, hd⟩; have ha2 := ha2.drew hd; have hb2 := hb2.drew hd; have HD2 := hid_in (below_ex HD2.out hd); clear hd)
    | (go_at_call 21; refine (rwithin_v (by assumption) (by assumption)).mono ?_; rw [EI.out]; rintro e w3 ⟨rfl, hd⟩; have ha2 := ha2.drew hd; have hb2 := hb2.drew hd; have HD2 := hid_in (below_ex HD2.out hd); clear hd))
  go_ret
  exact ⟨rfl, HD2.out⟩

set_option maxHeartbeats 2000000 in
set_option maxRecDepth 100000 in
theorem orders_w3 (xs ys zs : List Str) (u v t : Value) (w : World) (ha : Val w u xs) (hb : Val w v ys) (hc : Val w t zs) (Y Z : Int)
    (EX : Hid (cmpL xs ys = 0)) (EX' : Hid (cmpL ys xs = 0)) (EY : Hid (cmpL ys zs = Y)) (EZ : Hid (cmpL xs zs = Z)) (EI : Hid (withinS xs ys = true)) (EI' : Hid (withinS ys xs = true)) (h1 : Y = 0) (h2 : Z = 0) :
    Calls Try.prog 5 #[u, v, t] w fun e w' => e = .returned (.bool true) ∧ Below w.heap.size w w' := by
  have HA := hid_in (awake_any w)
  have EN := hid_in (within_nil xs)
  have ES := hid_in (within_refl xs)
  go_enter Try.func5, Try.ntmps5
  go_wp2_with (first
    | (go_at_call 8; refine HA.out.mono ?_; rintro e w1 ⟨rfl, hbel⟩; have ha1 := ha.below hbel; have hb1 := hb.below hbel; have hc1 := hc.below hbel; have HB := hid_in hbel; clear hbel ha hb hc)
    | (go_at_call 18; refine (compare_v (by assumption) (by assumption)).mono ?_; (first | rw [EX.out] | rw [EX'.out] | rw [EY.out] | rw [EZ.out]); rintro e w' ⟨rfl, hw⟩; obtain rfl := hw.symm; clear hw)
    | (go_at_call 19; refine (rcompare_v (by assumption) (by assumption)).mono ?_; rw [EX.out]; rintro e w2 ⟨rfl, hd⟩; have ha2 := ha1.drew hd; have hb2 := hb1.drew hd; have HD2 := hid_in (below_ex HB.out hd); clear hd)
    | (go_at_call 20; refine (within_v (by assumption) (by first | assumption | exact Val.none _)).mono ?_; (first | rw [EI.out] | rw [EI'.out] | rw [EN.out] | rw [ES.out]); rintro e w3 ⟨rfl, hd⟩; have ha2 := ha2.drew hd; have hb2 := hb2.drew hd; have HD2 := hid_in (below_ex HD2.out hd); clear hd)
    | (go_at_call 21; refine (rwithin_v (by assumption) (by assumption)).mono ?_; rw [EI.out]; rintro e w3 ⟨rfl, hd⟩; have ha2 := ha2.drew hd; have hb2 := hb2.drew hd; have HD2 := hid_in (below_ex HD2.out hd); clear hd))
  go_ret
  exact ⟨rfl, HD2.out⟩

set_option maxHeartbeats 2000000 in
set_option maxRecDepth 100000 in
theorem orders_w4 (xs ys zs : List Str) (u v t : Value) (w : World) (ha : Val w u xs) (hb : Val w v ys) (hc : Val w t zs) (Y Z : Int)
    (EX : Hid (cmpL xs ys = 0)) (EX' : Hid (cmpL ys xs = 0)) (EY : Hid (cmpL ys zs = Y)) (EZ : Hid (cmpL xs zs = Z)) (EI : Hid (withinS xs ys = true)) (EI' : Hid (withinS ys xs = true)) (h1 : 0 < Y) (h2 : 0 < Z) :
    Calls Try.prog 5 #[u, v, t] w fun e w' => e = .returned (.bool true) ∧ Below w.heap.size w w' := by
  have HA := hid_in (awake_any w)
  have EN := hid_in (within_nil xs)
  have ES := hid_in (within_refl xs)
  go_enter Try.func5, Try.ntmps5
  go_wp2_with (first
    | (go_at_call 8; refine HA.out.mono ?_; rintro e w1 ⟨rfl, hbel⟩; have ha1 := ha.below hbel; have hb1 := hb.below hbel; have hc1 := hc.below hbel; have HB := hid_in hbel; clear hbel ha hb hc)
    | (go_at_call 18; refine (compare_v (by assumption) (by assumption)).mono ?_; (first | rw [EX.out] | rw [EX'.out] | rw [EY.out] | rw [EZ.out]); rintro e w' ⟨rfl, hw⟩; obtain rfl := hw.symm; clear hw)
    | (go_at_call 19; refine (rcompare_v (by assumption) (by assumption)).mono ?_; rw [EX.out]; rintro e w2 ⟨rfl, hd⟩; have ha2 := ha1.drew hd; have hb2 := hb1.drew hd; have HD2 := hid_in (below_ex HB.out hd); clear hd)
    | (go_at_call 20; refine (within_v (by assumption) (by first | assumption | exact Val.none _)).mono ?_; (first | rw [EI.out] | rw [EI'.out] | rw [EN.out] | rw [ES.out]); rintro e w3 ⟨rfl, hd⟩; have ha2 := ha2.drew hd; have hb2 := hb2.drew hd; have HD2 := hid_in (below_ex HD2.out hd); clear hd)
    | (go_at_call 21; refine (rwithin_v (by assumption) (by assumption)).mono ?_; rw [EI.out]; rintro e w3 ⟨rfl, hd⟩; have ha2 := ha2.drew hd; have hb2 := hb2.drew hd; have HD2 := hid_in (below_ex HD2.out hd); clear hd))
  go_ret
  exact ⟨rfl, HD2.out⟩

set_option maxHeartbeats 2000000 in
set_option maxRecDepth 100000 in
theorem orders_w5 (xs ys zs : List Str) (u v t : Value) (w : World) (ha : Val w u xs) (hb : Val w v ys) (hc : Val w t zs) (Y Z : Int)
    (EX : Hid (cmpL xs ys = 1)) (EX' : Hid (cmpL ys xs = -1)) (EY : Hid (cmpL ys zs = Y)) (EZ : Hid (cmpL xs zs = Z)) (EI : Hid (withinS xs ys = false)) (h1 : Y < 0) :
    Calls Try.prog 5 #[u, v, t] w fun e w' => e = .returned (.bool true) ∧ Below w.heap.size w w' := by
  have HA := hid_in (awake_any w)
  have EN := hid_in (within_nil xs)
  have ES := hid_in (within_refl xs)
  go_enter Try.func5, Try.ntmps5
  go_wp2_with (first
    | (go_at_call 8; refine HA.out.mono ?_; rintro e w1 ⟨rfl, hbel⟩; have ha1 := ha.below hbel; have hb1 := hb.below hbel; have hc1 := hc.below hbel; have HB := hid_in hbel; clear hbel ha hb hc)
    | (go_at_call 18; refine (compare_v (by assumption) (by assumption)).mono ?_; (first | rw [EX.out] | rw [EX'.out] | rw [EY.out] | rw [EZ.out]); rintro e w' ⟨rfl, hw⟩; obtain rfl := hw.symm; clear hw)
    | (go_at_call 19; refine (rcompare_v (by assumption) (by assumption)).mono ?_; rw [EX.out]; rintro e w2 ⟨rfl, hd⟩; have ha2 := ha1.drew hd; have hb2 := hb1.drew hd; have HD2 := hid_in (below_ex HB.out hd); clear hd)
    | (go_at_call 20; refine (within_v (by assumption) (by first | assumption | exact Val.none _)).mono ?_; (first | rw [EI.out] | rw [EN.out] | rw [ES.out]); rintro e w3 ⟨rfl, hd⟩; have ha2 := ha2.drew hd; have hb2 := hb2.drew hd; have HD2 := hid_in (below_ex HD2.out hd); clear hd)
    | (go_at_call 21; refine (rwithin_v (by assumption) (by assumption)).mono ?_; rw [EI.out]; rintro e w3 ⟨rfl, hd⟩; have ha2 := ha2.drew hd; have hb2 := hb2.drew hd; have HD2 := hid_in (below_ex HD2.out hd); clear hd))
  go_ret
  exact ⟨rfl, HD2.out⟩

set_option maxHeartbeats 2000000 in
set_option maxRecDepth 100000 in
theorem orders_w6 (xs ys zs : List Str) (u v t : Value) (w : World) (ha : Val w u xs) (hb : Val w v ys) (hc : Val w t zs) (Y Z : Int)
    (EX : Hid (cmpL xs ys = 1)) (EX' : Hid (cmpL ys xs = -1)) (EY : Hid (cmpL ys zs = Y)) (EZ : Hid (cmpL xs zs = Z)) (EI : Hid (withinS xs ys = false)) (h1 : 0 ≤ Y) (h2 : 0 ≤ Z) :
    Calls Try.prog 5 #[u, v, t] w fun e w' => e = .returned (.bool true) ∧ Below w.heap.size w w' := by
  have HA := hid_in (awake_any w)
  have EN := hid_in (within_nil xs)
  have ES := hid_in (within_refl xs)
  go_enter Try.func5, Try.ntmps5
  go_wp2_with (first
    | (go_at_call 8; refine HA.out.mono ?_; rintro e w1 ⟨rfl, hbel⟩; have ha1 := ha.below hbel; have hb1 := hb.below hbel; have hc1 := hc.below hbel; have HB := hid_in hbel; clear hbel ha hb hc)
    | (go_at_call 18; refine (compare_v (by assumption) (by assumption)).mono ?_; (first | rw [EX.out] | rw [EX'.out] | rw [EY.out] | rw [EZ.out]); rintro e w' ⟨rfl, hw⟩; obtain rfl := hw.symm; clear hw)
    | (go_at_call 19; refine (rcompare_v (by assumption) (by assumption)).mono ?_; rw [EX.out]; rintro e w2 ⟨rfl, hd⟩; have ha2 := ha1.drew hd; have hb2 := hb1.drew hd; have HD2 := hid_in (below_ex HB.out hd); clear hd)
    | (go_at_call 20; refine (within_v (by assumption) (by first | assumption | exact Val.none _)).mono ?_; (first | rw [EI.out] | rw [EN.out] | rw [ES.out]); rintro e w3 ⟨rfl, hd⟩; have ha2 := ha2.drew hd; have hb2 := hb2.drew hd; have HD2 := hid_in (below_ex HD2.out hd); clear hd)
    | (go_at_call 21; refine (rwithin_v (by assumption) (by assumption)).mono ?_; rw [EI.out]; rintro e w3 ⟨rfl, hd⟩; have ha2 := ha2.drew hd; have hb2 := hb2.drew hd; have HD2 := hid_in (below_ex HD2.out hd); clear hd))
  go_ret
  exact ⟨rfl, HD2.out⟩

set_option maxHeartbeats 2000000 in
set_option maxRecDepth 100000 in
theorem orders_w7 (xs ys zs : List Str) (u v t : Value) (w : World) (ha : Val w u xs) (hb : Val w v ys) (hc : Val w t zs) (Y Z : Int)
    (EX : Hid (cmpL xs ys = 1)) (EX' : Hid (cmpL ys xs = -1)) (EY : Hid (cmpL ys zs = Y)) (EZ : Hid (cmpL xs zs = Z)) (EI : Hid (withinS xs ys = true)) (EI' : Hid (withinS ys xs = false)) (h1 : Y < 0) :
    Calls Try.prog 5 #[u, v, t] w fun e w' => e = .returned (.bool true) ∧ Below w.heap.size w w' := by
  have HA := hid_in (awake_any w)
  have EN := hid_in (within_nil xs)
  have ES := hid_in (within_refl xs)
  go_enter Try.func5, Try.ntmps5
  go_wp2_with (first
    | (go_at_call 8; refine HA.out.mono ?_; rintro e w1 ⟨rfl, hbel⟩; have ha1 := ha.below hbel; have hb1 := hb.below hbel; have hc1 := hc.below hbel; have HB := hid_in hbel; clear hbel ha hb hc)
    | (go_at_call 18; refine (compare_v (by assumption) (by assumption)).mono ?_; (first | rw [EX.out] | rw [EX'.out] | rw [EY.out] | rw [EZ.out]); rintro e w' ⟨rfl, hw⟩; obtain rfl := hw.symm; clear hw)
    | (go_at_call 19; refine (rcompare_v (by assumption) (by assumption)).mono ?_; rw [EX.out]; rintro e w2 ⟨rfl, hd⟩; have ha2 := ha1.drew hd; have hb2 := hb1.drew hd; have HD2 := hid_in (below_ex HB.out hd); clear hd)
    | (go_at_call 20; refine (within_v (by assumption) (by first | assumption | exact Val.none _)).mono ?_; (first | rw [EI.out] | rw [EI'.out] | rw [EN.out] | rw [ES.out]); rintro e w3 ⟨rfl, hd⟩; have ha2 := ha2.drew hd; have hb2 := hb2.drew hd; have HD2 := hid_in (below_ex HD2.out hd); clear hd)
    | (go_at_call 21; refine (rwithin_v (by assumption) (by assumption)).mono ?_; rw [EI.out]; rintro e w3 ⟨rfl, hd⟩; have ha2 := ha2.drew hd; have hb2 := hb2.drew hd; have HD2 := hid_in (below_ex HD2.out hd); clear hd))
  go_ret
  exact ⟨rfl, HD2.out⟩

set_option maxHeartbeats 2000000 in
set_option maxRecDepth 100000 in
theorem orders_w8 (xs ys zs : List Str) (u v t : Value) (w : World) (ha : Val w u xs) (hb : Val w v ys) (hc : Val w t zs) (Y Z : Int)
    (EX : Hid (cmpL xs ys = 1)) (EX' : Hid (cmpL ys xs = -1)) (EY : Hid (cmpL ys zs = Y)) (EZ : Hid (cmpL xs zs = Z)) (EI : Hid (withinS xs ys = true)) (EI' : Hid (withinS ys xs = false)) (h1 : 0 ≤ Y) (h2 : 0 ≤ Z) :
    Calls Try.prog 5 #[u, v, t] w fun e w' => e = .returned (.bool true) ∧ Below w.heap.size w w' := by
  have HA := hid_in (awake_any w)
  have EN := hid_in (within_nil xs)
  have ES := hid_in (within_refl xs)
  go_enter Try.func5, Try.ntmps5
  go_wp2_with (first
    | (go_at_call 8; refine HA.out.mono ?_; rintro e w1 ⟨rfl, hbel⟩; have ha1 := ha.below hbel; have hb1 := hb.below hbel; have hc1 := hc.below hbel; have HB := hid_in hbel; clear hbel ha hb hc)
    | (go_at_call 18; refine (compare_v (by assumption) (by assumption)).mono ?_; (first | rw [EX.out] | rw [EX'.out] | rw [EY.out] | rw [EZ.out]); rintro e w' ⟨rfl, hw⟩; obtain rfl := hw.symm; clear hw)
    | (go_at_call 19; refine (rcompare_v (by assumption) (by assumption)).mono ?_; rw [EX.out]; rintro e w2 ⟨rfl, hd⟩; have ha2 := ha1.drew hd; have hb2 := hb1.drew hd; have HD2 := hid_in (below_ex HB.out hd); clear hd)
    | (go_at_call 20; refine (within_v (by assumption) (by first | assumption | exact Val.none _)).mono ?_; (first | rw [EI.out] | rw [EI'.out] | rw [EN.out] | rw [ES.out]); rintro e w3 ⟨rfl, hd⟩; have ha2 := ha2.drew hd; have hb2 := hb2.drew hd; have HD2 := hid_in (below_ex HD2.out hd); clear hd)
    | (go_at_call 21; refine (rwithin_v (by assumption) (by assumption)).mono ?_; rw [EI.out]; rintro e w3 ⟨rfl, hd⟩; have ha2 := ha2.drew hd; have hb2 := hb2.drew hd; have HD2 := hid_in (below_ex HD2.out hd); clear hd))
  go_ret
  exact ⟨rfl, HD2.out⟩

theorem orders_any (xs ys zs : List Str) (u v t : Value) (w : World) (ha : Val w u xs) (hb : Val w v ys) (hc : Val w t zs) :
    Calls Try.prog 5 #[u, v, t] w fun e w' => e = .returned (.bool true) ∧ Below w.heap.size w w' := by
  rcases orders_cases xs ys zs with ⟨e1, e2, e3, ⟨h1, h2⟩ | h1⟩ | ⟨e1, e2, e3, e4, e5, h1 | h1 | h1⟩ | ⟨e1, e2, e3 | ⟨e3, e4⟩, h1 | ⟨h1, h2⟩⟩
  · exact orders_w0 xs ys zs u v t w ha hb hc _ _ e1 e2 rfl rfl e3 h1 h2
  · exact orders_w1 xs ys zs u v t w ha hb hc _ _ e1 e2 rfl rfl e3 h1
  · exact orders_w2 xs ys zs u v t w ha hb hc _ _ e1 e2 rfl rfl e3 e4 h1 (e5 ▸ h1)
  · exact orders_w3 xs ys zs u v t w ha hb hc _ _ e1 e2 rfl rfl e3 e4 h1 (e5 ▸ h1)
  · exact orders_w4 xs ys zs u v t w ha hb hc _ _ e1 e2 rfl rfl e3 e4 h1 (e5 ▸ h1)
  · exact orders_w5 xs ys zs u v t w ha hb hc _ _ e1 e2 rfl rfl e3 h1
  · exact orders_w6 xs ys zs u v t w ha hb hc _ _ e1 e2 rfl rfl e3 h1 h2
  · exact orders_w7 xs ys zs u v t w ha hb hc _ _ e1 e2 rfl rfl e3 e4 h1
  · exact orders_w8 xs ys zs u v t w ha hb hc _ _ e1 e2 rfl rfl e3 e4 h1 h2
end Go.Proofs.Ytodfdinocnhaoaa
