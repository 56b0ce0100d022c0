/-
  The walks of (*wire.In).Int, Err, Left and End.
-/
import Derived.Test.YtbccjomnfclkdaaS11
namespace Go.Proofs.Ytbccjomnfclkdaa
open Go.RowKit
namespace Wire
end Wire
theorem rnumF_lt : ∀ (f k acc : Nat) (bs : List Nat), k ≤ 9 → acc < 128 ^ k → (Wire.rnumF f k acc bs).1 < 18446744073709551616
  | 0, _, _, _, _, _ => by simp [Wire.rnumF]
  | _ + 1, _, _, [], _, _ => by simp [Wire.rnumF]
  | f + 1, k, acc, c :: r, hk, ha => by
    simp only [Wire.rnumF]
    split
    · simp
    · rename_i hbad
      have h128 : (128 : Nat) ^ k ≤ 9223372036854775808 := by
        have : (128 : Nat) ^ k ≤ 128 ^ 9 := Nat.pow_le_pow_right (by decide) hk
        simpa using this
      split
      · rename_i hc
        simp only
        rcases Nat.lt_or_eq_of_le hk with h | h
        · have h8 : (128 : Nat) ^ k ≤ 128 ^ 8 := Nat.pow_le_pow_right (by decide) (by omega)
          have e8 : (128 : Nat) ^ 8 = 72057594037927936 := by decide
          have : c * 128 ^ k ≤ 127 * 128 ^ 8 := Nat.mul_le_mul (by omega) h8
          omega
        · have : c * 128 ^ k ≤ 1 * 9223372036854775808 := Nat.mul_le_mul (by omega) h128
          omega
      · rename_i hc
        rcases Nat.lt_or_eq_of_le hk with h | h
        · refine rnumF_lt f (k + 1) _ r (by omega) ?_
          have : c % 128 * 128 ^ k ≤ 127 * 128 ^ k := Nat.mul_le_mul_right _ (by omega)
          rw [Nat.pow_succ]
          omega
        · omega
theorem rnum_lt (bs : List Nat) : (Wire.rnum bs).1 < 18446744073709551616 := rnumF_lt 10 0 0 bs (by omega) (by simp)
theorem iend_any {B : Nat} (w : World) (g e : Nat) (bs : List Nat) (hi : InIs B w g bs e) : Calls Try.prog 34 #[.pointer (some ⟨g, 0, none⟩)] w fun r w' => r = .returned (.bool (decide (e = 0 ∧ bs.length = 0))) ∧ w' = w := by
  obtain ⟨p, cap, b, off, hr, hsl, hno, hne⟩ := hi.ex
  have c0 : w.cell? ⟨g, 0, none⟩ = some (.slice p bs.length cap) := hr.cell 0
  have c1 : w.cell? ⟨g, 1, none⟩ = some (.int .i64 (e : Int)) := hr.cell 1
  clear hi hr hsl hno hne
  obtain ⟨bo, HB⟩ : ∃ bo, Hid (decide (e = 0 ∧ bs.length = 0) = bo) := ⟨_, rfl⟩
  rw [HB.out]
  by_cases h0 : e = 0
  · subst h0
    by_cases h1 : bs.length = 0
    · rw [h1] at c0
      have HD : Hid (bo = true) := by show _ = _; rw [← HB.out]; simp [h1]
      clear h1
      go_enter Try.func34, Try.ntmps34
      go_wp2
      go_ret
      rw [HD.out]
      exact ⟨rfl, rfl⟩
    · have k2 : ((bs.length : Int) == 0) = false := by rw [beq_eq_false_iff_ne]; omega
      have HD : Hid (bo = false) := by show _ = _; rw [← HB.out]; simp [h1]
      clear h1
      go_enter Try.func34, Try.ntmps34
      go_wp2
      go_ret
      rw [HD.out]
      exact ⟨rfl, rfl⟩
  · have k1 : ((e : Int) == 0) = false := by rw [beq_eq_false_iff_ne]; omega
    have HD : Hid (bo = false) := by show _ = _; rw [← HB.out]; simp [h0]
    go_enter Try.func34, Try.ntmps34
    go_wp2
    go_ret
    rw [HD.out]
    exact ⟨rfl, rfl⟩
end Go.Proofs.Ytbccjomnfclkdaa
