/-
  The walk of (*wire.In).Num.
-/
import Derived.Test.YtbccjomnfclkdaaS10
namespace Go.Proofs.Ytbccjomnfclkdaa
open Go.RowKit
namespace Wire
/-- a number that is read, its first k bytes passed: what it is, what is left, what is wrong -/
def rnumF : Nat → Nat → Nat → List Nat → Nat × List Nat × Nat
  | 0, _, _, _ => (0, [], 21)
  | _ + 1, _, _, [] => (0, [], 20)
  | f + 1, k, acc, c :: r => if (c = 0 ∧ 0 < k) ∨ (1 < c ∧ k = 9) then (0, [], 21) else if c < 128 then (acc + c * 128 ^ k, r, 0) else rnumF f (k + 1) (acc + c % 128 * 128 ^ k) r
def rnum (bs : List Nat) : Nat × List Nat × Nat := rnumF 10 0 0 bs
end Wire
theorem andNot128 (y : Nat) (h : y < 256) : bits .andNot .u8 (y : Int) 128 = ((y % 128 : Nat) : Int) := by
  have h1 := u8_andNot_nat y 128 h (by decide)
  have h2 : ∀ z : Fin 256, (z.1 &&& (255 - 128)) = z.1 % 128 := by decide +kernel
  rw [h2 ⟨y, h⟩] at h1
  exact h1
theorem or_pow (acc x k : Nat) (ha : acc < 128 ^ k) (hx : x * 128 ^ k < 18446744073709551616) (hacc : acc < 18446744073709551616) : bits .or .u64 (acc : Int) ((x : Int) * 2 ^ (7 * k) % 18446744073709551616) = ((acc + x * 128 ^ k : Nat) : Int) := by
  have e : (128 : Nat) ^ k = 2 ^ (7 * k) := by rw [Nat.pow_mul]
  have e1 : (x : Int) * 2 ^ (7 * k) % 18446744073709551616 = ((x * 128 ^ k : Nat) : Int) := by
    rw [e] at hx ⊢
    have : (x : Int) * 2 ^ (7 * k) = ((x * 2 ^ (7 * k) : Nat) : Int) := by simp
    rw [this]
    omega
  rw [e1, u64_or_nat _ _ hacc hx, Nat.or_comm, nat_join (7 * k) _ _ (by rw [e]; exact Nat.mul_mod_left _ _) (by rw [← e]; exact ha)]
  rw [Nat.add_comm]
theorem or_fin (acc c k : Nat) (ha : acc < 128 ^ k) (hx : c % 128 * 128 ^ k < 18446744073709551616) (hacc : acc < 18446744073709551616) : bits .or .u64 (acc : Int) (IntKind.u64.wrap ((c : Int) % 128 * 2 ^ (7 * k))) = ((acc + c % 128 * 128 ^ k : Nat) : Int) := by
  have h := or_pow acc (c % 128) k ha hx hacc
  rw [show ((c % 128 : Nat) : Int) = (c : Int) % 128 by simp] at h
  rw [IntKind.wrap_u64]
  exact h
theorem or_one (acc k : Nat) (ha : acc < 128 ^ k) (hx : 1 % 128 * 128 ^ k < 18446744073709551616) (hacc : acc < 18446744073709551616) : bits .or .u64 (acc : Int) (IntKind.u64.wrap (IntKind.u64.wrap (bits .andNot .u8 1 128) * 2 ^ (7 * k))) = ((acc + 1 % 128 * 128 ^ k : Nat) : Int) := by
  have h := or_fin acc 1 k ha hx hacc
  have e : IntKind.u64.wrap (bits .andNot .u8 1 128) = ((1 : Nat) : Int) % 128 := by decide
  rw [e]
  exact h
set_option maxHeartbeats 1000000 in
theorem inum_bad {B : Nat} (w : World) (g e : Nat) (bs : List Nat) (he : e ≠ 0) (hi : InIs B w g bs e) :
    Calls Try.prog 54 #[.pointer (some ⟨g, 0, none⟩)] w fun r w' => r = .returned (.int .u64 0) ∧ w' = w := by
  go_enter Try.func54, Try.ntmps54
  go_wp2_with fail
  go_loopw [3, 4] (fun _ _ w' => w' = w) (fun _ _ _ => 0)
  case atStart => rfl
  case round =>
    obtain rfl := hrel
    go_wp2_with fail
    refine (take_bad _ g e 1 bs he hi).mono ?_
    rintro e w1 ⟨rfl, rfl⟩
    clear hi
    go_wp2
    go_ret
    exact ⟨rfl, rfl⟩
set_option maxHeartbeats 2000000 in
set_option maxRecDepth 100000 in
theorem inum_any {B : Nat} (w : World) (g : Nat) (bs : List Nat) (hlt : ∀ x ∈ bs, x < 256) (hi : InIs B w g bs 0) :
    Calls Try.prog 54 #[.pointer (some ⟨g, 0, none⟩)] w fun r w' => r = .returned (.int .u64 ((Wire.rnum bs).1 : Int)) ∧ InIs B w' g (Wire.rnum bs).2.1 (Wire.rnum bs).2.2 ∧ w.grownBy w' (some g) ∧ w'.heap.size = w.heap.size := by
  go_enter Try.func54, Try.ntmps54
  go_wp2_with fail
  go_loopw [3, 4] (fun vn vs w' => ∃ (k acc : Nat) (r : List Nat), k ≤ 9 ∧ vs = .int .i64 ((7 * k : Nat) : Int) ∧ vn = .int .u64 (acc : Int) ∧ acc < 128 ^ k ∧ (∀ x ∈ r, x < 256) ∧ InIs B w' g r 0 ∧ Wire.rnumF (10 - k) k acc r = Wire.rnum bs ∧ w.grownBy w' (some g) ∧ w'.heap.size = w.heap.size) (fun _ vs _ => 64 - (intOf vs).toNat)
  case atStart => exact ⟨0, 0, bs, by omega, rfl, rfl, by simp, hlt, hi, rfl, grownBy_refl _ _, rfl⟩
  case round =>
    clear hi hlt
    obtain ⟨k, acc, r, hk, rfl, rfl, hacc, hlt, hi, hr, hg, hs⟩ := hrel
    have HR := hid_in hr
    have HG := hid_in hg
    have HS := hid_in hs
    have HI := hid_in hi
    clear hr hg hs hi
    have h128 : 128 ^ k ≤ 9223372036854775808 := by
      have : (128 : Nat) ^ k ≤ 128 ^ 9 := Nat.pow_le_pow_right (by decide) hk
      simpa using this
    rcases r with _ | ⟨c, r⟩
    · have hrn : Hid (Wire.rnum bs = (0, [], 20)) := by
        show _ = _
        rw [← HR.out, show 10 - k = (9 - k) + 1 by omega]; rfl
      go_wp2_with fail
      refine (take_short _ g 1 [] (by simp) HI.out).mono ?_
      rintro e w1 ⟨rfl, h1, h2, h3⟩
      have H1 := hid_in h1
      have H3 := hid_in h3
      clear h1 h3
      go_wp2
      go_ret
      rw [hrn.out]
      exact ⟨rfl, H1.out, grownBy_trans HG.out h2, H3.out.trans HS.out⟩
    · have hc := hlt c (by simp)
      have hlt' : ∀ x ∈ r, x < 256 := fun x hx => hlt x (by simp [hx])
      clear hlt
      go_wp2_with fail
      refine (take_some _ g 1 (c :: r) (by omega) (by simp) HI.out).mono ?_
      rintro e w1 ⟨b, off, cap, rfl, hsl, h1, h2, h3⟩
      have c0 : w1.cell? ⟨b, off, none⟩ = some (.int .u8 (c : Int)) := hsl.src 0 (by simp)
      have H1 : Hid (InIs B w1 g r 0) := h1
      have HG1 := hid_in (grownBy_trans HG.out h2)
      have HS1 := hid_in (h3.trans HS.out)
      have HF1 := hid_in (h1.ex)
      clear h1 h2 h3 hsl HG HS HI
      have hAN := andNot128 c hc
      by_cases hbad : (c = 0 ∧ 0 < k) ∨ (1 < c ∧ k = 9)
      · have hrn : Hid (Wire.rnum bs = (0, [], 21)) := by
          show _ = _
          rw [← HR.out, show 10 - k = (9 - k) + 1 by omega]
          simp only [Wire.rnumF]
          rw [if_pos hbad]
        obtain ⟨p2, cap2, b2, off2, hrow, _, _, _⟩ := HF1.out
        have hff := fail_any (B := B) w1 g 21 _ _ hrow
        have HFF := hid_in hff
        clear hrow hff hAN
        rcases hbad with ⟨rfl, hk0⟩ | ⟨hc1, rfl⟩
        · have k1 : (0 : Int) < (k : Int) := by omega
          go_wp2_with fail
          refine HFF.out.mono ?_
          rintro e w2 ⟨rfl, h1, h2, h3⟩
          have H2 := hid_in h1
          have H3 := hid_in h3
          clear h1 h3
          go_wp2
          go_ret
          rw [hrn.out]
          exact ⟨rfl, H2.out, grownBy_trans HG1.out h2, H3.out.trans HS1.out⟩
        · have k1 : (1 : Int) < (c : Int) := by omega
          have k2 : ¬ ((c : Int) = 0) := by omega
          go_wp2_with fail
          refine HFF.out.mono ?_
          rintro e w2 ⟨rfl, h1, h2, h3⟩
          have H2 := hid_in h1
          have H3 := hid_in h3
          clear h1 h3
          go_wp2
          go_ret
          rw [hrn.out]
          exact ⟨rfl, H2.out, grownBy_trans HG1.out h2, H3.out.trans HS1.out⟩
      · have hx : c % 128 * 128 ^ k < 18446744073709551616 := by
          rcases Nat.lt_or_eq_of_le hk with h | h
          · have h8 : (128 : Nat) ^ k ≤ 128 ^ 8 := Nat.pow_le_pow_right (by decide) (by omega)
            have : c % 128 * 128 ^ k ≤ 127 * 128 ^ 8 := Nat.mul_le_mul (by omega) h8
            have e8 : (128 : Nat) ^ 8 = 72057594037927936 := by decide
            omega
          · have hc1 : c % 128 ≤ 1 := by omega
            have : c % 128 * 128 ^ k ≤ 1 * 9223372036854775808 := Nat.mul_le_mul hc1 h128
            omega
        have hc0 : c = 0 ∧ k = 0 ∨ c = 1 ∨ 1 < c ∧ k < 9 := by omega
        have k7 : (7 * k : Nat) ≤ 63 := by omega
        by_cases h128c : c < 128
        · have hrn : Hid (Wire.rnum bs = (acc + c % 128 * 128 ^ k, r, 0)) := by
            show _ = _
            rw [← HR.out, show 10 - k = (9 - k) + 1 by omega]
            simp only [Wire.rnumF]
            rw [if_neg hbad, if_pos h128c, show c % 128 = c by omega]
          have k5 : (c : Int) < 128 := by omega
          have HX := hid_in hx
          have HACC := hid_in hacc
          clear hbad hx hacc
          rcases hc0 with ⟨rfl, rfl⟩ | rfl | ⟨hc1, hk9⟩
          · go_wp2
            go_ret
            rw [hrn.out]
            have h0 := HACC.out
            obtain rfl : acc = 0 := by simpa using h0
            have e0 : bits .or .u64 ((0 : Nat) : Int) (IntKind.u64.wrap (IntKind.u64.wrap (bits .andNot .u8 0 128))) = ((0 + 0 % 128 * 128 ^ 0 : Nat) : Int) := by decide
            rw [e0]
            exact ⟨rfl, H1.out, HG1.out, HS1.out⟩
          · go_wp2
            go_ret
            rw [hrn.out, or_one acc k HACC.out HX.out (by have := HACC.out; omega)]
            exact ⟨rfl, H1.out, HG1.out, HS1.out⟩
          · have k1 : (1 : Int) < (c : Int) := by omega
            have k2 : ¬ ((c : Int) = 0) := by omega
            have k3 : (7 * k : Nat) < 63 := by omega
            go_wp2
            go_ret
            rw [hrn.out, or_fin acc c k HACC.out HX.out (by have := HACC.out; omega)]
            exact ⟨rfl, H1.out, HG1.out, HS1.out⟩
        · have k1 : (1 : Int) < (c : Int) := by omega
          have k2 : ¬ ((c : Int) = 0) := by omega
          have k3 : (7 * k : Nat) < 63 := by omega
          have k5 : (128 : Int) ≤ (c : Int) := by omega
          have hrn : Hid (Wire.rnumF (10 - (k + 1)) (k + 1) (acc + c % 128 * 128 ^ k) r = Wire.rnum bs) := by
            show _ = _
            rw [← HR.out, show 10 - k = (10 - (k + 1)) + 1 by omega]
            simp only [Wire.rnumF]
            rw [if_neg hbad, if_neg h128c]
          have HX := hid_in hx
          have HACC := hid_in hacc
          clear hbad hx hacc
          go_wp2
          rw [or_fin acc c k HACC.out HX.out (by have := HACC.out; omega)]
          refine ⟨⟨k + 1, acc + c % 128 * 128 ^ k, r, by omega, by go_num, rfl, ?_, hlt', H1.out, hrn.out, HG1.out, HS1.out⟩, by simp [intOf]; omega⟩
          have ha := HACC.out
          have : c % 128 * 128 ^ k ≤ 127 * 128 ^ k := Nat.mul_le_mul_right _ (by omega)
          rw [Nat.pow_succ]
          omega
end Go.Proofs.Ytbccjomnfclkdaa
