/-
  The words of SHA-256 as the program reckons them, in plain numbers.
-/
import Derived.Test.YtokjbmpiekadaaaDoorW1
import Derived.Test.YtokjbmpiekadaaaDoorMem
namespace Go.Proofs.YtokjbmpiekadaaaDoor
open Go.RowKit

theorem or_join (i x y : Nat) (hx : x % 2 ^ i = 0) (hy : y < 2 ^ i) (hx' : x < 4294967296) (hy' : y < 4294967296) : bits .or .u32 (x : Int) (y : Int) = ((x + y : Nat) : Int) := by
  rw [u32_or_nat _ _ hx' hy', nat_join i x y hx hy]
theorem word0_form (x0 x1 x2 x3 : Nat) (b0 : x0 < 256) (b1 : x1 < 256) (b2 : x2 < 256) (b3 : x3 < 256) :
    bits .or .u32 (bits .or .u32 (bits .or .u32 ((x0 : Int) * 16777216) ((x1 : Int) * 65536)) ((x2 : Int) * 256)) (x3 : Int) = ((x0 * 16777216 + x1 * 65536 + x2 * 256 + x3 : Nat) : Int) := by
  have e0 : (x0 : Int) * 16777216 = ((x0 * 16777216 : Nat) : Int) := by simp
  have e1 : (x1 : Int) * 65536 = ((x1 * 65536 : Nat) : Int) := by simp
  have e2 : (x2 : Int) * 256 = ((x2 * 256 : Nat) : Int) := by simp
  rw [e0, e1, e2, or_join 24 _ _ (by omega) (by omega) (by omega) (by omega), or_join 16 _ _ (by omega) (by omega) (by omega) (by omega), or_join 8 _ _ (by omega) (by omega) (by omega) (by omega)]

theorem rotr_lt (x n : Nat) (hx : x < 4294967296) : Sha.rotr x n < 4294967296 :=
  Nat.or_lt_two_pow (n := 32) (Nat.mod_lt _ (by decide)) (Nat.lt_of_le_of_lt (Nat.div_le_self _ _) hx)
theorem xor_lt (x y : Nat) (hx : x < 4294967296) (hy : y < 4294967296) : x ^^^ y < 4294967296 := Nat.xor_lt_two_pow (n := 32) hx hy
theorem and_lt (x y : Nat) (hx : x < 4294967296) : x &&& y < 4294967296 := Nat.lt_of_le_of_lt Nat.and_le_left hx
theorem s0_lt (x : Nat) (hx : x < 4294967296) : Sha.s0 x < 4294967296 := xor_lt _ _ (xor_lt _ _ (rotr_lt _ _ hx) (rotr_lt _ _ hx)) (by omega)
theorem s1_lt (x : Nat) (hx : x < 4294967296) : Sha.s1 x < 4294967296 := xor_lt _ _ (xor_lt _ _ (rotr_lt _ _ hx) (rotr_lt _ _ hx)) (by omega)
theorem S0_lt (x : Nat) (hx : x < 4294967296) : Sha.S0 x < 4294967296 := xor_lt _ _ (xor_lt _ _ (rotr_lt _ _ hx) (rotr_lt _ _ hx)) (rotr_lt _ _ hx)
theorem S1_lt (x : Nat) (hx : x < 4294967296) : Sha.S1 x < 4294967296 := xor_lt _ _ (xor_lt _ _ (rotr_lt _ _ hx) (rotr_lt _ _ hx)) (rotr_lt _ _ hx)
theorem ch_lt (e f g : Nat) (he : e < 4294967296) : Sha.ch e f g < 4294967296 := xor_lt _ _ (and_lt _ _ he) (and_lt _ _ (by omega))
theorem maj_lt (e f g : Nat) (he : e < 4294967296) (hf : f < 4294967296) : Sha.maj e f g < 4294967296 := xor_lt _ _ (xor_lt _ _ (and_lt _ _ he) (and_lt _ _ he)) (and_lt _ _ hf)
theorem s0_form (x : Nat) (hx : x < 4294967296) : bits .xor .u32 (bits .xor .u32 (Sha.rotr x 7 : Int) (Sha.rotr x 18 : Int)) ((x : Int) / 8) = (Sha.s0 x : Int) := by
  rw [show (x : Int) / 8 = ((x / 8 : Nat) : Int) by simp, u32_xor_nat _ _ (rotr_lt _ _ hx) (rotr_lt _ _ hx), u32_xor_nat _ _ (xor_lt _ _ (rotr_lt _ _ hx) (rotr_lt _ _ hx)) (by omega)]; rfl
theorem s1_form (x : Nat) (hx : x < 4294967296) : bits .xor .u32 (bits .xor .u32 (Sha.rotr x 17 : Int) (Sha.rotr x 19 : Int)) ((x : Int) / 1024) = (Sha.s1 x : Int) := by
  rw [show (x : Int) / 1024 = ((x / 1024 : Nat) : Int) by simp, u32_xor_nat _ _ (rotr_lt _ _ hx) (rotr_lt _ _ hx), u32_xor_nat _ _ (xor_lt _ _ (rotr_lt _ _ hx) (rotr_lt _ _ hx)) (by omega)]; rfl
theorem S0_form (x : Nat) (hx : x < 4294967296) : bits .xor .u32 (bits .xor .u32 (Sha.rotr x 2 : Int) (Sha.rotr x 13 : Int)) (Sha.rotr x 22 : Int) = (Sha.S0 x : Int) := by
  rw [u32_xor_nat _ _ (rotr_lt _ _ hx) (rotr_lt _ _ hx), u32_xor_nat _ _ (xor_lt _ _ (rotr_lt _ _ hx) (rotr_lt _ _ hx)) (rotr_lt _ _ hx)]; rfl
theorem S1_form (x : Nat) (hx : x < 4294967296) : bits .xor .u32 (bits .xor .u32 (Sha.rotr x 6 : Int) (Sha.rotr x 11 : Int)) (Sha.rotr x 25 : Int) = (Sha.S1 x : Int) := by
  rw [u32_xor_nat _ _ (rotr_lt _ _ hx) (rotr_lt _ _ hx), u32_xor_nat _ _ (xor_lt _ _ (rotr_lt _ _ hx) (rotr_lt _ _ hx)) (rotr_lt _ _ hx)]; rfl

theorem xor_ones (e : Nat) (he : e < 4294967296) : 4294967295 ^^^ e = 4294967295 - e := by
  refine Nat.eq_of_testBit_eq fun i => ?_
  rw [Nat.testBit_xor, show (4294967295 : Nat) = 2 ^ 32 - 1 from rfl, Nat.testBit_two_pow_sub_one, show 2 ^ 32 - 1 - e = 2 ^ 32 - (e + 1) by omega, Nat.testBit_two_pow_sub_succ (show e < 2 ^ 32 by omega)]
  by_cases h : i < 32
  · simp [h]
  · have : e.testBit i = false := Nat.testBit_lt_two_pow (Nat.lt_of_lt_of_le (show e < 2 ^ 32 by omega) (Nat.pow_le_pow_right (by omega) (by omega)))
    simp [h, this]
theorem not_form (e : Nat) (he : e < 4294967296) : bits .xor .u32 (if IntKind.u32.signed = true then -1 else IntKind.u32.max) (e : Int) = ((4294967295 - e : Nat) : Int) := by
  have h : (if IntKind.u32.signed = true then -1 else IntKind.u32.max : Int) = ((4294967295 : Nat) : Int) := by decide
  rw [h, u32_xor_nat _ _ (by decide) he, xor_ones e he]
theorem ch_form (e f g : Nat) (he : e < 4294967296) (hf : f < 4294967296) (hg : g < 4294967296) :
    bits .xor .u32 (bits .and .u32 (e : Int) (f : Int)) (bits .and .u32 (bits .xor .u32 (if IntKind.u32.signed = true then -1 else IntKind.u32.max) (e : Int)) (g : Int)) = (Sha.ch e f g : Int) := by
  rw [not_form e he, u32_and_nat _ _ he hf, u32_and_nat _ _ (by omega) hg, u32_xor_nat _ _ (and_lt _ _ he) (and_lt _ _ (by omega))]; rfl
theorem maj_form (a b c : Nat) (ha : a < 4294967296) (hb : b < 4294967296) (hc : c < 4294967296) :
    bits .xor .u32 (bits .xor .u32 (bits .and .u32 (a : Int) (b : Int)) (bits .and .u32 (a : Int) (c : Int))) (bits .and .u32 (b : Int) (c : Int)) = (Sha.maj a b c : Int) := by
  rw [u32_and_nat _ _ ha hb, u32_and_nat _ _ ha hc, u32_and_nat _ _ hb hc, u32_xor_nat _ _ (and_lt _ _ ha) (and_lt _ _ ha), u32_xor_nat _ _ (xor_lt _ _ (and_lt _ _ ha) (and_lt _ _ ha)) (and_lt _ _ hb)]; rfl
theorem t1_form (s : Sha.St) (k w : Nat) : ((s.h : Int) + (Sha.S1 s.e : Int) + (Sha.ch s.e s.f s.g : Int) + (k : Int) + (w : Int)) % 4294967296 = (Sha.t1 s k w : Int) := by
  unfold Sha.t1; simp
theorem t2_form (s : Sha.St) : ((Sha.S0 s.a : Int) + (Sha.maj s.a s.b s.c : Int)) % 4294967296 = (Sha.t2 s : Int) := by
  unfold Sha.t2; simp
theorem add_form (x y : Nat) : ((x : Int) + (y : Int)) % 4294967296 = (((x + y) % 4294967296 : Nat) : Int) := by simp

theorem right_at (x n : Nat) (k : Int) (hk : k = (n : Int)) (hx : x < 4294967296) (h1 : 1 ≤ n) (h2 : n ≤ 31) (w : World) :
    Calls Tryd.prog 70 #[.int .u32 (x : Int), .int .i64 k] w fun e w' => e = .returned (.int .u32 (Sha.rotr x n : Int)) ∧ w' = w := by
  subst hk; exact right_any x n hx h1 h2 w
theorem wl_length (bl : List Nat) (t : Nat) : (Sha.wl bl t).length = t := by
  induction t with
  | zero => rfl
  | succ t ih => simp [Sha.wl, ih]
theorem word0_lt (bl : List Nat) (h : ∀ x ∈ bl, x < 256) (t : Nat) : Sha.word0 bl t < 4294967296 := by
  have h0 := getD_lt h (4 * t)
  have h1 := getD_lt h (4 * t + 1)
  have h2 := getD_lt h (4 * t + 2)
  have h3 := getD_lt h (4 * t + 3)
  unfold Sha.word0; omega
theorem wnext_lt (l : List Nat) (t : Nat) : Sha.wnext l t < 4294967296 := Nat.mod_lt _ (by decide)
theorem wl_lt (bl : List Nat) (h : ∀ x ∈ bl, x < 256) (t : Nat) : ∀ x ∈ Sha.wl bl t, x < 4294967296 := by
  induction t with
  | zero => simp [Sha.wl]
  | succ t ih =>
    intro x hx
    simp only [Sha.wl, List.mem_append, List.mem_singleton] at hx
    rcases hx with hx | rfl
    · exact ih x hx
    · split
      · exact word0_lt bl h t
      · exact wnext_lt _ t
end Go.Proofs.YtokjbmpiekadaaaDoor
