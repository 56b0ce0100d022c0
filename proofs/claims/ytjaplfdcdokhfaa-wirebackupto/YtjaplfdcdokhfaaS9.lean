/-
  The walks of (*wire.Out).Int and Bytes, and wire.Read.
-/
import Derived.Test.YtjaplfdcdokhfaaS8
namespace Go.Proofs.Ytjaplfdcdokhfaa
open Go.RowKit

namespace Wire
/-- a number with a sign, as one without -/
def zz (n : Int) : Nat := if 0 ≤ n then (2 * n).toNat else (-2 * n - 1).toNat
end Wire
theorem not64 (x : Nat) (hx : x < 18446744073709551616) : bits .xor .u64 (if IntKind.u64.signed = true then -1 else IntKind.u64.max) (x : Int) = ((18446744073709551615 - x : Nat) : Int) := by
  have h : (if IntKind.u64.signed = true then -1 else IntKind.u64.max : Int) = ((18446744073709551615 : Nat) : Int) := by decide
  have hx' : 18446744073709551615 ^^^ x = 18446744073709551615 - x := by
    refine Nat.eq_of_testBit_eq fun i => ?_
    rw [Nat.testBit_xor, show (18446744073709551615 : Nat) = 2 ^ 64 - 1 from rfl, Nat.testBit_two_pow_sub_one, show 2 ^ 64 - 1 - x = 2 ^ 64 - (x + 1) by omega, Nat.testBit_two_pow_sub_succ (show x < 2 ^ 64 by omega)]
    by_cases h : i < 64
    · simp [h]
    · have : x.testBit i = false := Nat.testBit_lt_two_pow (Nat.lt_of_lt_of_le (show x < 2 ^ 64 by omega) (Nat.pow_le_pow_right (by omega) (by omega)))
      simp [h, this]
  rw [h, u64_xor_nat _ _ (by decide) hx, hx']

set_option maxHeartbeats 1000000 in
set_option maxRecDepth 100000 in
theorem oint_any (w : World) (B g : Nat) (v : Value) (xs : List Nat) (n : Int) (hn1 : -9223372036854775808 ≤ n) (hn2 : n ≤ 9223372036854775807) (ho : OutIs w B g v xs) (hl : xs.length + 10 ≤ 140737488355328) :
    Calls Try.prog 35 #[.pointer (some ⟨g, 0, none⟩), .int .i64 n] w fun e w' => e = .returned (.tuple #[]) ∧ ∃ v', OutIs w' B g v' (xs ++ Wire.num (Wire.zz n)) ∧ Grew w w' (OutS g v) ∧ Moved w v v' := by
  obtain ⟨z, HZ, hz⟩ : ∃ z, Hid (z = Wire.zz n) ∧ z < 18446744073709551616 := ⟨_, rfl, by unfold Wire.zz; split <;> omega⟩
  have hnum := onum_any w B g v xs z hz ho hl
  rw [← HZ.out]
  by_cases h0 : 0 ≤ n
  · have hz1 : Hid ((z : Int) = 2 * n) := by show _ = _; rw [HZ.out]; unfold Wire.zz; rw [if_pos h0]; omega
    obtain ⟨m, rfl⟩ := Int.eq_ofNat_of_zero_le h0
    clear ho
    go_enter Try.func35, Try.ntmps35
    go_wp2_with fail
    have e0 : ((m : Int) * 2) = (z : Int) := by have := hz1.out; omega
    rw [e0]
    refine hnum.mono ?_
    rintro e w' ⟨rfl, hh⟩
    have H := hid_in hh
    clear hh hnum
    go_wp2
    go_end0
    exact ⟨rfl, H.out⟩
  · have hz1 : Hid ((z : Int) = -2 * n - 1) := by show _ = _; rw [HZ.out]; unfold Wire.zz; rw [if_neg h0]; omega
    clear ho
    go_enter Try.func35, Try.ntmps35
    go_wp2_with fail
    have e0 : bits .xor .u64 IntKind.u64.max (IntKind.u64.wrap (IntKind.u64.wrap n * 2)) = (z : Int) := by
      have hy : IntKind.u64.wrap (IntKind.u64.wrap n * 2) = (((2 * n + 18446744073709551616).toNat : Nat) : Int) := by
        rw [IntKind.wrap_u64, IntKind.wrap_u64]; omega
      rw [hy]
      have h := not64 (2 * n + 18446744073709551616).toNat (by omega)
      have h' : bits .xor .u64 IntKind.u64.max (((2 * n + 18446744073709551616).toNat : Nat) : Int) = ((18446744073709551615 - (2 * n + 18446744073709551616).toNat : Nat) : Int) := h
      rw [h']
      have := hz1.out
      omega
    rw [e0]
    refine hnum.mono ?_
    rintro e w' ⟨rfl, hh⟩
    have H := hid_in hh
    clear hh hnum e0
    go_wp2
    go_end0
    exact ⟨rfl, H.out⟩

theorem obytes_any (w : World) (B g : Nat) (v : Value) (xs : List Nat) (ho : OutIs w B g v xs) (hl : xs.length ≤ 140737488355328) :
    Calls Try.prog 11 #[.pointer (some ⟨g, 0, none⟩)] w fun e w' => ∃ v', e = .returned v' ∧ w'.ownsRow w.heap.size 5 1 v' xs.length (xs.map u8v) ∧ Below w.heap.size w w' := by
  obtain ⟨p, cap, b, rfl, hsl, hno⟩ := own_sl ho.lt ho.own
  have c0 : w.cell? ⟨g, 0, none⟩ = some (.slice p xs.length cap) := ho.row.cell 0
  have hc := clone_any xs p cap b 0 w hsl hno hl
  clear ho hsl
  go_enter Try.func11, Try.ntmps11
  go_wp2_with fail
  refine hc.mono ?_
  rintro e w1 ⟨v1, rfl, hown, hb⟩
  clear hc
  have HOWN := hid_in hown
  clear hown
  go_wp2
  go_ret
  exact ⟨_, rfl, HOWN.out, hb⟩

/-- the In at block g has still to read the bytes bs; what was wrong is e -/
structure InIs (w : World) (g : Nat) (bs : List Nat) (e : Nat) : Prop where
  ex : ∃ p cap b off, Row w g [.slice p bs.length cap, .int .i64 (e : Int)] 80 ∧ Sl w p bs cap b off ∧ (p = none → bs.length = 0 ∧ cap = 0) ∧ (0 < bs.length → b ≠ g)
theorem read_any (bs : List Nat) (p : Option Addr) (cap b off : Nat) (w : World) (hsl : Sl w p bs cap b off) (hno : p = none → bs.length = 0 ∧ cap = 0) (hre : bs.length ≤ 140737488355328) :
    Calls Try.prog 14 #[.slice p bs.length cap] w fun e w' => ∃ g, e = .returned (.pointer (some ⟨g, 0, none⟩)) ∧ InIs w' g bs 0 ∧ w.heap.size ≤ g ∧ Below w.heap.size w w' := by
  have hc := clone_any bs p cap b off w hsl hno hre
  have hlt := hsl.lt
  clear hsl
  go_enter Try.func14, Try.ntmps14
  go_wp2_with fail
  refine hc.mono ?_
  rintro e w1 ⟨v1, rfl, hown, hb⟩
  obtain ⟨p1, cap1, b1, rfl, hsl1, hno1⟩ := own_sl hlt hown
  clear hown hc
  go_wp2
  go_ret
  have hb2 : Below w1.heap.size w1 (w1.alloc (.cells [.slice p1 bs.length cap1, .int .i64 0].toArray 80)) := (Below.refl _ _).alloc (Nat.le_refl _) _
  refine ⟨w1.heap.size, rfl, ⟨p1, cap1, b1, 0, Row.newAt w1 _ [.slice p1 bs.length cap1, .int .i64 0] 80 rfl, hsl1.below hb2, hno1, fun h0 => ?_⟩, hb.size, hb.alloc hb.size _⟩
  have := hsl1.blk h0
  omega
end Go.Proofs.Ytjaplfdcdokhfaa
