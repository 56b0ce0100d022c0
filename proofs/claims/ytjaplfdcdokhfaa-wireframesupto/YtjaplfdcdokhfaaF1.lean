/-
  The walks of the reference's Check, Four and Frame.
-/
import Derived.Test.YtjaplfdcdokhfaaS5
namespace Go.Proofs.Ytjaplfdcdokhfaa
open Go.RowKit

theorem hid_inF {p : Prop} (h : p) : Hid p := h
theorem four_any (n : Nat) (hn : n < 4294967296) (w : World) :
    Calls Try.prog 53 #[.int .u32 (n : Int)] w fun e w' => e = .returned (.slice (some ⟨w.heap.size, 0, none⟩) 4 4) ∧ w' = w.alloc (.cells ((Wire.four n).map u8v).toArray 5) := by
  go_enter Try.func53, Try.ntmps53
  go_wp2
  go_ret
  refine ⟨rfl, ?_⟩
  have e0 : (n : Int) % 256 = ((n % 256 : Nat) : Int) := by omega
  have e1 : (n : Int) / 256 % 256 = ((n / 256 % 256 : Nat) : Int) := by omega
  have e2 : (n : Int) / 65536 % 256 = ((n / 65536 % 256 : Nat) : Int) := by omega
  have e3 : (n : Int) / 16777216 = ((n / 16777216 % 256 : Nat) : Int) := by omega
  rw [e0, e1, e2, e3]
  rfl

set_option maxHeartbeats 1000000 in
set_option maxRecDepth 100000 in
theorem rcheck_any (bs : List Nat) (p : Option Addr) (cap b off : Nat) (w : World) (hsl : Sl w p bs cap b off) :
    Calls Try.prog 34 #[.slice p bs.length cap] w fun e w' => e = .returned (.int .u32 ((Wire.check bs : Nat) : Int)) ∧ w' = w := by
  have k0 : (bs.length : Int) ≤ 9223372036854775807 := by have := hsl.cap1; have := hsl.cap2; omega
  have HSL := hid_inF hsl
  clear hsl
  go_enter Try.func34, Try.ntmps34
  go_wp2_with fail
  go_loopw [3, 4] (fun v i w' => ∃ j : Nat, j ≤ bs.length ∧ i = .int .i64 (j : Int) ∧ v = .int .u32 ((Wire.run 4294967295 (bs.take j) : Nat) : Int) ∧ w' = w) (fun _ i _ => bs.length - (intOf i).toNat)
  case atStart => exact ⟨0, by omega, rfl, rfl, rfl⟩
  case round =>
    obtain ⟨j, hj, rfl, rfl, hw⟩ := hrel
    have hw' := hw.symm
    subst hw'
    have hT : Wire.run 4294967295 (bs.take j) < 4294967296 := Wire.run_lt (by decide) (fun x hx => HSL.out.lt x (List.mem_of_mem_take hx))
    by_cases hlt : j < bs.length
    · obtain rfl := HSL.out.at_ (by omega)
      have c1 : w.cell? ⟨b, off + j, none⟩ = some (.int .u8 ((bs.getD j 0 : Nat) : Int)) := HSL.out.src j hlt
      have hy : bs.getD j 0 < 256 := getD_lt HSL.out.lt j
      have HT : Hid (Wire.run 4294967295 (bs.take (j + 1)) = Wire.byte (Wire.run 4294967295 (bs.take j)) (bs.getD j 0)) := run_succ _ bs j hlt
      generalize Wire.run 4294967295 (bs.take j) = T at hT HT
      generalize bs.getD j 0 = y at c1 hy HT
      have hx := u32_xor_nat T y hT (by omega)
      have hxl : T ^^^ y < 4294967296 := Wire.xor_lt hT (by omega)
      have HB : Hid (Wire.byte T y = Wire.steps 8 (T ^^^ y)) := rfl
      generalize T ^^^ y = X at hx hxl HB
      have k3 : (j : Int) < (bs.length : Int) := by omega
      go_wp2
      go_loopw [3, 5] (fun v i w' => ∃ k : Nat, k ≤ 8 ∧ i = .int .i64 (k : Int) ∧ v = .int .u32 ((Wire.steps k X : Nat) : Int) ∧ w' = w) (fun _ i _ => 8 - (intOf i).toNat)
      case atStart => exact ⟨0, by omega, rfl, rfl, rfl⟩
      case round =>
        obtain ⟨k, hk, rfl, rfl, hw⟩ := hrel
        have hw' := hw.symm
        subst hw'
        clear hx c1
        by_cases hlt8 : k < 8
        · have hb := Wire.steps_lt k hxl
          have HS : Hid (Wire.steps (k + 1) X = Wire.step (Wire.steps k X)) := rfl
          generalize Wire.steps k X = z at hb HS
          by_cases h1 : z % 2 = 1
          · have a2 : (z : Int) % 2 = 1 := by omega
            have a3 := xor32 (z / 2) 3988292384 (by omega) (by decide) 3988292384 rfl
            rw [show ((z / 2 : Nat) : Int) = (z : Int) / 2 by simp] at a3
            go_wp2
            go_roundw
            case rel =>
              go_light
              refine ⟨k + 1, by omega, by go_num, ?_, by trivial⟩
              rw [HS.out, Wire.step, if_pos h1]
            case measure => simp [intOf]; omega
          · have a2 : (z : Int) % 2 = 0 := by omega
            go_wp2
            go_roundw
            case rel =>
              go_light
              refine ⟨k + 1, by omega, by go_num, ?_, by trivial⟩
              rw [HS.out, Wire.step, if_neg h1]
              simp
            case measure => simp [intOf]; omega
        · have HK : Hid (k = 8) := by show k = 8; omega
          go_wp2
          go_roundw
          case rel =>
            go_light
            refine ⟨j + 1, by omega, by go_num, ?_, by trivial⟩
            rw [HT.out, HB.out, HK.out]
          case measure => simp [intOf]; omega
    · have HJ : Hid (j = bs.length) := by show j = _; omega
      have k3 : (bs.length : Int) ≤ (j : Int) := by omega
      have HC : Hid (Wire.check bs = Wire.run 4294967295 (bs.take j) ^^^ 4294967295) := by
        show _ = _
        rw [HJ.out, List.take_of_length_le (Nat.le_refl _), Nat.xor_comm]; rfl
      generalize Wire.run 4294967295 (bs.take j) = S at hT HC
      have hnn := xor32 S 4294967295 hT (by decide) 4294967295 rfl
      go_wp2
      go_ret
      rw [HC.out]
      exact ⟨rfl, rfl⟩
end Go.Proofs.Ytjaplfdcdokhfaa
