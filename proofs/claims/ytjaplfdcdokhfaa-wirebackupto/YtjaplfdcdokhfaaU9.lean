/-
  The walk of the reference's Int.
-/
import Derived.Test.YtjaplfdcdokhfaaU8
namespace Go.Proofs.Ytjaplfdcdokhfaa
open Go.RowKit

set_option maxHeartbeats 400000 in
theorem rint_of (w : World) (g m : Nat) (hm : m < 18446744073709551616) (R : World → Prop) (hn : Calls Try.prog 43 #[.pointer (some ⟨g, 0, none⟩)] w fun r w' => r = .returned (.int .u64 (m : Int)) ∧ R w') :
    Calls Try.prog 44 #[.pointer (some ⟨g, 0, none⟩)] w fun r w' => r = .returned (.int .i64 (Wire.unzz m)) ∧ R w' := by
  go_enter Try.func44, Try.ntmps44
  go_wp2_with fail
  refine hn.mono ?_
  rintro e w1 ⟨rfl, hR⟩
  have HR := hid_in hR
  clear hR hn
  by_cases h : m % 2 = 0
  · have HU : Hid (Wire.unzz m = ((m / 2 : Nat) : Int)) := by show _ = _; unfold Wire.unzz; rw [if_pos h]
    have k1 : (m : Int) % 2 = 0 := by omega
    clear h
    go_wp2
    go_ret
    rw [HU.out]
    exact ⟨by simp, HR.out⟩
  · have HU : Hid (Wire.unzz m = -((m / 2 : Nat) : Int) - 1) := by show _ = _; unfold Wire.unzz; rw [if_neg h]
    have k1 : ¬ ((m : Int) % 2 = 0) := by omega
    clear h
    go_wp2
    go_ret
    rw [HU.out]
    exact ⟨by simp, HR.out⟩
end Go.Proofs.Ytjaplfdcdokhfaa
