/-
  The walks of sha.value and sha.Unhex: the digest that digits mean.
-/
import Derived.Test.YtmjccokocklgiaaDoorW12
namespace Go.Proofs.YtmjccokocklgiaaDoor
open Go.RowKit

namespace Sha
/-- what a digit means -/
def uval (c : Nat) : Option Nat := if 48 ≤ c ∧ c ≤ 57 then some (c - 48) else if 97 ≤ c ∧ c ≤ 102 then some (c - 87) else none
/-- what two digits mean, at place i of the bytes -/
def pv (l : List Nat) (i : Nat) : Option Nat := match uval (l.getD (2 * i) 0), uval (l.getD (2 * i + 1) 0) with
  | some x, some y => some (x * 16 + y)
  | _, _ => none
/-- the first i bytes that digits mean -/
def udig (l : List Nat) : Nat → Option (List Nat)
  | 0 => some []
  | i + 1 => match udig l i, pv l i with
    | some d, some v => some (d ++ [v])
    | _, _ => none
def zeros32 : List Nat := List.replicate 32 0
/-- the digest that digits mean, and 0; or noughts, and 21 -/
def unhex (l : List Nat) : List Nat × Nat := if l.length = 64 then match udig l 32 with
    | some d => (d, 0)
    | none => (zeros32, 21)
  else (zeros32, 21)
end Sha
theorem uval_lt (c v : Nat) (h : Sha.uval c = some v) : v < 16 := by
  unfold Sha.uval at h
  split at h
  · cases h; omega
  · split at h
    · cases h; omega
    · cases h
theorem udig_none (l : List Nat) (i : Nat) (h : Sha.pv l i = none) : ∀ j, i < j → Sha.udig l j = none
  | 0, hj => by omega
  | j + 1, hj => by
    by_cases e : j = i
    · subst e; simp only [Sha.udig, h]; cases Sha.udig l j <;> rfl
    · simp only [Sha.udig, udig_none l i h j (by omega)]
theorem udig_length (l : List Nat) : ∀ i d, Sha.udig l i = some d → d.length = i
  | 0, d, h => by cases h; rfl
  | i + 1, d, h => by
    simp only [Sha.udig] at h
    split at h
    · rename_i d' v h1 _
      cases h
      simp [udig_length l i d' h1]
    · cases h
theorem pv_lt (l : List Nat) (i v : Nat) (h : Sha.pv l i = some v) : v < 256 := by
  unfold Sha.pv at h
  split at h
  · rename_i x y hx hy
    cases h
    have := uval_lt _ _ hx
    have := uval_lt _ _ hy
    omega
  · cases h

set_option maxHeartbeats 400000 in
theorem value_any (c : Nat) (hc : c < 256) (w : World) :
    Calls Tryd.prog 28 #[.int .u8 (c : Int)] w fun e w' => e = .returned (.tuple #[.int .u8 (((Sha.uval c).getD 0 : Nat) : Int), .bool (Sha.uval c).isSome]) ∧ w' = w := by
  have hcases : c < 48 ∨ (48 ≤ c ∧ c ≤ 57) ∨ (57 < c ∧ c < 97) ∨ (97 ≤ c ∧ c ≤ 102) ∨ 102 < c := by omega
  rcases hcases with h | ⟨h, h'⟩ | ⟨h, h'⟩ | ⟨h, h'⟩ | h
  · have e : Sha.uval c = none := by unfold Sha.uval; rw [if_neg (by omega), if_neg (by omega)]
    rw [e]
    have k1 : ¬ (48 : Int) ≤ (c : Int) := by omega
    have k2 : ¬ (97 : Int) ≤ (c : Int) := by omega
    clear e
    go_enter Tryd.func28, Tryd.ntmps28
    go_wp2
    go_ret2
    exact ⟨rfl, rfl⟩
  · have e : Sha.uval c = some (c - 48) := by unfold Sha.uval; rw [if_pos (by omega)]
    rw [e]
    have k1 : (48 : Int) ≤ (c : Int) := by omega
    have k2 : (c : Int) ≤ 57 := by omega
    clear e
    go_enter Tryd.func28, Tryd.ntmps28
    go_wp2
    go_ret2
    refine ⟨?_, rfl⟩
    simp
    omega
  · have e : Sha.uval c = none := by unfold Sha.uval; rw [if_neg (by omega), if_neg (by omega)]
    rw [e]
    have k1 : (48 : Int) ≤ (c : Int) := by omega
    have k2 : ¬ (c : Int) ≤ 57 := by omega
    have k3 : ¬ (97 : Int) ≤ (c : Int) := by omega
    clear e
    go_enter Tryd.func28, Tryd.ntmps28
    go_wp2
    go_ret2
    exact ⟨rfl, rfl⟩
  · have e : Sha.uval c = some (c - 87) := by unfold Sha.uval; rw [if_neg (by omega), if_pos (by omega)]
    rw [e]
    have k1 : (48 : Int) ≤ (c : Int) := by omega
    have k2 : ¬ (c : Int) ≤ 57 := by omega
    have k3 : (97 : Int) ≤ (c : Int) := by omega
    have k4 : (c : Int) ≤ 102 := by omega
    clear e
    go_enter Tryd.func28, Tryd.ntmps28
    go_wp2
    go_ret2
    refine ⟨?_, rfl⟩
    simp
    omega
  · have e : Sha.uval c = none := by unfold Sha.uval; rw [if_neg (by omega), if_neg (by omega)]
    rw [e]
    have k1 : (48 : Int) ≤ (c : Int) := by omega
    have k2 : ¬ (c : Int) ≤ 57 := by omega
    have k3 : (97 : Int) ≤ (c : Int) := by omega
    have k4 : ¬ (c : Int) ≤ 102 := by omega
    clear e
    go_enter Tryd.func28, Tryd.ntmps28
    go_wp2
    go_ret2
    exact ⟨rfl, rfl⟩
end Go.Proofs.YtmjccokocklgiaaDoor
