/-
  The walks of the reference's turn and constant.
-/
import Derived.Test.YtokjbmpiekadaaaDoorW8
namespace Go.Proofs.YtokjbmpiekadaaaDoor
open Go.RowKit

theorem turn_form (x n : Nat) (hx : x < 4294967296) : bits .or .u32 ((x : Int) / 2 ^ n) ((x : Int) * 2 ^ (32 - n) % 4294967296) = (Sha.rotr x n : Int) := by
  have e1 : (x : Int) * 2 ^ (32 - n) % 4294967296 = ((x * 2 ^ (32 - n) % 4294967296 : Nat) : Int) := by simp
  have e2 : (x : Int) / 2 ^ n = ((x / 2 ^ n : Nat) : Int) := by simp
  rw [e1, e2, u32_or_nat _ _ (Nat.lt_of_le_of_lt (Nat.div_le_self _ _) hx) (Nat.mod_lt _ (by decide)), Nat.or_comm]
  rfl

set_option maxHeartbeats 400000 in
theorem turn_any (x n : Nat) (hx : x < 4294967296) (h1 : 1 ≤ n) (h2 : n ≤ 31) (w : World) :
    Calls Tryd.prog 27 #[.int .u32 (x : Int), .int .u64 (n : Int)] w fun e w' => e = .returned (.int .u32 (Sha.rotr x n : Int)) ∧ w' = w := by
  have hr := turn_form x n hx
  have k1 : (1 : Int) ≤ (n : Int) := by omega
  have k2 : (n : Int) ≤ 31 := by omega
  go_enter Tryd.func27, Tryd.ntmps27
  go_wp2
  go_ret
  exact ⟨rfl, rfl⟩
theorem turn_k (x : Nat) (k : Int) (hx : x < 4294967296) (h1 : 1 ≤ k) (h2 : k ≤ 31) (w : World) :
    Calls Tryd.prog 27 #[.int .u32 (x : Int), .int .u64 k] w fun e w' => e = .returned (.int .u32 (Sha.rotr x k.toNat : Int)) ∧ w' = w := by
  obtain ⟨n, rfl⟩ := Int.eq_ofNat_of_zero_le (show 0 ≤ k by omega)
  exact turn_any x n hx (by omega) (by omega) w

set_option maxHeartbeats 400000 in
set_option maxRecDepth 100000 in
theorem constant_any (t : Nat) (ht : t < 64) (w : World) :
    Calls Tryd.prog 28 #[.int .i64 (t : Int)] w fun e w' => e = .returned (.int .u32 ((Sha.K.getD t 0 : Nat) : Int)) ∧ Below w.heap.size w w' := by
  have k1 : (t : Int) < 64 := by omega
  go_enter Tryd.func28, Tryd.ntmps28
  go_wp2_with (first | (refine wpList_store_Row rfl 69 _ _ rfl w.heap.size 0 (Sha.K.map u32v) rfl rfl 69 ((List.replicate 64 0).map u32v) (Row.newAt w _ _ 69 rfl) 64 info69 rfl (by simp) (one_u32 _) ?_; intro w3 hr4 hg4 hs4; have c0 : w3.cell? ⟨w.heap.size, t, none⟩ = some (.int .u32 ((Sha.K.getD t 0 : Nat) : Int)) := by { rw [splice_all _ _ (by simp [Sha.K])] at hr4; exact hr4.cellMap t ht }))
  go_ret
  refine ⟨?_, below_of_grown ((Below.refl _ _).alloc (Nat.le_refl _) _) hg4 (by simp) (Nat.le_refl _)⟩
  rw [List.getD_eq_getElem?_getD]
  rfl
end Go.Proofs.YtokjbmpiekadaaaDoor
