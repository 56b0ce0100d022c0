/-
  sums: over a list of one.
-/
import Derived.Test.YtokjbmpiekadaaaDoorK3
import Derived.Test.YtokjbmpiekadaaaDoorK8
namespace Go.Proofs.YtokjbmpiekadaaaDoor
open Go.RowKit

theorem sum_length (bs : List Nat) : (Sha.sum bs).length = 32 := rfl
theorem sum_V (bs : List Nat) (V : List Value) (h : Hid (V = (Sha.sum bs).map u8v)) (p : Option Addr) (b off cap : Nat) (w : World) (htab : Tab w) (hs : Sl w p bs cap b off) (hsz : bs.length < 1152921504606846000) :
    Calls Tryd.prog 38 #[.slice p bs.length cap] w fun e w' => e = .returned (.agg V.toArray) ∧ Below w.heap.size w w' := by
  rw [h.out]; exact sum_any bs hs.lt p b off cap w htab hs.cap1 hs.cap2 hsz hs.at_ hs.src
theorem make72 (w : World) : (Instr.makeSlice 72 (.int .i64 1) (.int .i64 1)).run Tryd.prog w = .ok (.slice (some ⟨w.heap.size, 0, none⟩) 1 1) (w.alloc (.cells ((List.replicate 32 0).map u8v).toArray 39)) := by kernel_rfl
set_option maxHeartbeats 1000000 in
set_option maxRecDepth 100000 in
theorem sums_one (bs : List Nat) (V : List Value) (HV : Hid (V = (Sha.sum bs).map u8v)) (lb : Nat) (p : Option Addr) (b off cap : Nat) (w : World) (htab : Tab w) (hs : Sl w p bs cap b off) (hsz : bs.length < 1152921504606846000)
    (c0 : w.cell? ⟨lb, 0, none⟩ = some (.slice p bs.length cap)) : Calls Tryd.prog 47 #[.slice (some ⟨lb, 0, none⟩) 1 1] w fun e w' => e = .returned (.slice (some ⟨w.heap.size, 0, none⟩) 1 1) ∧ Row w' w.heap.size V 39 ∧ Below w.heap.size w w' := by
  have hlb := World.block_lt_of_cell? w _ c0
  have hmk := make72
  have hzl : ((List.replicate 32 0).map u8v).length = 32 := by simp
  generalize ((List.replicate 32 0).map u8v) = Z at hmk hzl
  have hb0 : Below w.heap.size w (w.alloc (.cells Z.toArray 39)) := (Below.refl _ _).alloc (Nat.le_refl _) _
  have hrz := Row.newAt w _ Z 39 rfl
  have HSUM := hid_in (sum_V bs V HV p b off cap _ (htab.below hb0 htab.pos) (hs.below hb0) hsz)
  have hvl : V.length = 32 := by rw [HV.out, List.length_map, sum_length]
  have hv1 : ∀ v ∈ V, v.oneCell' = true := by rw [HV.out]; exact one_u8 _
  have HB0 := hid_in hb0
  have HV1 := hid_in hv1
  have HVL := hid_in hvl
  have HZL := hid_in hzl
  have HRZ := hid_in hrz
  clear htab hs hb0 hsz hv1 hvl hzl hrz HV
  go_enter Tryd.func47, Tryd.ntmps47
  go_wp2_with fail
  refine wp_loop_rounds 2 ?_
  rw [rounds_succ]
  go_wp2_with (first | (go_at_call 38; refine HSUM.out.mono ?_; rintro e w1 ⟨rfl, hb1⟩; have hr1 := HRZ.out.below hb1 HRZ.out.lt; have HB1 := hid_in hb1; clear hb1) | (refine wpList_store_Row rfl 39 _ _ rfl w.heap.size 0 V rfl rfl 39 _ hr1 32 info39 HVL.out (by rw [HZL.out]; decide) HV1.out ?_; intro w7 hr7 hg7 hs7))
  rw [rounds_succ]
  go_wp2
  go_ret
  rw [splice_all _ _ (by rw [HVL.out, HZL.out])] at hr7
  exact ⟨rfl, hr7, below_of_grown (HB0.out.trans (HB1.out.mono (by simp))) hg7 (Nat.le_trans HB0.out.size HB1.out.size) (Nat.le_refl _)⟩
end Go.Proofs.YtokjbmpiekadaaaDoor
