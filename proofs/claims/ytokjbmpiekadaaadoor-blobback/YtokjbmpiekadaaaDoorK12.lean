/-
  Put.
-/
import Derived.Test.YtokjbmpiekadaaaDoorK11
namespace Go.Proofs.YtokjbmpiekadaaaDoor
open Go.RowKit

theorem post_Row2 {P : Program} {fn : Func} {R : Ending → World → Prop} {a : Act} {w : World} (p u : Tmp) (ty : TypeId) (hf : fn.results = #[.cell p ty, .tmp u]) (g : Nat) (hp : a.tmps.getD p undef = .pointer (some ⟨g, 0, none⟩))
    (t : TypeId) (vs : List Value) (hr : Row w g vs t) (d : TypeDesc) (hu : P.underlying ty = some d) (hd : (match d with | .struct _ | .array _ _ => true | _ => false) = true) (n : Nat) (hi : (P.info? ty).map (·.size) = some n) (hn : vs.length = n)
    (hdf : a.defers = []) (h : R (.returned (.tuple #[.agg vs.toArray, a.tmps.getD u undef])) w) : bodyPost P fn R .ret a w := by
  refine bodyPost_ret ?_ hdf h
  rw [results_cell_tmp hf, hp]
  have hl := run_loadVar_row (P := P) w g t ty vs.toArray (0, 0) d hr hu hd (by rw [hi]; simp [hn])
  simp [asAddr, hl]
theorem zero39n : (∀ w, (zeroValue 39).run Tryd.prog w = .ok (.agg ((List.replicate 32 0).map u8v).toArray) w) := fun w => by kernel_rfl
/-- the world in which Put calls put -/
def pre (w : World) (Z : List Value) (v : Value) : World := (w.alloc (.cells Z.toArray 39)).alloc (.cells #[v] 30)
theorem pre_below (w : World) (Z : List Value) (v : Value) : Below w.heap.size w (pre w Z v) := ((Below.refl _ _).alloc (Nat.le_refl _) _).alloc (by simp) _
theorem pre_size (w : World) (Z : List Value) (v : Value) : (pre w Z v).heap.size = w.heap.size + 2 := by simp [pre]
theorem pre_cell (w : World) (Z : List Value) (v : Value) : (pre w Z v).cell? ⟨w.heap.size + 1, 0, none⟩ = some v := (Row.newAt (w.alloc _) (w.heap.size + 1) [v] 30 (by simp)).cell 0
theorem pre_row (w : World) (Z : List Value) (v : Value) : Row (pre w Z v) w.heap.size Z 39 := (Row.newAt w _ Z 39 rfl).alloc _

set_option maxHeartbeats 1000000 in
set_option maxRecDepth 100000 in
theorem Put_err (w : World) (g : Nat) (p : Option Addr) (len cap : Nat) (Z : List Value) (HZ : Hid (Z = (List.replicate 32 0).map u8v)) (k : Int) (hk : (k != 0) = true)
    (HP : Hid (Calls Tryd.prog 29 #[.pointer (some ⟨g, 0, none⟩), .slice (some ⟨w.heap.size + 1, 0, none⟩) 1 1] (pre w Z (.slice p len cap)) fun e w' => e = .returned (.tuple #[.slice none 0 0, .int .i64 k]) ∧ Below (pre w Z (.slice p len cap)).heap.size (pre w Z (.slice p len cap)) w')) :
    Calls Tryd.prog 15 #[.pointer (some ⟨g, 0, none⟩), .slice p len cap] w fun e w' => e = .returned (.tuple #[.agg Z.toArray, .int .i64 k]) ∧ Below w.heap.size w w' := by
  have hz := zero39n
  rw [← HZ.out] at hz
  have HZL := hid_in (show Z.length = 32 by rw [HZ.out]; rfl)
  have HZ1 := hid_in (show ∀ v ∈ Z, v.oneCell' = true by rw [HZ.out]; exact one_u8 _)
  go_enter Tryd.func15, Tryd.ntmps15
  go_wp2_with (first | (go_at_call 29; refine HP.out.mono ?_; rintro e w1 ⟨rfl, hb1⟩; have hr1 : Row w1 w.heap.size Z 39 := (pre_row w Z _).below hb1 (pre_row w Z _).lt; have hbw : Below w.heap.size w w1 := (pre_below w Z _).trans (hb1.mono (pre_below w Z _).size); clear hb1 HP) | (refine wpList_store_Row rfl 39 _ _ rfl w.heap.size 0 Z rfl rfl 39 _ hr1 32 info39 HZL.out (by rw [HZL.out]; decide) HZ1.out ?_; intro w3 hr4 hg4 hs4))
  rw [splice_all _ _ rfl] at hr4
  refine post_Row2 4 5 39 Tryd.results15 w.heap.size rfl 39 _ hr4 _ Tryd.underlying39 rfl 32 info39 HZL.out rfl ⟨rfl, below_of_grown hbw hg4 hbw.size (Nat.le_refl _)⟩
set_option maxHeartbeats 1000000 in
set_option maxRecDepth 100000 in
theorem Put_fine (w : World) (g : Nat) (p : Option Addr) (len cap : Nat) (Z V : List Value) (HZ : Hid (Z = (List.replicate 32 0).map u8v)) (HVL : Hid (V.length = 32)) (HV1 : Hid (∀ v ∈ V, v.oneCell' = true)) (R : World → Prop)
    (HP : Hid (Calls Tryd.prog 29 #[.pointer (some ⟨g, 0, none⟩), .slice (some ⟨w.heap.size + 1, 0, none⟩) 1 1] (pre w Z (.slice p len cap)) fun e w' => e = .returned (.tuple #[.slice (some ⟨(pre w Z (.slice p len cap)).heap.size, 0, none⟩) 1 1, .int .i64 0]) ∧ Row w' (pre w Z (.slice p len cap)).heap.size V 39 ∧ Row w' w.heap.size Z 39 ∧ R w')) :
    Calls Tryd.prog 15 #[.pointer (some ⟨g, 0, none⟩), .slice p len cap] w fun e w' => e = .returned (.tuple #[.agg V.toArray, .int .i64 0]) ∧ ∃ w1, R w1 ∧ w1.grownBy w' (some w.heap.size) := by
  have hz := zero39n
  rw [← HZ.out] at hz
  have HZL := hid_in (show Z.length = 32 by rw [HZ.out]; rfl)
  have HP2 := HP.out
  rw [pre_size] at HP2
  have HP3 := hid_in HP2
  clear HP HP2
  go_enter Tryd.func15, Tryd.ntmps15
  go_wp2_with (first | (go_at_call 29; refine HP3.out.mono ?_; rintro e w1 ⟨rfl, hr2, hr1, hR⟩; have HR := hid_in hR; clear hR HP3) | (refine wpList_load_Row rfl 39 _ rfl (w.heap.size + 2) rfl 39 _ hr2 _ Tryd.underlying39 rfl 32 info39 HVL.out ?_) | (refine wpList_store_Row rfl 39 _ _ rfl w.heap.size 0 V rfl rfl 39 _ hr1 32 info39 HVL.out (by rw [HZL.out]; decide) HV1.out ?_; intro w3 hr4 hg4 hs4))
  rw [splice_all _ _ (by rw [HVL.out, HZL.out])] at hr4
  refine post_Row2 4 5 39 Tryd.results15 w.heap.size rfl 39 _ hr4 _ Tryd.underlying39 rfl 32 info39 HVL.out rfl ⟨rfl, w1, HR.out, hg4⟩
end Go.Proofs.YtokjbmpiekadaaaDoor
