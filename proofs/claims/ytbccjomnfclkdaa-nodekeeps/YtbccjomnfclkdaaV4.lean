/-
  The walk of (*wire.Out).Digest.
-/
import Derived.Test.YtbccjomnfclkdaaV1
import Derived.Test.YtbccjomnfclkdaaV3
import Derived.Deep.RegionLaw
import Derived.Deep.DrawnRows
namespace Go.Proofs.Ytbccjomnfclkdaa
open Go.RowKit
attribute [local go_sem ↓] Go.wp_at_zero Go.wp_at_succ
theorem slice_arr (g : Nat) (w : World) : (Instr.sliceAt 49 (.pointer (some ⟨g, 0, none⟩)) none none none).run Try.prog w = .ok (.slice (some ⟨g, 0, none⟩) 32 32) w := by kernel_rfl
set_option maxHeartbeats 1000000 in
set_option maxRecDepth 100000 in
theorem odigest_any (w : World) (B g : Nat) (v : Value) (xs : List Nat) (D : List Nat) (hD : D.length = 32) (hDb : ∀ x ∈ D, x < 256) (ho : OutIs w B g v xs) (hl : xs.length + 32 ≤ 140737488355328) :
    Calls Try.prog 41 #[.pointer (some ⟨g, 0, none⟩), .agg (D.map u8v).toArray] w fun e w' => e = .returned (.tuple #[]) ∧ ∃ v', OutIs w' B g v' (xs ++ D) ∧ Grew w w' (OutS g v) ∧ Moved w v v' := by
  obtain ⟨i5i, HI5, HE1, HE2, HE3⟩ := i5h
  have hb0 : Below w.heap.size w (w.alloc (.cells (D.map u8v).toArray 49)) := (Below.refl _ _).alloc (Nat.le_refl _) _
  have ho0 := ho.below hb0
  have hod : OutIs (w.alloc (.cells (D.map u8v).toArray 49)).drew B g v xs := ⟨ho0.row.drew, ho0.own.drew, ho0.apart, ho0.base, ho0.lt⟩
  have c0 : (w.alloc (.cells (D.map u8v).toArray 49)).drew.cell? ⟨g, 0, none⟩ = some v := hod.row.cell 0
  have hown := hod.own
  have hbase := hod.base
  have HO := hid_in ho0
  have hrD : Row (w.alloc (.cells (D.map u8v).toArray 49)).drew w.heap.size (D.map u8v) 49 := Row.newAt w _ _ 49 rfl
  have hnews : ∀ j u, (D.map u8v)[j]? = some u → (w.alloc (.cells (D.map u8v).toArray 49)).drew.cell? ((⟨w.heap.size, 0, none⟩ : Addr).add j) = some u := fun j u hu => by
    rw [Addr.add_mid, Nat.zero_add, hrD.cell]; exact hu
  have hlD : (D.map u8v).length = 32 * 1 := by simp [hD]
  have h63 : xs.length + 32 ≤ maxLen := by unfold maxLen; omega
  have hby : (xs.length + 32) * 1 ≤ 140737488355328 := by omega
  have hone := one_u8 D
  have hH : (w.alloc (.cells (D.map u8v).toArray 49)).drew.heap.size = w.heap.size + 1 := by simp
  have hsl := slice_arr w.heap.size
  clear ho ho0 hod hrD
  go_enter Try.func41, Try.ntmps41
  go_wp2
  go_region_law ((refine step_append_lies _ (by rfl) _ _ _ (by rfl) B 5 i5i (.int .u8 0) 1 1 Try.underlying33 HI5.out HE3.out HE1.out HE2.out rfl (by decide) _ _ _ (by rfl) hown ⟨w.heap.size, 0, none⟩ 32 32 (D.map u8v) (by rfl) hlD hnews hone (by decide) h63 hby hbase (w.heap.size + 1) hH ?_; intro g2 cap2 w2 hown2 hg2 hat2 hlt2; have HAT2 := hid_in hat2; clear hat2; have HG2 : Hid ((w.alloc (.cells (D.map u8v).toArray 49)).drew.grownBy w2 v.ownBlock) := hg2; have cg : w2.cell? ⟨g, 0, none⟩ = some v := (HO.out.row.drew.grew (Grew.of_grown HG2.out) (fun h => HO.out.apart h.symm)).cell 0; have fg := (HO.out.row.drew.grew (Grew.of_grown HG2.out) (fun h => HO.out.apart h.symm)).frozen 0))
  go_end0
  have hod : OutIs (w.alloc (.cells (D.map u8v).toArray 49)).drew B g v xs := ⟨HO.out.row.drew, HO.out.own.drew, HO.out.apart, HO.out.base, HO.out.lt⟩
  have hm0 : Moved w v (.slice (some ⟨g2, 0, none⟩) (xs.length + 32) cap2) := by
    rcases HAT2.out with h | h
    · exact .inl h.symm
    · exact .inr ⟨g2, rfl, by omega⟩
  have hm1 : Moved (w.alloc (.cells (D.map u8v).toArray 49)).drew v (.slice (some ⟨g2, 0, none⟩) (xs.length + 32) cap2) := by
    rcases HAT2.out with h | h
    · exact .inl h.symm
    · exact .inr ⟨g2, rfl, by rw [hH]; omega⟩
  have hown2' : w2.ownsRow B 5 1 (.slice (some ⟨g2, 0, none⟩) (xs.length + 32) cap2) (xs.length + D.length) (xs.map u8v ++ D.map u8v) := by rw [hD]; exact hown2
  have hmore := out_more hDb hod hown2' (Grew.of_grown HG2.out) hm1 rfl
  exact ⟨rfl, _, hmore.1, (Grew.of_below (OutS g v) hb0.drew).trans hmore.2 (fun q _ h => h), hm0⟩
end Go.Proofs.Ytbccjomnfclkdaa
