/-
  The walk of awake: answers that the document fixes.
-/
import Derived.Test.YtbccjomnfclkdaaS12
import Derived.Lib.SlBytesConst
namespace Go.Proofs.Ytbccjomnfclkdaa
open Go.RowKit
theorem OutIs.below {w w' : World} {B g : Nat} {v : Value} {xs : List Nat} (h : OutIs w B g v xs) (hb : Below w.heap.size w w') : OutIs w' B g v xs :=
  ⟨h.row.below hb h.row.lt, own_below h.own hb, h.apart, Nat.le_trans h.base hb.size, h.lt⟩
theorem InIs.below {B : Nat} {w w' : World} {g e : Nat} {bs : List Nat} (h : InIs B w g bs e) (hb : Below w.heap.size w w') : InIs B w' g bs e := by
  obtain ⟨p, cap, b, off, hr, hsl, hno, hne⟩ := h.ex
  exact ⟨p, cap, b, off, hr.below hb hr.lt, hsl.below hb, hno, hne⟩
theorem outS_ge {w : World} {B g : Nat} {v : Value} {xs : List Nat} (h : OutIs w B g v xs) (hg : B ≤ g) : ∀ k, OutS g v k → B ≤ k := by
  rintro k (rfl | hk)
  · exact hg
  · exact (h.own.lt k hk.symm).1
theorem out_new (w : World) : OutIs (w.alloc (.cells #[.slice none 0 0] 62)) w.heap.size w.heap.size (.slice none 0 0) [] :=
  ⟨Row.newAt w _ [.slice none 0 0] 62 rfl, World.ownsRow_nil _ _ _ _, by simp [Value.ownBlock], by simp, fun _ h => by cases h⟩
theorem below_grown {w w' : World} {B g : Nat} {a : World} (hb : Below B a w) (hBw : B ≤ w.heap.size) (hg : w.grownBy w' (some g)) (hB : B ≤ g) : Below B a w' :=
  hb.grown hg hBw (fun k e => by cases e; exact hB)
theorem sl_lit (w : World) (xs : List Nat) (g : Nat) (fz : Nat × Nat) (hg : g = w.heap.size) (hlt : ∀ x ∈ xs, x < 256) (hl : xs.length ≤ 9223372036854775807) : Sl (w.alloc (.cells (xs.map u8v).toArray 5 fz)) (some ⟨g, 0, none⟩) xs xs.length g 0 := by
  subst hg
  refine ⟨hlt, Nat.le_refl _, hl, fun _ => rfl, fun j hj => ?_⟩
  rw [Nat.zero_add, cell_of_row _ _ _ _ _ _ (heap_alloc_new w _)]
  simp [hj]
end Go.Proofs.Ytbccjomnfclkdaa
