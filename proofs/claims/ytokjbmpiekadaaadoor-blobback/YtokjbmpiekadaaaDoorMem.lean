/-
  Small laws on memory: a block that is known whole, behind a store, a new block, a draw; and on numbers' lists.
-/
import Derived.Test.YtokjbmpiekadaaaDoorRows
import Derived.Test.YtokjbmpiekadaaaDoorSpec
import Derived.WalkKit
import Derived.WalkSpells
import Derived.WalkLawsBesides
import Derived.Deep.AppendLies
namespace Go.Proofs.YtokjbmpiekadaaaDoor
open Go.RowKit

def u8v (n : Nat) : Value := .int .u8 (n : Int)
def u32v (n : Nat) : Value := .int .u32 (n : Int)
/-- block b of the world holds just these cells -/
def Row (w : World) (b : Nat) (vs : List Value) (t : TypeId) : Prop := w.heap[b]? = some (.cells vs.toArray t (0, 0))

theorem Row.cell {w : World} {b : Nat} {vs : List Value} {t : TypeId} (h : Row w b vs t) (j : Nat) : w.cell? ⟨b, j, none⟩ = vs[j]? := by
  rw [cell_of_row w b j _ t (0, 0) h]; simp
theorem Row.cellMap {w : World} {b : Nat} {l : List Nat} {f : Nat → Value} {t : TypeId} (h : Row w b (l.map f) t) (j : Nat) (hj : j < l.length) : w.cell? ⟨b, j, none⟩ = some (f (l.getD j 0)) := by
  rw [h.cell]; simp [hj]
theorem Row.frozen {w : World} {b : Nat} {vs : List Value} {t : TypeId} (h : Row w b vs t) (j : Nat) : w.frozen? ⟨b, j, none⟩ = false := by
  unfold Row at h; simp [World.frozen?, h]
theorem Row.lt {w : World} {b : Nat} {vs : List Value} {t : TypeId} (h : Row w b vs t) : b < w.heap.size := by
  unfold Row at h
  exact (Array.getElem?_eq_some_iff.1 h).1
theorem Row.of_block {w w' : World} {b : Nat} {vs : List Value} {t : TypeId} (h : Row w b vs t) (hb : w'.heap[b]? = w.heap[b]?) : Row w' b vs t := by
  unfold Row at *; rw [hb]; exact h
theorem Row.drew {w : World} {b : Nat} {vs : List Value} {t : TypeId} (h : Row w b vs t) : Row w.drew b vs t := h
theorem Row.drewN {w : World} {b : Nat} {vs : List Value} {t : TypeId} (h : Row w b vs t) (n : Nat) : Row (w.drewN n) b vs t := by
  refine h.of_block ?_; simp
theorem Row.alloc {w : World} {b : Nat} {vs : List Value} {t : TypeId} (h : Row w b vs t) (o : Obj) : Row (w.alloc o) b vs t :=
  h.of_block (Below.heap_alloc _ _ _ h.lt)
theorem Row.new (w : World) (vs : List Value) (t : TypeId) : Row (w.alloc (.cells vs.toArray t)) w.heap.size vs t := heap_alloc_new w _
theorem Row.newAt (w : World) (b : Nat) (vs : List Value) (t : TypeId) (hb : w.heap.size = b) : Row (w.alloc (.cells vs.toArray t)) b vs t := by subst hb; exact heap_alloc_new w _
theorem Row.below {w w' : World} {b B : Nat} {vs : List Value} {t : TypeId} (h : Row w b vs t) (hb : Below B w w') (hB : b < B) : Row w' b vs t :=
  h.of_block (hb.block b hB)
theorem Row.grown {w w' : World} {b : Nat} {row : Option Nat} {vs : List Value} {t : TypeId} (h : Row w b vs t) (hb : w.grownBy w' row) (hB : some b ≠ row) : Row w' b vs t :=
  h.of_block (hb.block b h.lt hB)
theorem Row.set_other {w : World} {b : Nat} {vs : List Value} {t : TypeId} (h : Row w b vs t) (a : Addr) (v : Value) (hne : b ≠ a.block) : Row (w.setCell a v) b vs t :=
  h.of_block (Below.heap_setCell _ _ _ _ hne)
theorem Row.set_same {w : World} {b : Nat} {vs : List Value} {t : TypeId} (h : Row w b vs t) (j : Nat) (v : Value) : Row (w.setCell ⟨b, j, none⟩ v) b (vs.set j v) t := by
  unfold Row at *
  simp only [World.setCell, Array.getElem?_modify, if_true, h]
  simp

theorem getD_lt {l : List Nat} {m : Nat} (h : ∀ x ∈ l, x < m) (j : Nat) (hm : 0 < m := by decide) : l.getD j 0 < m := by
  by_cases hj : j < l.length
  · simp only [List.getD_eq_getElem?_getD, List.getElem?_eq_getElem hj, Option.getD_some]; exact h _ (List.getElem_mem hj)
  · simp only [List.getD_eq_getElem?_getD, List.getElem?_eq_none (Nat.le_of_not_lt hj), Option.getD_none]; exact hm
theorem getD_take {l : List Nat} {t j : Nat} (h : j < t) : (l.take t).getD j 0 = l.getD j 0 := by
  simp [h]
theorem take_set_succ {l : List Nat} {t : Nat} (x : Nat) (h : t < l.length) : (l.set t x).take (t + 1) = l.take t ++ [x] := by
  rw [List.take_succ_eq_append_getElem (by simpa using h)]
  simp only [List.getElem_set_self]
  congr 1
  refine List.ext_getElem? fun j => ?_
  by_cases hj : j < t
  · rw [List.getElem?_take_of_lt hj, List.getElem?_take_of_lt hj, List.getElem?_set_ne (by omega)]
  · rw [List.getElem?_take_eq_none (by omega), List.getElem?_take_eq_none (by omega)]
end Go.Proofs.YtokjbmpiekadaaaDoor
