/-
  Code, Path at a number within two faults; awake.
-/
import Derived.Test.YtaaojfgakgjlkaaDoorG1
namespace Go.Proofs.YtaaojfgakgjlkaaDoor
open Go.RowKit

theorem as_cell {w w1 : World} {A B C D : Obj} {k : Int} (h : w1 = (((((w.alloc (.cells #[.int .i64 0] 31)).alloc A).alloc B).alloc C).alloc D).setCell ⟨w.heap.size, 0, none⟩ (.int .i64 k)) : w1.cell? ⟨w.heap.size, 0, none⟩ = some (.int .i64 k) := by
  have hh : (((((w.alloc (.cells #[.int .i64 0] 31)).alloc A).alloc B).alloc C).alloc D).heap[w.heap.size]? = some (.cells #[.int .i64 0] 31 (0, 0)) := by
    rw [Below.heap_alloc _ _ _ (by simp; omega), Below.heap_alloc _ _ _ (by simp; omega), Below.heap_alloc _ _ _ (by simp; omega), Below.heap_alloc _ _ _ (by simp)]
    exact World.alloc_heap_new w _
  rw [h, cell_of_row _ w.heap.size 0 _ _ (0, 0) (row_put hh 0 _)]
  rfl
theorem as_below {w w1 : World} {A B C D : Obj} {k : Int} (hb : Below w.heap.size w (w.alloc (.cells #[.int .i64 0] 31))) (h : w1 = (((((w.alloc (.cells #[.int .i64 0] 31)).alloc A).alloc B).alloc C).alloc D).setCell ⟨w.heap.size, 0, none⟩ (.int .i64 k)) : Below w.heap.size w w1 := by
  rw [h]
  exact ((((hb.alloc (by simp) _).alloc (by simp; omega) _).alloc (by simp; omega) _).alloc (by simp; omega) _).setCell (p := ⟨w.heap.size, 0, none⟩) (Nat.le_refl _) _
set_option maxHeartbeats 2000000 in
set_option maxRecDepth 100000 in
theorem code_two (b1 b2 : Nat) (x1 y1 x2 y2 : Value) (k : Int) (w : World) (hg : w.cell? ⟨0, 0, none⟩ = some (.iface 87 (.agg #[.pointer (some ⟨4, 30, none⟩)]))) (h1 : w.heap[b1]? = some (.cells #[x1, y1, .iface 42 (.pointer (some ⟨b2, 0, none⟩))] 47 (0, 0))) (h2 : w.heap[b2]? = some (.cells #[x2, y2, .iface 31 (.int .i64 k)] 47 (0, 0))) :
    Calls Tryd.prog 10 #[.iface 42 (.pointer (some ⟨b1, 0, none⟩))] w fun e w' => e = .returned (.int .i64 k) ∧ Below w.heap.size w w' := by
  have hlt : 0 < w.heap.size := by
    rcases Nat.eq_zero_or_pos w.heap.size with h0 | h
    · simp [World.cell?, h0] at hg
    · exact h
  have hba : Below w.heap.size w (w.alloc (.cells #[.int .i64 0] 31)) := (Below.refl _ _).alloc (Nat.le_refl _) _
  have HA := hid_in (as_two b1 b2 x1 y1 x2 y2 k w.heap.size (.int .i64 0) (w.alloc (.cells #[.int .i64 0] 31)) ((hba.cell (p := ⟨0, 0, none⟩) hlt).trans hg) ((hba.block b1 (Array.getElem?_eq_some_iff.1 h1).1).trans h1) ((hba.block b2 (Array.getElem?_eq_some_iff.1 h2).1).trans h2) (by rw [World.cell?_alloc_at _ _ _ _ rfl]; rfl) (by simp))
  have HBA := hid_in hba
  clear h1 h2 hg hba
  go_enter Tryd.func10, Tryd.ntmps10
  go_wp2_with (first
    | (go_at_call 25; refine HA.out.mono ?_; rintro e w1 ⟨rfl, hw⟩; have c1 : w1.cell? ⟨w.heap.size, 0, none⟩ = some (.int .i64 k) := as_cell hw; have HB1 : Hid (Below w.heap.size w w1) := as_below HBA.out hw; clear hw))
  go_ret
  exact ⟨rfl, HB1.out⟩
end Go.Proofs.YtaaojfgakgjlkaaDoor
