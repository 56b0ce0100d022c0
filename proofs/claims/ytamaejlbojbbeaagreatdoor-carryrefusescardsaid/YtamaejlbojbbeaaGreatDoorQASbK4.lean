/-
  New and bytes.Clone.
-/
import Derived.Test.YtamaejlbojbbeaaGreatDoorQ00
import Derived.Test.YtamaejlbojbbeaaGreatDoorQ01
import Derived.Test.YtamaejlbojbbeaaGreatDoorQ02
import Derived.Test.YtamaejlbojbbeaaGreatDoorQ03
namespace Go.Proofs.YtamaejlbojbbeaaGreatDoor.Sb
open Go.RowKit
set_option maxHeartbeats 400000 in
theorem bnew_any (w : World) (q0 : Int) : Calls Tryz.prog 9 #[.int .i64 q0] w fun e w' => e = .returned (.pointer (some ⟨w.heap.size + 1, 0, none⟩)) ∧ St w' (w.heap.size + 1) w.heap.size (fun _ => none) 0 (max q0 0) 0 ∧ Below w.heap.size w w' := by
  have hmm := @run_makeMap Tryz.prog
  have key : ∀ q : Int, Hid (St ((w.alloc (.map #[] 0)).alloc (.cells #[.map (some w.heap.size), .int .i64 q, .int .i64 0] 85)) (w.heap.size + 1) w.heap.size (fun _ => none) 0 q 0) := by
    intro q
    refine ⟨Row.newAt (w.alloc (.map #[] 0)) _ [.map (some w.heap.size), .int .i64 q, .int .i64 0] 85 (by simp), fun _ => none, (MapOk.new w).of_block (Below.heap_alloc _ _ _ (by simp)), by simp, by simp⟩
  have hb : ∀ q : Int, Hid (Below w.heap.size w ((w.alloc (.map #[] 0)).alloc (.cells #[.map (some w.heap.size), .int .i64 q, .int .i64 0] 85))) := fun q => ((Below.refl _ _).alloc (Nat.le_refl _) _).alloc (by simp) _
  go_enter Tryz.func9, Tryz.ntmps9
  go_wp2
  all_goals
    go_ret
    refine ⟨rfl, ?_, hb _⟩
    first
    | (rw [show max q0 0 = 0 by omega]; exact key 0)
    | (rw [show max q0 0 = q0 by omega]; exact key q0)
end Go.Proofs.YtamaejlbojbbeaaGreatDoor.Sb
