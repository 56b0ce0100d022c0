/-
  No byte taken; the walk of (*wire.In).Text.
-/
import Derived.Test.YtbccjomnfclkdaaS12
namespace Go.Proofs.Ytbccjomnfclkdaa
open Go.RowKit
theorem slice_to0 (p : Option Addr) (L C : Nat) (w : World) : (Instr.slice 33 (.slice p L C) none (some (.int .i64 0)) none).run Try.prog w = .ok (.slice p 0 C) w := by
  have ht : Try.prog.underlying 33 = some (.slice (Try.prog.elem 33)) := by kernel_rfl
  have he : Try.prog.elem 33 = 5 := by kernel_rfl
  have hsz : (sizeOf 5).run Try.prog w = .ok 1 w := by kernel_rfl
  rw [run_slice_h w 33 p L C ht .i64 0 (by omega) (by omega), he, hsz]
  rcases p with _ | ⟨b, o, s⟩ <;> simp [sliced, Addr.add]
theorem slice_from0 (p : Option Addr) (L C : Nat) (w : World) : (Instr.slice 33 (.slice p L C) (some (.int .i64 0)) none none).run Try.prog w = .ok (.slice p L C) w := by
  have ht : Try.prog.underlying 33 = some (.slice (Try.prog.elem 33)) := by kernel_rfl
  have he : Try.prog.elem 33 = 5 := by kernel_rfl
  have hsz : (sizeOf 5).run Try.prog w = .ok 1 w := by kernel_rfl
  rw [run_slice_l w 33 p L C ht .i64 0 (by omega) (by omega), he, hsz]
  rcases p with _ | ⟨b, o, s⟩ <;> simp [sliced, Addr.add]
set_option maxHeartbeats 400000 in
/-- none of the bytes -/
theorem take_zero {B : Nat} (w : World) (g : Nat) (bs : List Nat) (hi : InIs B w g bs 0) :
    Calls Try.prog 56 #[.pointer (some ⟨g, 0, none⟩), .int .i64 0] w fun r w' => ∃ p cap, r = .returned (.tuple #[.slice p 0 cap, .bool true]) ∧ InIs B w' g bs 0 ∧ w.grownBy w' (some g) ∧ w'.heap.size = w.heap.size := by
  obtain ⟨p, cap, b, off, hr, hsl, hno, hne⟩ := hi.ex
  have c0 : w.cell? ⟨g, 0, none⟩ = some (.slice p bs.length cap) := hr.cell 0
  have c1 : w.cell? ⟨g, 1, none⟩ = some (.int .i64 0) := hr.cell 1
  have f0 := hr.frozen 0
  have HR := hid_in hr
  have HSL := hid_in hsl
  have HNO := hid_in hno
  have HNE := hid_in hne
  have k1 : (0 : Int) ≤ (bs.length : Int) := by omega
  have hs1 := slice_to0 p bs.length cap
  have hs2 := slice_from0 p bs.length cap
  clear hi hr hsl hno hne
  go_enter Try.func56, Try.ntmps56
  go_wp2
  go_ret2
  have hg := grownBy_setCell w ⟨g, 0, none⟩ (.slice p bs.length cap)
  refine ⟨p, cap, rfl, ⟨p, cap, b, off, HR.out.set_same 0 _, HSL.out.grown hg (fun h => by simpa using (HNE.out h).1), HNO.out, HNE.out⟩, hg, by simp [World.setCell]⟩
end Go.Proofs.Ytbccjomnfclkdaa
