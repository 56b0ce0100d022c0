/-
  The walk of wire.Next.
-/
import Derived.Test.YtbccjomnfclkdaaS5
import Derived.Deep.RegionHeld3
namespace Go.Proofs.Ytbccjomnfclkdaa
open Go.RowKit
theorem hid_in {p : Prop} (h : p) : Hid p := h
theorem slice_hi (b o L C n : Nat) (h1 : n ≤ C) (h : Int) (hh : h = (n : Int)) (w : World) : (Instr.slice 33 (.slice (some ⟨b, o, none⟩) L C) none (some (.int .i64 h)) none).run Try.prog w = .ok (.slice (some ⟨b, o, none⟩) n C) w := by
  subst hh; exact slice_to b o L C n h1 w
theorem slice_lo (b o L C n : Nat) (h1 : n < L) (h2 : L ≤ C) (h : Int) (hh : h = (n : Int)) (w : World) : (Instr.slice 33 (.slice (some ⟨b, o, none⟩) L C) (some (.int .i64 h)) none none).run Try.prog w = .ok (.slice (some ⟨b, o + n, none⟩) (L - n) (C - n)) w := by
  subst hh
  have ht : Try.prog.underlying 33 = some (.slice (Try.prog.elem 33)) := by kernel_rfl
  have he : Try.prog.elem 33 = 5 := by kernel_rfl
  have hsz : (sizeOf 5).run Try.prog w = .ok 1 w := by kernel_rfl
  rw [run_slice_l w 33 (some ⟨b, o, none⟩) L C ht .i64 (n : Int) (by omega) (by omega), he, hsz]
  simp [sliced, Addr.add_mid]
  omega
theorem slice_lohi (b o L C n m : Nat) (h1 : n ≤ m) (h2 : m ≤ C) (h3 : n < C) (k h : Int) (hk : k = (n : Int)) (hh : h = (m : Int)) (w : World) : (Instr.slice 33 (.slice (some ⟨b, o, none⟩) L C) (some (.int .i64 k)) (some (.int .i64 h)) none).run Try.prog w = .ok (.slice (some ⟨b, o + n, none⟩) (m - n) (C - n)) w := by
  subst hh hk
  have ht : Try.prog.underlying 33 = some (.slice (Try.prog.elem 33)) := by kernel_rfl
  have he : Try.prog.elem 33 = 5 := by kernel_rfl
  have hsz : (sizeOf 5).run Try.prog w = .ok 1 w := by kernel_rfl
  rw [run_slice_lh w 33 (some ⟨b, o, none⟩) L C ht .i64 .i64 (n : Int) (m : Int) (by omega) (by omega) (by omega), he, hsz]
  simp [sliced, Addr.add_mid]
  omega
/-- a part of a slice of bytes -/
theorem Sl.part {w : World} {p : Option Addr} {bs : List Nat} {cap b off : Nat} (h : Sl w p bs cap b off) (n m c : Nat) (hnm : n + m ≤ bs.length) (hc : m ≤ c) (hc2 : c ≤ 9223372036854775807) : Sl w (some ⟨b, off + n, none⟩) ((bs.drop n).take m) c b (off + n) :=
  ⟨fun x hx => h.lt x (List.mem_of_mem_drop (List.mem_of_mem_take hx)), by simp; omega, hc2, fun _ => rfl, fun j hj => by
    have hj' : j < m := by simp at hj; omega
    rw [Nat.add_assoc, h.src (n + j) (by omega)]
    simp [hj']⟩
end Go.Proofs.Ytbccjomnfclkdaa
