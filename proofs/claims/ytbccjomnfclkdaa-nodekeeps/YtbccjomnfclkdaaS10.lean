/-
  The walks of (*wire.In).fail and take.
-/
import Derived.Test.YtbccjomnfclkdaaS9
namespace Go.Proofs.Ytbccjomnfclkdaa
open Go.RowKit
theorem fail_any {B : Nat} (w : World) (g e : Nat) (a b : Value) (hr : Row w g [a, b] 91) :
    Calls Try.prog 55 #[.pointer (some ⟨g, 0, none⟩), .int .i64 (e : Int)] w fun r w' => r = .returned (.tuple #[]) ∧ InIs B w' g [] e ∧ w.grownBy w' (some g) ∧ w'.heap.size = w.heap.size := by
  have c0 : w.cell? ⟨g, 0, none⟩ = some a := hr.cell 0
  have c1 : w.cell? ⟨g, 1, none⟩ = some b := hr.cell 1
  have f0 := hr.frozen 0
  have f1 := hr.frozen 1
  go_enter Try.func55, Try.ntmps55
  go_wp2
  go_end0
  refine ⟨rfl, ⟨none, 0, 0, 0, (hr.set_same 0 _).set_same 1 _, ⟨fun _ h => (by cases h), by simp, by omega, fun h => (by simp at h), fun j hj => (by simp at hj)⟩, fun _ => ⟨rfl, rfl⟩, fun h => (by simp at h)⟩, ?_, by simp [World.setCell]⟩
  exact grownBy_trans (grownBy_setCell w ⟨g, 0, none⟩ _) (grownBy_setCell _ ⟨g, 1, none⟩ _)
theorem take_bad {B : Nat} (w : World) (g e n : Nat) (bs : List Nat) (he : e ≠ 0) (hi : InIs B w g bs e) :
    Calls Try.prog 56 #[.pointer (some ⟨g, 0, none⟩), .int .i64 (n : Int)] w fun r w' => r = .returned (.tuple #[.slice none 0 0, .bool false]) ∧ w' = w := by
  obtain ⟨p, cap, b, off, hr, hsl, hno, hne⟩ := hi.ex
  have c1 : w.cell? ⟨g, 1, none⟩ = some (.int .i64 (e : Int)) := hr.cell 1
  have k1 : ¬ ((e : Int) = 0) := by omega
  clear hi hr hsl hno hne
  go_enter Try.func56, Try.ntmps56
  go_wp2
  go_ret2
  exact ⟨rfl, rfl⟩
set_option maxHeartbeats 400000 in
theorem take_short {B : Nat} (w : World) (g n : Nat) (bs : List Nat) (hn : bs.length < n) (hi : InIs B w g bs 0) :
    Calls Try.prog 56 #[.pointer (some ⟨g, 0, none⟩), .int .i64 (n : Int)] w fun r w' => r = .returned (.tuple #[.slice none 0 0, .bool false]) ∧ InIs B w' g [] 20 ∧ w.grownBy w' (some g) ∧ w'.heap.size = w.heap.size := by
  obtain ⟨p, cap, b, off, hr, hsl, hno, hne⟩ := hi.ex
  have c0 : w.cell? ⟨g, 0, none⟩ = some (.slice p bs.length cap) := hr.cell 0
  have c1 : w.cell? ⟨g, 1, none⟩ = some (.int .i64 0) := hr.cell 1
  have k1 : (bs.length : Int) < (n : Int) := by omega
  have hf := fail_any (B := B) w g 20 _ _ hr
  clear hi hr hsl hno hne
  go_enter Try.func56, Try.ntmps56
  go_wp2_with fail
  refine hf.mono ?_
  rintro e w1 ⟨rfl, h1, h2, h3⟩
  have H := hid_in h1
  have H3 := hid_in h3
  clear h1 h3 hf c0 c1
  go_wp2
  go_ret2
  exact ⟨rfl, H.out, h2, H3.out⟩
theorem slice_rest (b o L C n : Nat) (h1 : n ≤ L) (h2 : L ≤ C) : ∃ q, (n < L → q = some ⟨b, o + n, none⟩) ∧ (q ≠ none) ∧ ∀ w, (Instr.slice 33 (.slice (some ⟨b, o, none⟩) L C) (some (.int .i64 (n : Int))) none none).run Try.prog w = .ok (.slice q (L - n) (C - n)) w := by
  have ht : Try.prog.underlying 33 = some (.slice (Try.prog.elem 33)) := by kernel_rfl
  have he : Try.prog.elem 33 = 5 := by kernel_rfl
  refine ⟨some (if C = n then ⟨b, o, none⟩ else ⟨b, o + n, none⟩), fun h => by rw [if_neg (by omega)], by simp, fun w => ?_⟩
  have hsz : (sizeOf 5).run Try.prog w = .ok 1 w := by kernel_rfl
  rw [run_slice_l w 33 (some ⟨b, o, none⟩) L C ht .i64 (n : Int) (by omega) (by omega), he, hsz]
  simp [sliced, Addr.add_mid]
  split <;> rfl
set_option maxHeartbeats 400000 in
/-- some bytes that are there -/
theorem take_some {B : Nat} (w : World) (g n : Nat) (bs : List Nat) (h0 : 0 < n) (hn : n ≤ bs.length) (hi : InIs B w g bs 0) :
    Calls Try.prog 56 #[.pointer (some ⟨g, 0, none⟩), .int .i64 (n : Int)] w fun r w' => ∃ b off cap, r = .returned (.tuple #[.slice (some ⟨b, off, none⟩) n cap, .bool true]) ∧ Sl w' (some ⟨b, off, none⟩) (bs.take n) cap b off ∧ InIs B w' g (bs.drop n) 0 ∧ w.grownBy w' (some g) ∧ w'.heap.size = w.heap.size := by
  obtain ⟨p, cap, b, off, hr, hsl, hno, hne⟩ := hi.ex
  obtain rfl := hsl.at_ (by omega)
  have hbg := hne (by omega)
  have hc1 := hsl.cap1
  have hc2 := hsl.cap2
  have c0 : w.cell? ⟨g, 0, none⟩ = some (.slice (some ⟨b, off, none⟩) bs.length cap) := hr.cell 0
  have c1 : w.cell? ⟨g, 1, none⟩ = some (.int .i64 0) := hr.cell 1
  have f0 := hr.frozen 0
  have k1 : (n : Int) ≤ (bs.length : Int) := by omega
  have hs1 := slice_to b off bs.length cap n (by omega)
  obtain ⟨q, hq, hqn, hs2⟩ := slice_rest b off bs.length cap n hn hc1
  have HQ := hid_in hq
  have HQN := hid_in hqn
  have HR := hid_in hr
  have HSL := hid_in hsl
  clear hi hr hsl hno hne hq hqn
  go_enter Try.func56, Try.ntmps56
  go_wp2
  go_ret2
  have hg := grownBy_setCell w ⟨g, 0, none⟩ (.slice q (bs.length - n) (cap - n))
  have hslw := HSL.out.grown hg (fun _ => by simpa using hbg.1)
  have e1 : (bs.drop n).length = bs.length - n := by simp
  refine ⟨b, off, cap, rfl, ?_, ⟨q, cap - n, b, off + n, ?_, ?_, fun h => absurd h HQN.out, fun _ => hbg⟩, hg, by simp [World.setCell]⟩
  · have := hslw.part 0 n cap (by omega) (by omega) hc2
    simpa using this
  · rw [e1]; exact HR.out.set_same 0 _
  · have := hslw.part n (bs.length - n) (cap - n) (by omega) (by omega) (by omega)
    rw [List.take_of_length_le (by simp)] at this
    refine ⟨this.lt, this.cap1, this.cap2, fun h => ?_, this.src⟩
    exact HQ.out (by simp at h; omega)
end Go.Proofs.Ytbccjomnfclkdaa
