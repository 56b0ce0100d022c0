/-
  The walk of wire.Next.
-/
import Derived.Test.YtjaplfdcdokhfaaS5
import Derived.Deep.RegionHeld3
namespace Go.Proofs.Ytjaplfdcdokhfaa
open Go.RowKit

theorem hid_in {p : Prop} (h : p) : Hid p := h
theorem slice_hi (b o L C n : Nat) (h1 : n ≤ C) (h : Int) (hh : h = (n : Int)) (w : World) : (Instr.slice 25 (.slice (some ⟨b, o, none⟩) L C) none (some (.int .i64 h)) none).run Try.prog w = .ok (.slice (some ⟨b, o, none⟩) n C) w := by
  subst hh; exact slice_to b o L C n h1 w
theorem slice_lo (b o L C n : Nat) (h1 : n < L) (h2 : L ≤ C) (h : Int) (hh : h = (n : Int)) (w : World) : (Instr.slice 25 (.slice (some ⟨b, o, none⟩) L C) (some (.int .i64 h)) none none).run Try.prog w = .ok (.slice (some ⟨b, o + n, none⟩) (L - n) (C - n)) w := by
  subst hh
  have ht : Try.prog.underlying 25 = some (.slice (Try.prog.elem 25)) := by kernel_rfl
  have he : Try.prog.elem 25 = 5 := by kernel_rfl
  have hsz : (sizeOf 5).run Try.prog w = .ok 1 w := by kernel_rfl
  rw [run_slice_l w 25 (some ⟨b, o, none⟩) L C ht .i64 (n : Int) (by omega) (by omega), he, hsz]
  simp [sliced, Addr.add_mid]
  omega
theorem slice_lohi (b o L C n m : Nat) (h1 : n ≤ m) (h2 : m ≤ C) (h3 : n < C) (k h : Int) (hk : k = (n : Int)) (hh : h = (m : Int)) (w : World) : (Instr.slice 25 (.slice (some ⟨b, o, none⟩) L C) (some (.int .i64 k)) (some (.int .i64 h)) none).run Try.prog w = .ok (.slice (some ⟨b, o + n, none⟩) (m - n) (C - n)) w := by
  subst hh hk
  have ht : Try.prog.underlying 25 = some (.slice (Try.prog.elem 25)) := by kernel_rfl
  have he : Try.prog.elem 25 = 5 := by kernel_rfl
  have hsz : (sizeOf 5).run Try.prog w = .ok 1 w := by kernel_rfl
  rw [run_slice_lh w 25 (some ⟨b, o, none⟩) L C ht .i64 .i64 (n : Int) (m : Int) (by omega) (by omega) (by omega), he, hsz]
  simp [sliced, Addr.add_mid]
  omega
/-- a part of a slice of bytes -/
theorem Sl.part {w : World} {p : Option Addr} {bs : List Nat} {cap b off : Nat} (h : Sl w p bs cap b off) (n m c : Nat) (hnm : n + m ≤ bs.length) (hc : m ≤ c) (hc2 : c ≤ 9223372036854775807) : Sl w (some ⟨b, off + n, none⟩) ((bs.drop n).take m) c b (off + n) :=
  ⟨fun x hx => h.lt x (List.mem_of_mem_drop (List.mem_of_mem_take hx)), by simp; omega, hc2, fun _ => rfl, fun j hj => by
    have hj' : j < m := by simp at hj; omega
    rw [Nat.add_assoc, h.src (n + j) (by omega)]
    simp [hj']⟩

set_option maxHeartbeats 1000000 in
theorem next_any (bs : List Nat) (p : Option Addr) (cap b off : Nat) (w : World) (hsl : Sl w p bs cap b off) :
    Calls Try.prog 28 #[.slice p bs.length cap] w fun e w' => ∃ v, e = .returned (.tuple #[v, .int .i64 ((Wire.next bs).2.1 : Int), .int .i64 ((Wire.next bs).2.2 : Int)]) ∧ w'.ownsRow w.heap.size 5 1 v (Wire.next bs).1.length ((Wire.next bs).1.map u8v) ∧ Below w.heap.size w w' := by
  have k0 : (bs.length : Int) ≤ 9223372036854775807 := by have := hsl.cap1; have := hsl.cap2; omega
  by_cases h4 : bs.length < 4
  · have k1 : (bs.length : Int) < 4 := by omega
    have HN : Hid (Wire.next bs = ([], 0, 20)) := by show _ = _; unfold Wire.next; rw [if_pos h4]
    clear hsl
    go_enter Try.func28, Try.ntmps28
    go_wp2
    go_ret3
    rw [HN.out]
    exact ⟨_, rfl, World.ownsRow_nil _ _ _ _, Below.refl _ _⟩
  have k1 : (4 : Int) ≤ (bs.length : Int) := by omega
  have hva := value_any bs p cap b off w hsl (by omega)
  have hvl := Wire.val_lt hsl.lt
  obtain ⟨n, HV⟩ : ∃ n, Hid (n = Wire.val bs) := ⟨_, rfl⟩
  rw [← HV.out] at hva hvl
  have HSL : Hid (Sl w p bs cap b off) := hsl
  have hcap := hsl.cap1
  have hcap2 := hsl.cap2
  obtain rfl := hsl.at_ (by omega)
  clear hsl
  go_enter Try.func28, Try.ntmps28
  go_wp2_with fail
  refine hva.mono ?_
  rintro e w1 ⟨rfl, m1, hw1⟩
  have hb1 : Below w.heap.size w w1 := by rw [hw1]; exact below_drewN (Below.refl _ _) _
  have HS1 : Hid (w1.heap.size = w.heap.size) := by show _ = _; rw [hw1]; simp
  clear hw1 hva
  by_cases hbig : 262144 < n
  · have k2 : (262144 : Int) < (n : Int) := by omega
    have HN : Hid (Wire.next bs = ([], 0, 2)) := by show _ = _; unfold Wire.next; rw [if_neg h4, ← HV.out, if_pos hbig]
    go_wp2
    go_ret3
    rw [HN.out]
    exact ⟨_, rfl, World.ownsRow_nil _ _ _ _, hb1⟩
  have k2 : (n : Int) ≤ 262144 := by omega
  by_cases hsh : bs.length < n + 8
  · have k3 : (bs.length : Int) < (n : Int) + 8 := by omega
    have HN : Hid (Wire.next bs = ([], 0, 20)) := by show _ = _; unfold Wire.next; rw [if_neg h4, ← HV.out, if_neg hbig, if_pos hsh]
    go_wp2
    go_ret3
    rw [HN.out]
    exact ⟨_, rfl, World.ownsRow_nil _ _ _ _, hb1⟩
  have k3 : (n : Int) + 8 ≤ (bs.length : Int) := by omega
  have hS1 := slice_hi b off bs.length cap (n + 4) (by omega) (4 + (n : Int)) (by omega)
  have hS2 := slice_lo b off bs.length cap (n + 4) (by omega) hcap (4 + (n : Int)) (by omega)
  have hsl1 := HSL.out.below hb1
  have hsl1d : Sl w1.drew (some ⟨b, off, none⟩) bs cap b off := ⟨hsl1.lt, hsl1.cap1, hsl1.cap2, hsl1.at_, hsl1.src⟩
  have hb2 : Below w1.drew.heap.size w1.drew (w1.drew.alloc (.cells #[.slice (some ⟨b, off, none⟩) (n + 4) cap] 25)) := (Below.refl _ _).alloc (Nat.le_refl _) _
  have hp1 := hsl1d.part 0 (n + 4) cap (by omega) (by omega) hcap2
  have hp2 := hsl1d.part (n + 4) (bs.length - (n + 4)) (cap - (n + 4)) (by omega) (by omega) (by omega)
  rw [Nat.add_zero, List.drop_zero] at hp1
  have et : (bs.take (n + 4)).length = n + 4 := by simp; omega
  have ed : ((bs.drop (n + 4)).take (bs.length - (n + 4))) = bs.drop (n + 4) := List.take_of_length_le (by simp)
  have edl : (bs.drop (n + 4)).length = bs.length - (n + 4) := by simp
  rw [ed] at hp2
  have hps : Parts (w1.drew.alloc (.cells #[.slice (some ⟨b, off, none⟩) (n + 4) cap] 25)) w1.drew.heap.size 0 [⟨some ⟨b, off, none⟩, bs.take (n + 4), cap, b, off⟩] := by
    refine parts_row (by simpa [Part.val, et] using Row.newAt w1.drew _ [.slice (some ⟨b, off, none⟩) (n + 4) cap] 25 rfl) ?_ ?_
    · intro x hx
      simp only [List.mem_cons, List.not_mem_nil, or_false] at hx
      subst hx
      exact Sl.below hp1 hb2
    · intro x hx
      simp only [List.mem_cons, List.not_mem_nil, or_false] at hx
      subst hx
      intro h; cases h
  have hck := check_any _ _ 0 1 _ hps (by simp)
  have eB : bytesOf [⟨some ⟨b, off, none⟩, bs.take (n + 4), cap, b, off⟩] = bs.take (n + 4) := by simp [bytesOf]
  rw [eB] at hck
  have hva := value_any _ _ _ _ _ _ (Sl.below hp2 hb2) (by rw [edl]; omega)
  rw [edl] at hva
  obtain ⟨c, HC⟩ : ∃ c, Hid (c = Wire.check (bs.take (n + 4))) := ⟨_, rfl⟩
  obtain ⟨x, HX⟩ : ∃ x, Hid (x = Wire.val (bs.drop (n + 4))) := ⟨_, rfl⟩
  rw [← HC.out] at hck
  rw [← HX.out] at hva
  have hcl : c < 4294967296 := by rw [HC.out]; exact Wire.check_lt (fun y hy => HSL.out.lt y (List.mem_of_mem_take hy))
  have hxl : x < 4294967296 := by rw [HX.out]; exact Wire.val_lt (fun y hy => HSL.out.lt y (List.mem_of_mem_drop hy))
  have e1 : w1.drew.heap.size = w1.heap.size := rfl
  rw [e1] at hck
  have HCK : Hid (Calls Try.prog 33 #[.slice (some ⟨w1.heap.size, 0, none⟩) 1 1] (w1.drew.alloc (.cells #[.slice (some ⟨b, off, none⟩) (n + 4) cap] 25)) fun e w' => e = .returned (.int .u32 (c : Int)) ∧ w' = (w1.drew.alloc (.cells #[.slice (some ⟨b, off, none⟩) (n + 4) cap] 25))) := hck
  have HVA : Hid (Calls Try.prog 54 #[.slice (some ⟨b, off + (n + 4), none⟩) (bs.length - (n + 4)) (cap - (n + 4))] (w1.drew.alloc (.cells #[.slice (some ⟨b, off, none⟩) (n + 4) cap] 25)) fun e w' => e = .returned (.int .u32 (x : Int)) ∧ ∃ m, w' = (w1.drew.alloc (.cells #[.slice (some ⟨b, off, none⟩) (n + 4) cap] 25)).drewN m) := hva
  have hbw2 : Below w.heap.size w (w1.drew.alloc (.cells #[.slice (some ⟨b, off, none⟩) (n + 4) cap] 25)) := (hb1.drew).alloc (by rw [e1, HS1.out]; exact Nat.le_refl _) _
  clear hck hva hps hp1 hp2 et ed edl eB hb2 hsl1 hsl1d e1
  go_wp2
  go_region_with (first | (go_at_call 33; refine HCK.out.mono ?_; rintro e wc ⟨rfl, rfl⟩) | (go_at_call 54; refine HVA.out.mono ?_; rintro e w2 ⟨rfl, m2, hw2⟩; have HW2 := hid_in hw2; clear hw2))
  have hb2 : Below w.heap.size w w2 := by rw [HW2.out]; exact below_drewN hbw2 _
  have HS2 : Hid (w.heap.size ≤ w2.heap.size) := hb2.size
  clear HW2 hbw2 HCK HVA hS1 hS2
  by_cases hcx : c = x
  · subst hcx
    have HN : Hid (Wire.next bs = ((bs.drop 4).take n, n + 8, 0)) := by
      show _ = _
      unfold Wire.next
      rw [if_neg h4, ← HV.out, if_neg hbig, if_neg hsh, ← HC.out, ← HX.out, if_neg (by simp)]
    have hS3 := slice_lohi b off bs.length cap 4 (n + 4) (by omega) (by omega) (by omega) 4 (4 + (n : Int)) rfl (by omega)
    rw [show n + 4 - 4 = n by omega] at hS3
    have hp := (HSL.out.below hb2).part 4 n (cap - 4) (by omega) (by omega) (by omega)
    have hpl : ((bs.drop 4).take n).length = n := by simp; omega
    have hcl2 := clone_any ((bs.drop 4).take n) (some ⟨b, off + 4, none⟩) (cap - 4) b (off + 4) w2 hp (fun h => by cases h) (by omega)
    rw [hpl] at hcl2
    have HP : Hid (((bs.drop 4).take n).length = n) := hpl
    clear hp hpl
    go_wp2_with fail
    refine hcl2.mono ?_
    rintro e w3 ⟨v3, rfl, hown3, hb3⟩
    have hown3' := own_mono (B' := w.heap.size) hown3 HS2.out
    have HOWN : Hid (w3.ownsRow w.heap.size 5 1 v3 n (((bs.drop 4).take n).map u8v)) := hown3'
    have hbw3 : Below w.heap.size w w3 := hb2.trans (hb3.mono HS2.out)
    clear hcl2 hown3 hown3' hb3
    go_wp2
    go_ret3
    rw [HN.out]
    refine ⟨_, by rw [show ((n + 8 : Nat) : Int) = 4 + (n : Int) + 4 by omega]; rfl, ?_, hbw3⟩
    simp only
    rw [HP.out]
    exact HOWN.out
  · have k4 : ¬ ((c : Int) = (x : Int)) := by omega
    have HN : Hid (Wire.next bs = ([], 0, 22)) := by
      show _ = _
      unfold Wire.next
      rw [if_neg h4, ← HV.out, if_neg hbig, if_neg hsh, ← HC.out, ← HX.out, if_pos hcx]
    go_wp2
    go_ret3
    rw [HN.out]
    exact ⟨_, rfl, World.ownsRow_nil _ _ _ _, hb2⟩
end Go.Proofs.Ytjaplfdcdokhfaa
