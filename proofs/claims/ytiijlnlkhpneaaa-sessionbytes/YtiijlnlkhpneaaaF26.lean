/-
  Int and Flag of the reference: written and read.
-/
import Derived.Deep.CutRange
import Derived.OwnWalk
import Derived.Laws.CopyOwn
import Derived.Laws.Tables
import Derived.Deep.RegionLaw
import Derived.Deep.DrawnRows
import Derived.Test.YtiijlnlkhpneaaaF00
import Derived.Test.YtiijlnlkhpneaaaF01
import Derived.Test.YtiijlnlkhpneaaaF02
import Derived.Test.YtiijlnlkhpneaaaF03
import Derived.Test.YtiijlnlkhpneaaaF04
import Derived.Test.YtiijlnlkhpneaaaF05
import Derived.Test.YtiijlnlkhpneaaaF06
import Derived.Test.YtiijlnlkhpneaaaF07
import Derived.Test.YtiijlnlkhpneaaaF08
import Derived.Test.YtiijlnlkhpneaaaF09
import Derived.Test.YtiijlnlkhpneaaaF13
import Derived.Test.YtiijlnlkhpneaaaF14
namespace Go.Proofs.Ytiijlnlkhpneaaa.Nd
open Go.RowKit
set_option maxHeartbeats 1000000 in
theorem rwint_any (w : World) (n : Int) (hn1 : -9223372036854775808 ≤ n) (hn2 : n ≤ 9223372036854775807) :
    Calls Try.prog 36 #[.int .i64 n] w fun e w' => ∃ v, e = .returned v ∧ w'.ownsRow w.heap.size 5 1 v (Wire.num (Wire.zz n)).length ((Wire.num (Wire.zz n)).map u8v) ∧ Below w.heap.size w w' := by
  obtain ⟨z, HZ, hz⟩ : ∃ z, Hid (z = Wire.zz n) ∧ z < 18446744073709551616 := ⟨_, rfl, by unfold Wire.zz; split <;> omega⟩
  have hnum := rwnum_any w z hz
  rw [← HZ.out]
  by_cases h0 : 0 ≤ n
  · have hz1 : Hid ((z : Int) = 2 * n) := by show _ = _; rw [HZ.out]; unfold Wire.zz; rw [if_pos h0]; omega
    obtain ⟨m, rfl⟩ := Int.eq_ofNat_of_zero_le h0
    go_enter Try.func36, Try.ntmps36
    go_wp2_with fail
    have e0 : (2 * (m : Int)) = (z : Int) := by have := hz1.out; omega
    rw [e0]
    refine hnum.mono ?_
    rintro e w' ⟨v, rfl, hh⟩
    have H := hid_in hh
    clear hh hnum e0
    go_wp2
    go_ret
    exact ⟨_, rfl, H.out⟩
  · have hz1 : Hid ((z : Int) = -2 * n - 1) := by show _ = _; rw [HZ.out]; unfold Wire.zz; rw [if_neg h0]; omega
    have k0 : n < 0 := by omega
    go_enter Try.func36, Try.ntmps36
    go_wp2_with fail
    have e0 : 2 * -(n + 1) + 1 = (z : Int) := by have := hz1.out; omega
    rw [e0]
    refine hnum.mono ?_
    rintro e w' ⟨v, rfl, hh⟩
    have H := hid_in hh
    clear hh hnum e0
    go_wp2
    go_ret
    exact ⟨_, rfl, H.out⟩
theorem rwflag_any (w : World) (fl : Bool) :
    Calls Try.prog 37 #[.bool fl] w fun e w' => ∃ v, e = .returned v ∧ w'.ownsRow w.heap.size 5 1 v 1 ([if fl then 1 else 0].map u8v) ∧ Below w.heap.size w w' := by
  have hb : ∀ x : Value, Below w.heap.size w (w.alloc (.cells #[x] 5)) := fun x => (Below.refl _ _).alloc (Nat.le_refl _) _
  have ho : ∀ y : Nat, (w.alloc (.cells #[u8v y] 5)).ownsRow w.heap.size 5 1 (.slice (some ⟨w.heap.size, 0, none⟩) 1 1) 1 [u8v y] := fun y => by
    refine ⟨by simp, .inr ⟨w.heap.size, 1, _, rfl, Nat.le_refl _, heap_alloc_new w _, by omega, by unfold maxLen; omega, by simp, ?_⟩⟩
    simp
  have HO := hid_in ho
  have HB := hid_in hb
  clear ho hb
  cases fl
  · go_enter Try.func37, Try.ntmps37
    go_wp2
    go_ret
    exact ⟨_, rfl, HO.out 0, HB.out _⟩
  · go_enter Try.func37, Try.ntmps37
    go_wp2
    go_ret
    exact ⟨_, rfl, HO.out 1, HB.out _⟩
theorem rflag_bad {B : Nat} (w : World) (g : Nat) (t : TypeId) (bs : List Nat) (k e : Nat) (he : e ≠ 0) (hi : RIs B w g t bs k e) :
    Calls Try.prog 44 #[.pointer (some ⟨g, 0, none⟩)] w fun r w' => r = .returned (.bool false) ∧ w' = w := by
  obtain ⟨p, cap, b, off, hr, hsl, hne⟩ := hi.ex
  have c2 : w.cell? ⟨g, 2, none⟩ = some (.int .i64 (e : Int)) := hr.cell 2
  have k1 : ¬ ((e : Int) = 0) := by omega
  clear hi hr hsl hne
  go_enter Try.func44, Try.ntmps44
  go_wp2
  go_ret
  exact ⟨rfl, rfl⟩
set_option maxHeartbeats 400000 in
theorem rflag_none {B : Nat} (w : World) (g : Nat) (t : TypeId) (bs : List Nat) (k : Nat) (hd : bs.drop k = []) (hi : RIs B w g t bs k 0) :
    Calls Try.prog 44 #[.pointer (some ⟨g, 0, none⟩)] w fun r w' => r = .returned (.bool false) ∧ RIs B w' g t bs bs.length 20 ∧ Grew w w' (· = g) := by
  have hk : k = bs.length := by have := hi.le; simp at hd; omega
  have hl := hi.len
  obtain ⟨p, cap, b, off, hr, hsl, hne⟩ := hi.ex
  have c0 : w.cell? ⟨g, 0, none⟩ = some (.slice p bs.length cap) := hr.cell 0
  have c1 : w.cell? ⟨g, 1, none⟩ = some (.int .i64 (k : Int)) := hr.cell 1
  have c2 : w.cell? ⟨g, 2, none⟩ = some (.int .i64 0) := hr.cell 2
  have k1 : (bs.length : Int) ≤ (k : Int) := by omega
  have HI := hid_in hi
  clear hi hr hsl hne hd hk
  go_enter Try.func44, Try.ntmps44
  go_wp2_with fail
  go_region
  go_wp2_with fail
  refine (rbad_any w.drew g t bs k 0 20 HI.out.drew).mono ?_
  rintro e1 w1 ⟨rfl, h1, h2, h3⟩
  have H1 := hid_in h1
  have H2 := hid_in h2
  clear h1 h2 h3 c0 c1 c2
  go_wp2
  go_ret
  refine ⟨rfl, H1.out, ?_⟩
  exact ((Grew.of_below (· = g) (Below.refl _ w).drew).trans (Grew.of_grown H2.out) (fun q _ h => by simpa using h))
set_option maxHeartbeats 1000000 in
theorem rflag_over {B : Nat} (w : World) (g : Nat) (t : TypeId) (bs : List Nat) (k c : Nat) (r : List Nat) (hd : bs.drop k = c :: r) (hb : 1 < c) (hi : RIs B w g t bs k 0) :
    Calls Try.prog 44 #[.pointer (some ⟨g, 0, none⟩)] w fun r w' => r = .returned (.bool false) ∧ RIs B w' g t bs bs.length 21 ∧ Grew w w' (· = g) := by
  obtain ⟨hk, hr', ⟨p, cap, b, off, hr, rfl, hcell, hbg⟩, _, hc⟩ := ris_step hi hd
  have HN := hid_in (ris_step hi.drew.drew hd).2.2.2.1
  have hl := hi.len
  have c0 : w.cell? ⟨g, 0, none⟩ = some (.slice (some ⟨b, off, none⟩) bs.length cap) := hr.cell 0
  have c1 : w.cell? ⟨g, 1, none⟩ = some (.int .i64 (k : Int)) := hr.cell 1
  have c2 : w.cell? ⟨g, 2, none⟩ = some (.int .i64 0) := hr.cell 2
  have k1 : ¬ ((bs.length : Int) ≤ (k : Int)) := by omega
  have k2 : (k : Int) < (bs.length : Int) := by omega
  have f1 := hr.frozen 1
  clear hi hr hd hk hr'
  have k3 : (1 : Int) < (c : Int) := by omega
  go_enter Try.func44, Try.ntmps44
  go_wp2_with fail
  go_region
  go_wp2_with fail
  go_region
  go_wp2_with fail
  refine (rbad_any _ g t bs (k + 1) 0 21 HN.out).mono ?_
  rintro e1 w1 ⟨rfl, h1, h2, h3⟩
  have H1 := hid_in h1
  have H2 := hid_in h2
  clear h1 h2 h3 c0 c1 c2 hcell
  go_wp2
  go_ret
  refine ⟨rfl, H1.out, ?_⟩
  exact ((Grew.of_below (· = g) (Below.refl _ w).drew.drew).trans (Grew.of_grown (grownBy_setCell w.drew.drew ⟨g, 1, none⟩ _)) (fun q _ h => by simpa using h)).trans (Grew.of_grown H2.out) (fun q _ h => by simpa using h)
set_option maxHeartbeats 1000000 in
theorem rflag_ok {B : Nat} (w : World) (g : Nat) (t : TypeId) (bs : List Nat) (k c : Nat) (r : List Nat) (hd : bs.drop k = c :: r) (hb : c ≤ 1) (hi : RIs B w g t bs k 0) :
    Calls Try.prog 44 #[.pointer (some ⟨g, 0, none⟩)] w fun r w' => r = .returned (.bool (decide (c = 1))) ∧ RIs B w' g t bs (k + 1) 0 ∧ Grew w w' (· = g) := by
  obtain ⟨hk, hr', ⟨p, cap, b, off, hr, rfl, hcell, hbg⟩, _, hc⟩ := ris_step hi hd
  have HN := hid_in (ris_step hi.drew.drew hd).2.2.2.1
  have hl := hi.len
  have c0 : w.cell? ⟨g, 0, none⟩ = some (.slice (some ⟨b, off, none⟩) bs.length cap) := hr.cell 0
  have c1 : w.cell? ⟨g, 1, none⟩ = some (.int .i64 (k : Int)) := hr.cell 1
  have c2 : w.cell? ⟨g, 2, none⟩ = some (.int .i64 0) := hr.cell 2
  have k1 : ¬ ((bs.length : Int) ≤ (k : Int)) := by omega
  have k2 : (k : Int) < (bs.length : Int) := by omega
  have f1 := hr.frozen 1
  clear hi hr hd hk hr'
  obtain rfl | rfl : c = 0 ∨ c = 1 := by omega
  · go_enter Try.func44, Try.ntmps44
    go_wp2_with fail
    go_region
    go_wp2_with fail
    go_region
    go_wp2_with fail
    go_ret
    exact ⟨rfl, HN.out, (Grew.of_below (· = g) (Below.refl _ w).drew.drew).trans (Grew.of_grown (grownBy_setCell w.drew.drew ⟨g, 1, none⟩ _)) (fun q _ h => by simpa using h)⟩
  · go_enter Try.func44, Try.ntmps44
    go_wp2_with fail
    go_region
    go_wp2_with fail
    go_region
    go_wp2_with fail
    go_ret
    exact ⟨rfl, HN.out, (Grew.of_below (· = g) (Below.refl _ w).drew.drew).trans (Grew.of_grown (grownBy_setCell w.drew.drew ⟨g, 1, none⟩ _)) (fun q _ h => by simpa using h)⟩
theorem rflag_s (w : World) (g B : Nat) (s : Sta) (hi : RI B w g s) : Calls Try.prog 44 #[.pointer (some ⟨g, 0, none⟩)] w fun r w' => r = .returned (.bool (sFlag s).1) ∧ RI B w' g (sFlag s).2 ∧ Grew w w' (· = g) := by
  obtain ⟨l, e⟩ := s
  obtain ⟨bs, k, h, hd⟩ := hi
  simp only at h hd
  unfold sFlag
  split
  · rename_i h0
    obtain rfl : e = 0 := h0
    cases l with
    | nil =>
      refine (rflag_none w g 83 bs k hd h).mono ?_
      rintro r w' ⟨rfl, h1, h2⟩
      exact ⟨rfl, ⟨bs, bs.length, h1, by simp [Wire.rflag]⟩, h2⟩
    | cons c r =>
      by_cases hc : 1 < c
      · refine (rflag_over w g 83 bs k c r hd hc h).mono ?_
        rintro r w' ⟨rfl, h1, h2⟩
        simp only [Wire.rflag, if_pos hc]
        exact ⟨trivial, ⟨bs, bs.length, h1, by simp⟩, h2⟩
      · refine (rflag_ok w g 83 bs k c r hd (by omega) h).mono ?_
        rintro r w' ⟨rfl, h1, h2⟩
        simp only [Wire.rflag, if_neg hc]
        refine ⟨trivial, ⟨bs, k + 1, h1, ?_⟩, h2⟩
        rw [← List.drop_drop, hd]
        rfl
  · rename_i h0
    refine (rflag_bad w g 83 bs k e h0 h).mono ?_
    rintro r w' ⟨rfl, rfl⟩
    exact ⟨rfl, ⟨bs, k, h, hd⟩, Grew.refl _ _⟩
end Go.Proofs.Ytiijlnlkhpneaaa.Nd
