/-
  The walk of the reference's Flag.
-/
import Derived.Test.YtjaplfdcdokhfaaU6
namespace Go.Proofs.Ytjaplfdcdokhfaa
open Go.RowKit

theorem RIs.drew {w : World} {g : Nat} {t : TypeId} {bs : List Nat} {k e : Nat} (h : RIs w g t bs k e) : RIs w.drew g t bs k e := by
  obtain ⟨p, cap, b, off, hr, hsl, hne⟩ := h.ex
  exact ⟨⟨p, cap, b, off, hr.drew, ⟨hsl.lt, hsl.cap1, hsl.cap2, hsl.at_, hsl.src⟩, hne⟩, h.le⟩
set_option maxHeartbeats 400000 in
theorem rflag_none (w : World) (g : Nat) (t : TypeId) (bs : List Nat) (k : Nat) (hd : bs.drop k = []) (hi : RIs w g t bs k 0) :
    Calls Try.prog 46 #[.pointer (some ⟨g, 0, none⟩)] w fun r w' => r = .returned (.bool false) ∧ RIs w' g t bs bs.length 20 ∧ Grew w w' (· = g) := by
  have hk : k = bs.length := by have := hi.le; simp at hd; omega
  have hl := hi.len
  obtain ⟨p, cap, b, off, hr, hsl, hne⟩ := hi.ex
  have c0 : w.cell? ⟨g, 0, none⟩ = some (.slice p bs.length cap) := hr.cell 0
  have c1 : w.cell? ⟨g, 1, none⟩ = some (.int .i64 (k : Int)) := hr.cell 1
  have c2 : w.cell? ⟨g, 2, none⟩ = some (.int .i64 0) := hr.cell 2
  have k1 : (bs.length : Int) ≤ (k : Int) := by omega
  have HI := hid_in hi
  clear hi hr hsl hne hd hk
  go_enter Try.func46, Try.ntmps46
  go_wp2_with fail
  go_region
  go_wp2_with fail
  refine (rbad_any w.drew g t bs k 0 20 HI.out.drew).mono ?_
  rintro e1 w1 ⟨rfl, h1, h2, h3⟩
  have H1 := hid_in h1
  have H2 := hid_in h2
  clear h1 h2 h3 c0 c1 c2
  go_wp2
  go_ret
  refine ⟨rfl, H1.out, ?_⟩
  exact ((Grew.of_below (· = g) (Below.refl _ w).drew).trans (Grew.of_grown H2.out) (fun q _ h => by simpa using h))
set_option maxHeartbeats 1000000 in
theorem rflag_over (w : World) (g : Nat) (t : TypeId) (bs : List Nat) (k c : Nat) (r : List Nat) (hd : bs.drop k = c :: r) (hb : 1 < c) (hi : RIs w g t bs k 0) :
    Calls Try.prog 46 #[.pointer (some ⟨g, 0, none⟩)] w fun r w' => r = .returned (.bool false) ∧ RIs w' g t bs bs.length 21 ∧ Grew w w' (· = g) := by
  obtain ⟨hk, hr', ⟨p, cap, b, off, hr, rfl, hcell, hbg⟩, _, hc⟩ := ris_step hi hd
  have HN := hid_in (ris_step hi.drew.drew hd).2.2.2.1
  have hl := hi.len
  have c0 : w.cell? ⟨g, 0, none⟩ = some (.slice (some ⟨b, off, none⟩) bs.length cap) := hr.cell 0
  have c1 : w.cell? ⟨g, 1, none⟩ = some (.int .i64 (k : Int)) := hr.cell 1
  have c2 : w.cell? ⟨g, 2, none⟩ = some (.int .i64 0) := hr.cell 2
  have k1 : ¬ ((bs.length : Int) ≤ (k : Int)) := by omega
  have k2 : (k : Int) < (bs.length : Int) := by omega
  have f1 := hr.frozen 1
  clear hi hr hd hk hr'
  have k3 : (1 : Int) < (c : Int) := by omega
  go_enter Try.func46, Try.ntmps46
  go_wp2_with fail
  go_region
  go_wp2_with fail
  go_region
  go_wp2_with fail
  refine (rbad_any _ g t bs (k + 1) 0 21 HN.out).mono ?_
  rintro e1 w1 ⟨rfl, h1, h2, h3⟩
  have H1 := hid_in h1
  have H2 := hid_in h2
  clear h1 h2 h3 c0 c1 c2 hcell
  go_wp2
  go_ret
  refine ⟨rfl, H1.out, ?_⟩
  exact ((Grew.of_below (· = g) (Below.refl _ w).drew.drew).trans (Grew.of_grown (grownBy_setCell w.drew.drew ⟨g, 1, none⟩ _)) (fun q _ h => by simpa using h)).trans (Grew.of_grown H2.out) (fun q _ h => by simpa using h)
set_option maxHeartbeats 1000000 in
theorem rflag_ok (w : World) (g : Nat) (t : TypeId) (bs : List Nat) (k c : Nat) (r : List Nat) (hd : bs.drop k = c :: r) (hb : c ≤ 1) (hi : RIs w g t bs k 0) :
    Calls Try.prog 46 #[.pointer (some ⟨g, 0, none⟩)] w fun r w' => r = .returned (.bool (decide (c = 1))) ∧ RIs w' g t bs (k + 1) 0 ∧ Grew w w' (· = g) := by
  obtain ⟨hk, hr', ⟨p, cap, b, off, hr, rfl, hcell, hbg⟩, _, hc⟩ := ris_step hi hd
  have HN := hid_in (ris_step hi.drew.drew hd).2.2.2.1
  have hl := hi.len
  have c0 : w.cell? ⟨g, 0, none⟩ = some (.slice (some ⟨b, off, none⟩) bs.length cap) := hr.cell 0
  have c1 : w.cell? ⟨g, 1, none⟩ = some (.int .i64 (k : Int)) := hr.cell 1
  have c2 : w.cell? ⟨g, 2, none⟩ = some (.int .i64 0) := hr.cell 2
  have k1 : ¬ ((bs.length : Int) ≤ (k : Int)) := by omega
  have k2 : (k : Int) < (bs.length : Int) := by omega
  have f1 := hr.frozen 1
  clear hi hr hd hk hr'
  obtain rfl | rfl : c = 0 ∨ c = 1 := by omega
  · go_enter Try.func46, Try.ntmps46
    go_wp2_with fail
    go_region
    go_wp2_with fail
    go_region
    go_wp2_with fail
    go_ret
    exact ⟨rfl, HN.out, (Grew.of_below (· = g) (Below.refl _ w).drew.drew).trans (Grew.of_grown (grownBy_setCell w.drew.drew ⟨g, 1, none⟩ _)) (fun q _ h => by simpa using h)⟩
  · go_enter Try.func46, Try.ntmps46
    go_wp2_with fail
    go_region
    go_wp2_with fail
    go_region
    go_wp2_with fail
    go_ret
    exact ⟨rfl, HN.out, (Grew.of_below (· = g) (Below.refl _ w).drew.drew).trans (Grew.of_grown (grownBy_setCell w.drew.drew ⟨g, 1, none⟩ _)) (fun q _ h => by simpa using h)⟩
end Go.Proofs.Ytjaplfdcdokhfaa
