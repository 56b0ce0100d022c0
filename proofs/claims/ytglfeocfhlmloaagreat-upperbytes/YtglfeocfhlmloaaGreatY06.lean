/-
  The walk of the reference's Num.
-/
import Derived.Test.YtglfeocfhlmloaaGreatY00
import Derived.Test.YtglfeocfhlmloaaGreatY01
import Derived.Test.YtglfeocfhlmloaaGreatY02
import Derived.Test.YtglfeocfhlmloaaGreatY03
import Derived.Test.YtglfeocfhlmloaaGreatY04
import Derived.Test.YtglfeocfhlmloaaGreatY05
namespace Go.Proofs.YtglfeocfhlmloaaGreat.Nd
open Go.RowKit
theorem rnumI_bad {B : Nat} (w : World) (g : Nat) (t : TypeId) (bs : List Nat) (k e : Nat) (he : e ≠ 0) (hi : RIs B w g t bs k e) :
    Calls Tryz.prog 32 #[.pointer (some ⟨g, 0, none⟩)] w fun r w' => r = .returned (.int .u64 0) ∧ w' = w := by
  obtain ⟨p, cap, b, off, hr, hsl, hne⟩ := hi.ex
  have c2 : w.cell? ⟨g, 2, none⟩ = some (.int .i64 (e : Int)) := hr.cell 2
  have k1 : ¬ ((e : Int) = 0) := by omega
  clear hi hr hsl hne
  go_enter Tryz.func32, Tryz.ntmps32
  go_wp2
  go_ret
  exact ⟨rfl, rfl⟩
set_option maxRecDepth 20000 in
set_option maxHeartbeats 2000000 in
set_option maxRecDepth 100000 in
theorem rnumI_any {B : Nat} (w : World) (g : Nat) (t : TypeId) (bs : List Nat) (k0 : Nat) (hi : RIs B w g t bs k0 0) :
    Calls Tryz.prog 32 #[.pointer (some ⟨g, 0, none⟩)] w fun r w' => r = .returned (.int .u64 ((Wire.rnum (bs.drop k0)).1 : Int)) ∧ (∃ k', bs.drop k' = (Wire.rnum (bs.drop k0)).2.1 ∧ RIs B w' g t bs k' (Wire.rnum (bs.drop k0)).2.2) ∧ Grew w w' (· = g) := by
  obtain ⟨p, cap, b, off, hr, hsl, hne⟩ := hi.ex
  have c2 : w.cell? ⟨g, 2, none⟩ = some (.int .i64 0) := hr.cell 2
  have HI := hid_in hi
  clear hi hr hsl hne
  obtain ⟨T, HT⟩ : ∃ T, Hid (Wire.rnum (bs.drop k0) = T) := ⟨_, rfl⟩
  rw [HT.out]
  go_enter Tryz.func32, Tryz.ntmps32
  go_wp2_with fail
  go_loopw [3, 4] (fun vn vk w' => ∃ (j acc q : Nat), j ≤ 9 ∧ vk = .int .i64 (j : Int) ∧ vn = .int .u64 (acc : Int) ∧ acc < 128 ^ j ∧ RIs B w' g t bs q 0 ∧ Wire.rnumF (10 - j) j acc (bs.drop q) = T ∧ Grew w w' (· = g)) (fun _ vk _ => 10 - (intOf vk).toNat)
  case atStart => exact ⟨0, 0, k0, by omega, rfl, rfl, by simp, HI.out, HT.out, Grew.refl _ _⟩
  case round =>
    clear HI HT c2
    obtain ⟨j, acc, q, hj, rfl, rfl, hacc, hi, hr, hg⟩ := hrel
    have HR := hid_in hr
    have HG := hid_in hg
    have HI := hid_in hi
    have hl := hi.len
    have hj9 : (j : Int) < 10 := by omega
    clear hr hg
    have h128 : 128 ^ j ≤ 9223372036854775808 := by
      have : (128 : Nat) ^ j ≤ 128 ^ 9 := Nat.pow_le_pow_right (by decide) hj
      simpa using this
    by_cases hend : bs.drop q = []
    · have hk : q = bs.length := by have := hi.le; simp at hend; omega
      have HRN : Hid (T = (0, [], 20)) := by
        show _ = _
        rw [← HR.out, hend, show 10 - j = (9 - j) + 1 by omega]; rfl
      obtain ⟨p, cap, b, off, hrow, hsl, hne⟩ := hi.ex
      have c0 : wr.cell? ⟨g, 0, none⟩ = some (.slice p bs.length cap) := hrow.cell 0
      have c1 : wr.cell? ⟨g, 1, none⟩ = some (.int .i64 (q : Int)) := hrow.cell 1
      have k1 : (bs.length : Int) ≤ (q : Int) := by omega
      clear hi hrow hsl hne hend hk hacc h128
      go_wp2_with fail
      go_region
      go_wp2_with fail
      refine (rbad_any wr.drew g t bs q 0 20 HI.out.drew).mono ?_
      rintro e1 w1 ⟨rfl, h1, h2, h3⟩
      have H1 := hid_in h1
      have H2 := hid_in h2
      clear h1 h2 h3 c0 c1
      go_wp2
      go_ret
      rw [HRN.out]
      refine ⟨rfl, ⟨bs.length, by simp, H1.out⟩, ?_⟩
      exact (HG.out.trans (Grew.of_below (· = g) (Below.refl _ wr).drew) (fun _ _ h => h)).trans (Grew.of_grown H2.out) (fun q _ h => by simpa using h)
    · obtain ⟨c, r, hd⟩ := List.exists_cons_of_ne_nil hend
      rw [hd] at HR
      obtain ⟨hk, hr', ⟨p, cap, b, off, hrow, rfl, hcell, hbg⟩, _, hc⟩ := ris_step hi hd
      have HN := hid_in (ris_step hi.drew.drew hd).2.2.2.1
      have HRD := hid_in hr'
      have c0 : wr.cell? ⟨g, 0, none⟩ = some (.slice (some ⟨b, off, none⟩) bs.length cap) := hrow.cell 0
      have c1 : wr.cell? ⟨g, 1, none⟩ = some (.int .i64 (q : Int)) := hrow.cell 1
      have k1 : ¬ ((bs.length : Int) ≤ (q : Int)) := by omega
      have k2 : (q : Int) < (bs.length : Int) := by omega
      have f1 := hrow.frozen 1
      have HGN : Hid (Grew w (wr.drew.drew.setCell ⟨g, 1, none⟩ (.int .i64 ((q + 1 : Nat) : Int))) (· = g)) := hid_in ((HG.out.trans (Grew.of_below (· = g) (Below.refl _ wr).drew.drew) (fun _ _ h => h)).trans (Grew.of_grown (grownBy_setCell wr.drew.drew ⟨g, 1, none⟩ _)) (fun q _ h => by simpa using h))
      clear hi hrow hd hk hr' hend
      have HACC := hid_in hacc
      clear hacc
      by_cases hbad : (c = 0 ∧ 0 < j) ∨ (1 < c ∧ j = 9)
      · have HRN : Hid (T = (0, [], 21)) := by
          show _ = _
          rw [← HR.out, show 10 - j = (9 - j) + 1 by omega]
          simp only [Wire.rnumF]
          rw [if_pos hbad]
        have hb3 : (c = 0 ∧ 0 < j ∧ j ≠ 9) ∨ (c = 0 ∧ j = 9) ∨ (1 < c ∧ j = 9) := by omega
        clear hbad
        rcases hb3 with ⟨rfl, hk0, hk9⟩ | ⟨rfl, rfl⟩ | ⟨hc1, rfl⟩
        · have k3 : (0 : Int) < (j : Int) := by omega
          have k4 : ¬ ((j : Int) = 9) := by omega
          go_wp2_with fail
          go_region
          go_wp2_with fail
          go_region
          go_wp2_with fail
          refine (rbad_any _ g t bs (q + 1) 0 21 HN.out).mono ?_
          rintro e1 w1 ⟨rfl, h1, h2, h3⟩
          have H1 := hid_in h1
          have H2 := hid_in h2
          clear h1 h2 h3 c0 c1 hcell
          go_wp2
          go_ret
          rw [HRN.out]
          exact ⟨rfl, ⟨bs.length, by simp, H1.out⟩, HGN.out.trans (Grew.of_grown H2.out) (fun q _ h => by simpa using h)⟩
        · go_wp2_with fail
          go_region
          go_wp2_with fail
          go_region
          go_wp2_with fail
          refine (rbad_any _ g t bs (q + 1) 0 21 HN.out).mono ?_
          rintro e1 w1 ⟨rfl, h1, h2, h3⟩
          have H1 := hid_in h1
          have H2 := hid_in h2
          clear h1 h2 h3 c0 c1 hcell
          go_wp2
          go_ret
          rw [HRN.out]
          exact ⟨rfl, ⟨bs.length, by simp, H1.out⟩, HGN.out.trans (Grew.of_grown H2.out) (fun q _ h => by simpa using h)⟩
        · have k3 : (1 : Int) < (c : Int) := by omega
          go_wp2_with fail
          go_region
          go_wp2_with fail
          go_region
          go_wp2_with fail
          refine (rbad_any _ g t bs (q + 1) 0 21 HN.out).mono ?_
          rintro e1 w1 ⟨rfl, h1, h2, h3⟩
          have H1 := hid_in h1
          have H2 := hid_in h2
          clear h1 h2 h3 c0 c1 hcell
          go_wp2
          go_ret
          rw [HRN.out]
          exact ⟨rfl, ⟨bs.length, by simp, H1.out⟩, HGN.out.trans (Grew.of_grown H2.out) (fun q _ h => by simpa using h)⟩
      · have hx : c % 128 * 128 ^ j < 18446744073709551616 := by
          rcases Nat.lt_or_eq_of_le hj with h | h
          · have h8 : (128 : Nat) ^ j ≤ 128 ^ 8 := Nat.pow_le_pow_right (by decide) (by omega)
            have : c % 128 * 128 ^ j ≤ 127 * 128 ^ 8 := Nat.mul_le_mul (by omega) h8
            have e8 : (128 : Nat) ^ 8 = 72057594037927936 := by decide
            omega
          · have hc1 : c % 128 ≤ 1 := by omega
            have : c % 128 * 128 ^ j ≤ 1 * 9223372036854775808 := Nat.mul_le_mul hc1 h128
            omega
        have hc0 : c = 0 ∧ j = 0 ∨ c ≠ 0 ∧ j = 0 ∨ c ≠ 0 ∧ 0 < j ∧ j ≠ 9 ∨ c = 1 ∧ j = 9 := by omega
        have HX := hid_in hx
        by_cases h128c : c < 128
        · have HRN : Hid (T = (acc + c % 128 * 128 ^ j, r, 0)) := by
            show _ = _
            rw [← HR.out, show 10 - j = (9 - j) + 1 by omega]
            simp only [Wire.rnumF]
            rw [if_neg hbad, if_pos h128c, show c % 128 = c by omega]
          have k5 : (c : Int) < 128 := by omega
          clear hbad hx
          have hor := hid_in (or_fin acc c j HACC.out HX.out (by have := HACC.out; omega))
          clear h128
          rcases hc0 with ⟨rfl, rfl⟩ | ⟨hc1, rfl⟩ | ⟨hc1, hk0, hk9⟩ | ⟨rfl, rfl⟩
          · have e0 : Hid (bits .or .u64 (acc : Int) 0 = ((acc + 0 % 128 * 128 ^ 0 : Nat) : Int)) := hor.out
            go_wp2_with fail
            go_region
            go_wp2_with fail
            go_region
            go_wp2_with fail
            go_ret
            rw [HRN.out, e0.out]
            exact ⟨rfl, ⟨q + 1, HRD.out, HN.out⟩, HGN.out⟩
          · have k3 : ¬ ((c : Int) = 0) := by omega
            have e0 : Hid (bits .or .u64 (acc : Int) ((c : Int) % 128) = ((acc + c % 128 * 128 ^ 0 : Nat) : Int)) := by
              show _ = _
              have e1 : IntKind.u64.wrap ((c : Int) % 128 * 2 ^ (7 * 0)) = (c : Int) % 128 := by rw [IntKind.wrap_u64]; simp; omega
              rw [← e1]; exact hor.out
            go_wp2_with fail
            go_region
            go_wp2_with fail
            go_region
            go_wp2_with fail
            go_ret
            rw [HRN.out, e0.out]
            exact ⟨rfl, ⟨q + 1, HRD.out, HN.out⟩, HGN.out⟩
          · have k3 : ¬ ((c : Int) = 0) := by omega
            have k4 : ¬ ((j : Int) = 9) := by omega
            have k6 : (0 : Int) < (j : Int) := by omega
            go_wp2_with fail
            go_region
            go_wp2_with fail
            go_region
            go_wp2_with fail
            go_ret
            rw [HRN.out, hor.out]
            exact ⟨rfl, ⟨q + 1, HRD.out, HN.out⟩, HGN.out⟩
          · have e0 : Hid (bits .or .u64 (acc : Int) 9223372036854775808 = ((acc + 1 % 128 * 128 ^ 9 : Nat) : Int)) := hor.out
            go_wp2_with fail
            go_region
            go_wp2_with fail
            go_region
            go_wp2_with fail
            go_ret
            rw [HRN.out, e0.out]
            exact ⟨rfl, ⟨q + 1, HRD.out, HN.out⟩, HGN.out⟩
        · have k1' : (1 : Int) < (c : Int) := by omega
          have k3 : ¬ ((c : Int) = 0) := by omega
          have k5 : ¬ ((c : Int) < 128) := by omega
          have HRN : Hid (Wire.rnumF (10 - (j + 1)) (j + 1) (acc + c % 128 * 128 ^ j) r = T) := by
            show _ = _
            rw [← HR.out, show 10 - j = (10 - (j + 1)) + 1 by omega]
            simp only [Wire.rnumF]
            rw [if_neg hbad, if_neg h128c]
          have HA : Hid (acc + c % 128 * 128 ^ j < 128 ^ (j + 1)) := by
            show _ < _
            have ha := HACC.out
            have : c % 128 * 128 ^ j ≤ 127 * 128 ^ j := Nat.mul_le_mul_right _ (by omega)
            rw [Nat.pow_succ]
            omega
          have hor := hid_in (or_fin acc c j HACC.out HX.out (by have := HACC.out; omega))
          have hj2 : j = 0 ∨ 0 < j ∧ j ≠ 9 := by omega
          clear hbad hx h128 hc0
          rcases hj2 with rfl | ⟨hk0, hk9⟩
          · have e0 : Hid (bits .or .u64 (acc : Int) ((c : Int) % 128) = ((acc + c % 128 * 128 ^ 0 : Nat) : Int)) := by
              show _ = _
              have e1 : IntKind.u64.wrap ((c : Int) % 128 * 2 ^ (7 * 0)) = (c : Int) % 128 := by rw [IntKind.wrap_u64]; simp; omega
              rw [← e1]; exact hor.out
            go_wp2_with fail
            go_region
            go_wp2_with fail
            go_region
            go_wp2_with fail
            rw [e0.out]
            refine ⟨⟨0 + 1, _, q + 1, by omega, by go_num, rfl, HA.out, HN.out, ?_, HGN.out⟩, by simp [intOf]⟩
            rw [HRD.out]; exact HRN.out
          · have k4 : ¬ ((j : Int) = 9) := by omega
            have k6 : (0 : Int) < (j : Int) := by omega
            go_wp2_with fail
            go_region
            go_wp2_with fail
            go_region
            go_wp2_with fail
            rw [hor.out]
            refine ⟨⟨j + 1, _, q + 1, by omega, by go_num, rfl, HA.out, HN.out, ?_, HGN.out⟩, by simp [intOf]; omega⟩
            rw [HRD.out]; exact HRN.out
end Go.Proofs.YtglfeocfhlmloaaGreat.Nd
