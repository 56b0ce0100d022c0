/-
  The walks of the reference's In: bad, Left, Flag. The walk of the reference's Flag. The walk of the reference's Num. The walk of the reference's Text. The reference's Text, all cases in one. The walk of the reference's Digest. Nodes as the document has them: when one is right, its bytes; slices of cells in the world. The walk of areItems. The walks of isRight and of node.Check.
-/
import Derived.Deep.RegionLaw
import Derived.Deep.DrawnRows
import Derived.Deep.Cut
import Derived.Laws.CopyOwn
import Derived.Deep.RegionHeld3
import Derived.Deep.CutRange
import Derived.Test.YtjlhjpooggkkoaaR00
import Derived.Test.YtjlhjpooggkkoaaR01
namespace Go.Proofs.Ytjlhjpooggkkoaa.Nd
open Go.RowKit
/-- the reference's In at block g reads the bytes bs, and stands at k; what was wrong is e -/
structure RIs (B : Nat) (w : World) (g : Nat) (t : TypeId) (bs : List Nat) (k e : Nat) : Prop where
  ex : ∃ p cap b off, Row w g [.slice p bs.length cap, .int .i64 (k : Int), .int .i64 (e : Int)] t ∧ Sl w p bs cap b off ∧ (0 < bs.length → b ≠ g ∧ b < B)
  le : k ≤ bs.length
theorem RIs.len {B : Nat} {w : World} {g : Nat} {t : TypeId} {bs : List Nat} {k e : Nat} (h : RIs B w g t bs k e) : bs.length ≤ 9223372036854775807 := by
  obtain ⟨p, cap, b, off, hr, hsl, hne⟩ := h.ex
  have := hsl.cap1
  have := hsl.cap2
  omega
theorem rbad_any {B : Nat} (w : World) (g : Nat) (t : TypeId) (bs : List Nat) (k e e' : Nat) (hi : RIs B w g t bs k e) :
    Calls Try.prog 55 #[.pointer (some ⟨g, 0, none⟩), .int .i64 (e' : Int)] w fun r w' => r = .returned (.tuple #[]) ∧ RIs B w' g t bs bs.length e' ∧ w.grownBy w' (some g) ∧ w'.heap.size = w.heap.size := by
  obtain ⟨p, cap, b, off, hr, hsl, hne⟩ := hi.ex
  have c0 : w.cell? ⟨g, 0, none⟩ = some (.slice p bs.length cap) := hr.cell 0
  have c1 : w.cell? ⟨g, 1, none⟩ = some (.int .i64 (k : Int)) := hr.cell 1
  have c2 : w.cell? ⟨g, 2, none⟩ = some (.int .i64 (e : Int)) := hr.cell 2
  have f1 := hr.frozen 1
  have f2 := hr.frozen 2
  have HR := hid_in hr
  have HSL := hid_in hsl
  have HNE := hid_in hne
  clear hi hr hsl hne
  go_enter Try.func55, Try.ntmps55
  go_wp2
  go_end0
  have hg := grownBy_trans (grownBy_setCell w ⟨g, 2, none⟩ (.int .i64 (e' : Int))) (grownBy_setCell _ ⟨g, 1, none⟩ (.int .i64 (bs.length : Int)))
  refine ⟨rfl, ⟨⟨p, cap, b, off, (HR.out.set_same 2 _).set_same 1 _, HSL.out.grown hg (fun h => by simpa using (HNE.out h).1), HNE.out⟩, Nat.le_refl _⟩, hg, by simp [World.setCell]⟩
theorem rleft_any {B : Nat} (w : World) (g : Nat) (t : TypeId) (bs : List Nat) (k e : Nat) (hi : RIs B w g t bs k e) :
    Calls Try.prog 41 #[.pointer (some ⟨g, 0, none⟩)] w fun r w' => r = .returned (.int .i64 ((bs.drop k).length : Int)) ∧ w' = w.drew := by
  obtain ⟨p, cap, b, off, hr, hsl, hne⟩ := hi.ex
  have hk := hi.le
  have hl := hi.len
  have c0 : w.cell? ⟨g, 0, none⟩ = some (.slice p bs.length cap) := hr.cell 0
  have c1 : w.cell? ⟨g, 1, none⟩ = some (.int .i64 (k : Int)) := hr.cell 1
  have HV : Hid (((bs.drop k).length : Int) = (bs.length : Int) - (k : Int)) := by show _ = _; rw [List.length_drop]; omega
  rw [HV.out]
  clear hi hr hsl hne HV
  go_enter Try.func41, Try.ntmps41
  go_wp2
  go_region
  go_wp2
  go_ret
  exact ⟨rfl, rfl⟩
/-- where the In stands before a byte that is there -/
theorem ris_step {B : Nat} {w : World} {g : Nat} {t : TypeId} {bs : List Nat} {k e : Nat} {c : Nat} {r : List Nat} (hi : RIs B w g t bs k e) (hc : bs.drop k = c :: r) :
    k < bs.length ∧ bs.drop (k + 1) = r ∧ (∃ p cap b off, Row w g [.slice p bs.length cap, .int .i64 (k : Int), .int .i64 (e : Int)] t ∧ p = some ⟨b, off, none⟩ ∧ w.cell? ⟨b, off + k, none⟩ = some (.int .u8 (c : Int)) ∧ b ≠ g) ∧ RIs B (w.setCell ⟨g, 1, none⟩ (.int .i64 ((k + 1 : Nat) : Int))) g t bs (k + 1) e ∧ c < 256 := by
  obtain ⟨p, cap, b, off, hr, hsl, hne⟩ := hi.ex
  have hk : k < bs.length := by
    have := congrArg List.length hc
    simp at this
    omega
  have hd := List.drop_eq_getElem_cons hk
  rw [hc] at hd
  have h1 : c = bs[k] := (List.cons.inj hd).1
  have h2 : r = bs.drop (k + 1) := (List.cons.inj hd).2
  have hg := grownBy_setCell w ⟨g, 1, none⟩ (.int .i64 ((k + 1 : Nat) : Int))
  refine ⟨hk, h2.symm, ⟨p, cap, b, off, hr, hsl.at_ (by omega), ?_, (hne (by omega)).1⟩, ⟨⟨p, cap, b, off, hr.set_same 1 _, hsl.grown hg (fun h => by simpa using (hne h).1), hne⟩, hk⟩, ?_⟩
  · rw [hsl.src k hk, h1]
    simp [u8v, hk]
  · rw [h1]; exact hsl.lt _ (List.getElem_mem hk)
end Go.Proofs.Ytjlhjpooggkkoaa.Nd
namespace Go.Proofs.Ytjlhjpooggkkoaa.Nd
open Go.RowKit
theorem RIs.drew {B : Nat} {w : World} {g : Nat} {t : TypeId} {bs : List Nat} {k e : Nat} (h : RIs B w g t bs k e) : RIs B w.drew g t bs k e := by
  obtain ⟨p, cap, b, off, hr, hsl, hne⟩ := h.ex
  exact ⟨⟨p, cap, b, off, hr.drew, ⟨hsl.lt, hsl.cap1, hsl.cap2, hsl.at_, hsl.src⟩, hne⟩, h.le⟩
end Go.Proofs.Ytjlhjpooggkkoaa.Nd
namespace Go.Proofs.Ytjlhjpooggkkoaa.Nd
open Go.RowKit
theorem rnumI_bad {B : Nat} (w : World) (g : Nat) (t : TypeId) (bs : List Nat) (k e : Nat) (he : e ≠ 0) (hi : RIs B w g t bs k e) :
    Calls Try.prog 49 #[.pointer (some ⟨g, 0, none⟩)] w fun r w' => r = .returned (.int .u64 0) ∧ w' = w := by
  obtain ⟨p, cap, b, off, hr, hsl, hne⟩ := hi.ex
  have c2 : w.cell? ⟨g, 2, none⟩ = some (.int .i64 (e : Int)) := hr.cell 2
  have k1 : ¬ ((e : Int) = 0) := by omega
  clear hi hr hsl hne
  go_enter Try.func49, Try.ntmps49
  go_wp2
  go_ret
  exact ⟨rfl, rfl⟩
set_option maxRecDepth 20000 in
set_option maxHeartbeats 2000000 in
set_option maxRecDepth 100000 in
theorem rnumI_any {B : Nat} (w : World) (g : Nat) (t : TypeId) (bs : List Nat) (k0 : Nat) (hi : RIs B w g t bs k0 0) :
    Calls Try.prog 49 #[.pointer (some ⟨g, 0, none⟩)] w fun r w' => r = .returned (.int .u64 ((Wire.rnum (bs.drop k0)).1 : Int)) ∧ (∃ k', bs.drop k' = (Wire.rnum (bs.drop k0)).2.1 ∧ RIs B w' g t bs k' (Wire.rnum (bs.drop k0)).2.2) ∧ Grew w w' (· = g) := by
  obtain ⟨p, cap, b, off, hr, hsl, hne⟩ := hi.ex
  have c2 : w.cell? ⟨g, 2, none⟩ = some (.int .i64 0) := hr.cell 2
  have HI := hid_in hi
  clear hi hr hsl hne
  obtain ⟨T, HT⟩ : ∃ T, Hid (Wire.rnum (bs.drop k0) = T) := ⟨_, rfl⟩
  rw [HT.out]
  go_enter Try.func49, Try.ntmps49
  go_wp2_with fail
  go_loopw [3, 4] (fun vn vk w' => ∃ (j acc q : Nat), j ≤ 9 ∧ vk = .int .i64 (j : Int) ∧ vn = .int .u64 (acc : Int) ∧ acc < 128 ^ j ∧ RIs B w' g t bs q 0 ∧ Wire.rnumF (10 - j) j acc (bs.drop q) = T ∧ Grew w w' (· = g)) (fun _ vk _ => 10 - (intOf vk).toNat)
  case atStart => exact ⟨0, 0, k0, by omega, rfl, rfl, by simp, HI.out, HT.out, Grew.refl _ _⟩
  case round =>
    clear HI HT c2
    obtain ⟨j, acc, q, hj, rfl, rfl, hacc, hi, hr, hg⟩ := hrel
    have HR := hid_in hr
    have HG := hid_in hg
    have HI := hid_in hi
    have hl := hi.len
    have hj9 : (j : Int) < 10 := by omega
    clear hr hg
    have h128 : 128 ^ j ≤ 9223372036854775808 := by
      have : (128 : Nat) ^ j ≤ 128 ^ 9 := Nat.pow_le_pow_right (by decide) hj
      simpa using this
    by_cases hend : bs.drop q = []
    · have hk : q = bs.length := by have := hi.le; simp at hend; omega
      have HRN : Hid (T = (0, [], 20)) := by
        show _ = _
        rw [← HR.out, hend, show 10 - j = (9 - j) + 1 by omega]; rfl
      obtain ⟨p, cap, b, off, hrow, hsl, hne⟩ := hi.ex
      have c0 : wr.cell? ⟨g, 0, none⟩ = some (.slice p bs.length cap) := hrow.cell 0
      have c1 : wr.cell? ⟨g, 1, none⟩ = some (.int .i64 (q : Int)) := hrow.cell 1
      have k1 : (bs.length : Int) ≤ (q : Int) := by omega
      clear hi hrow hsl hne hend hk hacc h128
      go_wp2_with fail
      go_region
      go_wp2_with fail
      refine (rbad_any wr.drew g t bs q 0 20 HI.out.drew).mono ?_
      rintro e1 w1 ⟨rfl, h1, h2, h3⟩
      have H1 := hid_in h1
      have H2 := hid_in h2
      clear h1 h2 h3 c0 c1
      go_wp2
      go_ret
      rw [HRN.out]
      refine ⟨rfl, ⟨bs.length, by simp, H1.out⟩, ?_⟩
      exact (HG.out.trans (Grew.of_below (· = g) (Below.refl _ wr).drew) (fun _ _ h => h)).trans (Grew.of_grown H2.out) (fun q _ h => by simpa using h)
    · obtain ⟨c, r, hd⟩ := List.exists_cons_of_ne_nil hend
      rw [hd] at HR
      obtain ⟨hk, hr', ⟨p, cap, b, off, hrow, rfl, hcell, hbg⟩, _, hc⟩ := ris_step hi hd
      have HN := hid_in (ris_step hi.drew.drew hd).2.2.2.1
      have HRD := hid_in hr'
      have c0 : wr.cell? ⟨g, 0, none⟩ = some (.slice (some ⟨b, off, none⟩) bs.length cap) := hrow.cell 0
      have c1 : wr.cell? ⟨g, 1, none⟩ = some (.int .i64 (q : Int)) := hrow.cell 1
      have k1 : ¬ ((bs.length : Int) ≤ (q : Int)) := by omega
      have k2 : (q : Int) < (bs.length : Int) := by omega
      have f1 := hrow.frozen 1
      have HGN : Hid (Grew w (wr.drew.drew.setCell ⟨g, 1, none⟩ (.int .i64 ((q + 1 : Nat) : Int))) (· = g)) := hid_in ((HG.out.trans (Grew.of_below (· = g) (Below.refl _ wr).drew.drew) (fun _ _ h => h)).trans (Grew.of_grown (grownBy_setCell wr.drew.drew ⟨g, 1, none⟩ _)) (fun q _ h => by simpa using h))
      clear hi hrow hd hk hr' hend
      have HACC := hid_in hacc
      clear hacc
      by_cases hbad : (c = 0 ∧ 0 < j) ∨ (1 < c ∧ j = 9)
      · have HRN : Hid (T = (0, [], 21)) := by
          show _ = _
          rw [← HR.out, show 10 - j = (9 - j) + 1 by omega]
          simp only [Wire.rnumF]
          rw [if_pos hbad]
        have hb3 : (c = 0 ∧ 0 < j ∧ j ≠ 9) ∨ (c = 0 ∧ j = 9) ∨ (1 < c ∧ j = 9) := by omega
        clear hbad
        rcases hb3 with ⟨rfl, hk0, hk9⟩ | ⟨rfl, rfl⟩ | ⟨hc1, rfl⟩
        · have k3 : (0 : Int) < (j : Int) := by omega
          have k4 : ¬ ((j : Int) = 9) := by omega
          go_wp2_with fail
          go_region
          go_wp2_with fail
          go_region
          go_wp2_with fail
          refine (rbad_any _ g t bs (q + 1) 0 21 HN.out).mono ?_
          rintro e1 w1 ⟨rfl, h1, h2, h3⟩
          have H1 := hid_in h1
          have H2 := hid_in h2
          clear h1 h2 h3 c0 c1 hcell
          go_wp2
          go_ret
          rw [HRN.out]
          exact ⟨rfl, ⟨bs.length, by simp, H1.out⟩, HGN.out.trans (Grew.of_grown H2.out) (fun q _ h => by simpa using h)⟩
        · go_wp2_with fail
          go_region
          go_wp2_with fail
          go_region
          go_wp2_with fail
          refine (rbad_any _ g t bs (q + 1) 0 21 HN.out).mono ?_
          rintro e1 w1 ⟨rfl, h1, h2, h3⟩
          have H1 := hid_in h1
          have H2 := hid_in h2
          clear h1 h2 h3 c0 c1 hcell
          go_wp2
          go_ret
          rw [HRN.out]
          exact ⟨rfl, ⟨bs.length, by simp, H1.out⟩, HGN.out.trans (Grew.of_grown H2.out) (fun q _ h => by simpa using h)⟩
        · have k3 : (1 : Int) < (c : Int) := by omega
          go_wp2_with fail
          go_region
          go_wp2_with fail
          go_region
          go_wp2_with fail
          refine (rbad_any _ g t bs (q + 1) 0 21 HN.out).mono ?_
          rintro e1 w1 ⟨rfl, h1, h2, h3⟩
          have H1 := hid_in h1
          have H2 := hid_in h2
          clear h1 h2 h3 c0 c1 hcell
          go_wp2
          go_ret
          rw [HRN.out]
          exact ⟨rfl, ⟨bs.length, by simp, H1.out⟩, HGN.out.trans (Grew.of_grown H2.out) (fun q _ h => by simpa using h)⟩
      · have hx : c % 128 * 128 ^ j < 18446744073709551616 := by
          rcases Nat.lt_or_eq_of_le hj with h | h
          · have h8 : (128 : Nat) ^ j ≤ 128 ^ 8 := Nat.pow_le_pow_right (by decide) (by omega)
            have : c % 128 * 128 ^ j ≤ 127 * 128 ^ 8 := Nat.mul_le_mul (by omega) h8
            have e8 : (128 : Nat) ^ 8 = 72057594037927936 := by decide
            omega
          · have hc1 : c % 128 ≤ 1 := by omega
            have : c % 128 * 128 ^ j ≤ 1 * 9223372036854775808 := Nat.mul_le_mul hc1 h128
            omega
        have hc0 : c = 0 ∧ j = 0 ∨ c ≠ 0 ∧ j = 0 ∨ c ≠ 0 ∧ 0 < j ∧ j ≠ 9 ∨ c = 1 ∧ j = 9 := by omega
        have HX := hid_in hx
        by_cases h128c : c < 128
        · have HRN : Hid (T = (acc + c % 128 * 128 ^ j, r, 0)) := by
            show _ = _
            rw [← HR.out, show 10 - j = (9 - j) + 1 by omega]
            simp only [Wire.rnumF]
            rw [if_neg hbad, if_pos h128c, show c % 128 = c by omega]
          have k5 : (c : Int) < 128 := by omega
          clear hbad hx
          have hor := hid_in (or_fin acc c j HACC.out HX.out (by have := HACC.out; omega))
          clear h128
          rcases hc0 with ⟨rfl, rfl⟩ | ⟨hc1, rfl⟩ | ⟨hc1, hk0, hk9⟩ | ⟨rfl, rfl⟩
          · have e0 : Hid (bits .or .u64 (acc : Int) 0 = ((acc + 0 % 128 * 128 ^ 0 : Nat) : Int)) := hor.out
            go_wp2_with fail
            go_region
            go_wp2_with fail
            go_region
            go_wp2_with fail
            go_ret
            rw [HRN.out, e0.out]
            exact ⟨rfl, ⟨q + 1, HRD.out, HN.out⟩, HGN.out⟩
          · have k3 : ¬ ((c : Int) = 0) := by omega
            have e0 : Hid (bits .or .u64 (acc : Int) ((c : Int) % 128) = ((acc + c % 128 * 128 ^ 0 : Nat) : Int)) := by
              show _ = _
              have e1 : IntKind.u64.wrap ((c : Int) % 128 * 2 ^ (7 * 0)) = (c : Int) % 128 := by rw [IntKind.wrap_u64]; simp; omega
              rw [← e1]; exact hor.out
            go_wp2_with fail
            go_region
            go_wp2_with fail
            go_region
            go_wp2_with fail
            go_ret
            rw [HRN.out, e0.out]
            exact ⟨rfl, ⟨q + 1, HRD.out, HN.out⟩, HGN.out⟩
          · have k3 : ¬ ((c : Int) = 0) := by omega
            have k4 : ¬ ((j : Int) = 9) := by omega
            have k6 : (0 : Int) < (j : Int) := by omega
            go_wp2_with fail
            go_region
            go_wp2_with fail
            go_region
            go_wp2_with fail
            go_ret
            rw [HRN.out, hor.out]
            exact ⟨rfl, ⟨q + 1, HRD.out, HN.out⟩, HGN.out⟩
          · have e0 : Hid (bits .or .u64 (acc : Int) 9223372036854775808 = ((acc + 1 % 128 * 128 ^ 9 : Nat) : Int)) := hor.out
            go_wp2_with fail
            go_region
            go_wp2_with fail
            go_region
            go_wp2_with fail
            go_ret
            rw [HRN.out, e0.out]
            exact ⟨rfl, ⟨q + 1, HRD.out, HN.out⟩, HGN.out⟩
        · have k1' : (1 : Int) < (c : Int) := by omega
          have k3 : ¬ ((c : Int) = 0) := by omega
          have k5 : ¬ ((c : Int) < 128) := by omega
          have HRN : Hid (Wire.rnumF (10 - (j + 1)) (j + 1) (acc + c % 128 * 128 ^ j) r = T) := by
            show _ = _
            rw [← HR.out, show 10 - j = (10 - (j + 1)) + 1 by omega]
            simp only [Wire.rnumF]
            rw [if_neg hbad, if_neg h128c]
          have HA : Hid (acc + c % 128 * 128 ^ j < 128 ^ (j + 1)) := by
            show _ < _
            have ha := HACC.out
            have : c % 128 * 128 ^ j ≤ 127 * 128 ^ j := Nat.mul_le_mul_right _ (by omega)
            rw [Nat.pow_succ]
            omega
          have hor := hid_in (or_fin acc c j HACC.out HX.out (by have := HACC.out; omega))
          have hj2 : j = 0 ∨ 0 < j ∧ j ≠ 9 := by omega
          clear hbad hx h128 hc0
          rcases hj2 with rfl | ⟨hk0, hk9⟩
          · have e0 : Hid (bits .or .u64 (acc : Int) ((c : Int) % 128) = ((acc + c % 128 * 128 ^ 0 : Nat) : Int)) := by
              show _ = _
              have e1 : IntKind.u64.wrap ((c : Int) % 128 * 2 ^ (7 * 0)) = (c : Int) % 128 := by rw [IntKind.wrap_u64]; simp; omega
              rw [← e1]; exact hor.out
            go_wp2_with fail
            go_region
            go_wp2_with fail
            go_region
            go_wp2_with fail
            rw [e0.out]
            refine ⟨⟨0 + 1, _, q + 1, by omega, by go_num, rfl, HA.out, HN.out, ?_, HGN.out⟩, by simp [intOf]⟩
            rw [HRD.out]; exact HRN.out
          · have k4 : ¬ ((j : Int) = 9) := by omega
            have k6 : (0 : Int) < (j : Int) := by omega
            go_wp2_with fail
            go_region
            go_wp2_with fail
            go_region
            go_wp2_with fail
            rw [hor.out]
            refine ⟨⟨j + 1, _, q + 1, by omega, by go_num, rfl, HA.out, HN.out, ?_, HGN.out⟩, by simp [intOf]; omega⟩
            rw [HRD.out]; exact HRN.out
end Go.Proofs.Ytjlhjpooggkkoaa.Nd
namespace Go.Proofs.Ytjlhjpooggkkoaa.Nd
open Go.RowKit
theorem rtextI_bad {B : Nat} (w : World) (g : Nat) (t : TypeId) (bs : List Nat) (k e : Nat) (most : Int) (he : e ≠ 0) (hi : RIs B w g t bs k e) :
    Calls Try.prog 40 #[.pointer (some ⟨g, 0, none⟩), .int .i64 most] w fun r w' => r = .returned (.string ByteArray.empty) ∧ w' = w := by
  have HC := hid_in (rnumI_bad w g t bs k e he hi)
  obtain ⟨p, cap, b, off, hr, hsl, hne⟩ := hi.ex
  have c2 : w.cell? ⟨g, 2, none⟩ = some (.int .i64 (e : Int)) := hr.cell 2
  have k1 : ¬ ((e : Int) = 0) := by omega
  clear hi hr hsl hne
  go_enter Try.func40, Try.ntmps40
  go_wp2_with fail
  refine HC.out.mono ?_
  rintro e1 w1 ⟨rfl, rfl⟩
  go_wp2
  go_ret
  exact ⟨rfl, rfl⟩
theorem slice_win (b o L C k n : Nat) (p : Option Addr) (h1 : k + n ≤ C) : ∃ q, (p = some ⟨b, o, none⟩ → 0 < n → q = some ⟨b, o + k, none⟩) ∧ ∀ w, (Instr.slice 32 (.slice p L C) (some (.int .i64 (k : Int))) (some (.int .i64 ((k : Int) + (n : Int)))) none).run Try.prog w = .ok (.slice q n (C - k)) w := by
  have ht : Try.prog.underlying 32 = some (.slice (Try.prog.elem 32)) := by kernel_rfl
  have he : Try.prog.elem 32 = 5 := by kernel_rfl
  refine ⟨if C = k then p else p.map (·.add (k * 1)), fun h0 hn => by subst h0; rw [if_neg (by omega)]; simp [Addr.add], fun w => ?_⟩
  have hsz : (sizeOf 5).run Try.prog w = .ok 1 w := by kernel_rfl
  rw [run_slice_lh w 32 p L C ht .i64 .i64 _ _ (by omega) (by omega) (by omega), he, hsz]
  have e1 : ((k : Int) + (n : Int)).toNat = k + n := by omega
  simp [sliced, Result.andThen, e1]
theorem conv_win {w : World} {p q : Option Addr} {bs : List Nat} {cap b off : Nat} (k n : Nat) (hsl : Sl w p bs cap b off) (hk : k + n ≤ bs.length) (hq : p = some ⟨b, off, none⟩ → 0 < n → q = some ⟨b, off + k, none⟩) :
    (convert 32 9 (.slice q n (cap - k))).run Try.prog w = .ok (.string (str ((bs.drop k).take n))) w := by
  rcases Nat.eq_zero_or_pos n with rfl | hn
  · rw [List.take_zero]; exact conv_none _ w q
  · have hc1 := hsl.cap1
    have hc2 := hsl.cap2
    obtain rfl := hsl.at_ (by omega)
    obtain rfl := hq rfl hn
    have hp := hsl.part k n (cap - k) (by omega) (by omega) (by omega)
    have hl : ((bs.drop k).take n).length = n := by rw [List.length_take, List.length_drop]; omega
    have := conv_sl hp
    rw [hl] at this
    exact this
theorem ris_move {B : Nat} {w : World} {g : Nat} {t : TypeId} {bs : List Nat} {k e : Nat} (k' : Nat) (hi : RIs B w g t bs k e) (hk : k' ≤ bs.length) : RIs B (w.setCell ⟨g, 1, none⟩ (.int .i64 (k' : Int))) g t bs k' e := by
  obtain ⟨p, cap, b, off, hr, hsl, hne⟩ := hi.ex
  exact ⟨⟨p, cap, b, off, hr.set_same 1 _, hsl.grown (grownBy_setCell w ⟨g, 1, none⟩ _) (fun h => by simpa using (hne h).1), hne⟩, hk⟩
set_option maxRecDepth 20000 in
set_option maxHeartbeats 400000 in
/-- a text whose length stands there, and that is short enough -/
theorem rtextI_some {B : Nat} (w : World) (g : Nat) (t : TypeId) (bs : List Nat) (k1 n M : Nat) (hM : M ≤ 9223372036854775807) (hn : n ≤ M)
    (R : World → Prop) (hc : Calls Try.prog 49 #[.pointer (some ⟨g, 0, none⟩)] w fun r w' => r = .returned (.int .u64 (n : Int)) ∧ RIs B w' g t bs k1 0 ∧ R w') (hs : n ≤ (bs.drop k1).length) :
    Calls Try.prog 40 #[.pointer (some ⟨g, 0, none⟩), .int .i64 (M : Int)] w fun r w' => r = .returned (.string (str ((bs.drop k1).take n))) ∧ ∃ w1, R w1 ∧ RIs B w' g t bs (k1 + n) 0 ∧ Grew w1 w' (· = g) := by
  have HC := hid_in hc
  clear hc
  go_enter Try.func40, Try.ntmps40
  go_wp2_with fail
  refine HC.out.mono ?_
  rintro e1 w1 ⟨rfl, hi, hR⟩
  have HR := hid_in hR
  have HI := hid_in hi
  obtain ⟨p, cap, b, off, hr, hsl, hne⟩ := hi.ex
  have hlb := hi.len
  have hle := hi.le
  have c0 : w1.cell? ⟨g, 0, none⟩ = some (.slice p bs.length cap) := hr.cell 0
  have c1 : w1.cell? ⟨g, 1, none⟩ = some (.int .i64 (k1 : Int)) := hr.cell 1
  have c2 : w1.cell? ⟨g, 2, none⟩ = some (.int .i64 0) := hr.cell 2
  have f1 := hr.frozen 1
  have k2 : ¬ ((M : Int) < (n : Int)) := by omega
  have k3 : (0 : Int) ≤ (M : Int) := by omega
  have HL := hid_in (rleft_any w1 g t bs k1 0 hi)
  have hsn : k1 + n ≤ bs.length := by rw [List.length_drop] at hs; omega
  have hcap := hsl.cap1
  have HD := hid_in hs
  obtain ⟨q, hq, hsw⟩ := slice_win b off bs.length cap k1 n p (by omega)
  have HSL : Sl w1.drew p bs cap b off := ⟨hsl.lt, hsl.cap1, hsl.cap2, hsl.at_, hsl.src⟩
  have HSL2 : Sl w1.drew.drew p bs cap b off := ⟨hsl.lt, hsl.cap1, hsl.cap2, hsl.at_, hsl.src⟩
  have hcv := conv_win k1 n HSL hsn hq
  have hcv2 := conv_win k1 n HSL2 hsn hq
  obtain ⟨S, HS⟩ : ∃ S, Hid (str ((bs.drop k1).take n) = S) := ⟨_, rfl⟩
  obtain ⟨L, HLL⟩ : ∃ L, Hid ((bs.drop k1).length = L) := ⟨_, rfl⟩
  rw [HS.out] at hcv hcv2
  rw [HLL.out] at HL hs
  have k4 : ¬ ((L : Int) < (n : Int)) := by omega
  have hLb : L ≤ 9223372036854775807 := by have := HLL.out; rw [List.length_drop] at this; omega
  have hkn : (k1 : Int) + (n : Int) ≤ 9223372036854775807 := by omega
  have HQ := hid_in hq
  clear hi hr hsl hne hR HSL HSL2 hq hcap
  go_wp2_with fail
  refine HL.out.mono ?_
  rintro e2 w2 ⟨rfl, rfl⟩
  go_wp2_with fail
  go_region
  go_wp2_with fail
  go_ret
  rw [HS.out]
  exact ⟨rfl, w1, HR.out, ris_move (k1 + n) HI.out.drew.drew hsn, (Grew.of_below (· = g) (Below.refl _ w1).drew.drew).trans (Grew.of_grown (grownBy_setCell w1.drew.drew ⟨g, 1, none⟩ _)) (fun q _ h => by simpa using h)⟩
set_option maxRecDepth 20000 in
set_option maxHeartbeats 400000 in
/-- no byte is asked for, and none may be -/
theorem rtextI_none {B : Nat} (w : World) (g : Nat) (t : TypeId) (bs : List Nat) (k1 : Nat) (most : Int) (hm : most < 0)
    (R : World → Prop) (hc : Calls Try.prog 49 #[.pointer (some ⟨g, 0, none⟩)] w fun r w' => r = .returned (.int .u64 0) ∧ RIs B w' g t bs k1 0 ∧ R w') :
    Calls Try.prog 40 #[.pointer (some ⟨g, 0, none⟩), .int .i64 most] w fun r w' => r = .returned (.string ByteArray.empty) ∧ ∃ w1, R w1 ∧ RIs B w' g t bs k1 0 ∧ Grew w1 w' (· = g) := by
  have HC := hid_in hc
  clear hc
  go_enter Try.func40, Try.ntmps40
  go_wp2_with fail
  refine HC.out.mono ?_
  rintro e1 w1 ⟨rfl, hi, hR⟩
  have HR := hid_in hR
  have HI := hid_in hi
  obtain ⟨p, cap, b, off, hr, hsl, hne⟩ := hi.ex
  have hlb := hi.len
  have hle := hi.le
  have c0 : w1.cell? ⟨g, 0, none⟩ = some (.slice p bs.length cap) := hr.cell 0
  have c1 : w1.cell? ⟨g, 1, none⟩ = some (.int .i64 (k1 : Int)) := hr.cell 1
  have c2 : w1.cell? ⟨g, 2, none⟩ = some (.int .i64 0) := hr.cell 2
  have f1 := hr.frozen 1
  have HL := hid_in (rleft_any w1 g t bs k1 0 hi)
  have hcap := hsl.cap1
  obtain ⟨q, _, hsw0⟩ := slice_win b off bs.length cap k1 0 p (by omega)
  have hsw : ∀ w, (Instr.slice 32 (.slice p bs.length cap) (some (.int .i64 (k1 : Int))) (some (.int .i64 (k1 : Int))) none).run Try.prog w = .ok (.slice q 0 (cap - k1)) w := by
    intro w
    have := hsw0 w
    rw [show ((k1 : Int) + ((0 : Nat) : Int)) = (k1 : Int) by omega] at this
    exact this
  have hcv := conv_none (cap - k1) w1.drew q
  have hcv2 := conv_none (cap - k1) w1.drew.drew q
  obtain ⟨L, HLL⟩ : ∃ L, Hid ((bs.drop k1).length = L) := ⟨_, rfl⟩
  rw [HLL.out] at HL
  have hLb : L ≤ 9223372036854775807 := by have := HLL.out; rw [List.length_drop] at this; omega
  have HLE := hid_in hle
  clear hi hr hsl hne hR hcap hsw0
  go_wp2_with fail
  refine HL.out.mono ?_
  rintro e2 w2 ⟨rfl, rfl⟩
  go_wp2_with fail
  go_region
  go_wp2_with fail
  go_ret
  exact ⟨rfl, w1, HR.out, ris_move k1 HI.out.drew.drew HLE.out, (Grew.of_below (· = g) (Below.refl _ w1).drew.drew).trans (Grew.of_grown (grownBy_setCell w1.drew.drew ⟨g, 1, none⟩ _)) (fun q _ h => by simpa using h)⟩
set_option maxRecDepth 20000 in
set_option maxHeartbeats 400000 in
theorem rtextI_err {B : Nat} (w : World) (g : Nat) (t : TypeId) (bs : List Nat) (k1 e : Nat) (most : Int) (he : e ≠ 0) (R : World → Prop) (hc : Calls Try.prog 49 #[.pointer (some ⟨g, 0, none⟩)] w fun r w' => r = .returned (.int .u64 0) ∧ RIs B w' g t bs k1 e ∧ R w') :
    Calls Try.prog 40 #[.pointer (some ⟨g, 0, none⟩), .int .i64 most] w fun r w' => r = .returned (.string ByteArray.empty) ∧ RIs B w' g t bs k1 e ∧ R w' := by
  have HC := hid_in hc
  clear hc
  have k3 : ¬ ((e : Int) = 0) := by omega
  go_enter Try.func40, Try.ntmps40
  go_wp2_with fail
  refine HC.out.mono ?_
  rintro e1 w1 ⟨rfl, hi, hR⟩
  have HR := hid_in hR
  have HI := hid_in hi
  obtain ⟨p, cap, b, off, hr, hsl, hne⟩ := hi.ex
  have c2 : w1.cell? ⟨g, 2, none⟩ = some (.int .i64 (e : Int)) := hr.cell 2
  clear hi hr hsl hne hR
  go_wp2
  go_ret
  exact ⟨rfl, HI.out, HR.out⟩
set_option maxRecDepth 20000 in
set_option maxHeartbeats 400000 in
theorem rtextI_long {B : Nat} (w : World) (g : Nat) (t : TypeId) (bs : List Nat) (k1 n : Nat) (most : Int) (hm1 : -9223372036854775808 ≤ most) (hm2 : most ≤ 9223372036854775807) (hn : most.toNat < n) (hn2 : n < 18446744073709551616) (R : World → Prop) (hc : Calls Try.prog 49 #[.pointer (some ⟨g, 0, none⟩)] w fun r w' => r = .returned (.int .u64 (n : Int)) ∧ RIs B w' g t bs k1 0 ∧ R w') :
    Calls Try.prog 40 #[.pointer (some ⟨g, 0, none⟩), .int .i64 most] w fun r w' => r = .returned (.string ByteArray.empty) ∧ ∃ w1, R w1 ∧ RIs B w' g t bs bs.length 2 ∧ Grew w1 w' (· = g) := by
  have HC := hid_in hc
  clear hc
  go_enter Try.func40, Try.ntmps40
  go_wp2_with fail
  refine HC.out.mono ?_
  rintro e1 w1 ⟨rfl, hi, hR⟩
  have HR := hid_in hR
  have HB := hid_in (rbad_any w1 g t bs k1 0 2 hi)
  obtain ⟨p, cap, b, off, hr, hsl, hne⟩ := hi.ex
  have c2 : w1.cell? ⟨g, 2, none⟩ = some (.int .i64 0) := hr.cell 2
  clear hi hr hsl hne hR
  rcases (show most < 0 ∨ 0 ≤ most by omega) with h0 | h0
  · have k4 : (0 : Int) < (n : Int) := by omega
    go_wp2_with fail
    refine HB.out.mono ?_
    rintro e2 w2 ⟨rfl, h1, h2, h3⟩
    have H1 := hid_in h1
    have H2 := hid_in h2
    clear h1 h2 h3 c2
    go_wp2
    go_ret
    exact ⟨rfl, w1, HR.out, H1.out, (Grew.of_grown H2.out).mono (fun q h => by simpa using h)⟩
  · obtain ⟨M, rfl⟩ := Int.eq_ofNat_of_zero_le h0
    have k4 : (M : Int) < (n : Int) := by omega
    go_wp2_with fail
    refine HB.out.mono ?_
    rintro e2 w2 ⟨rfl, h1, h2, h3⟩
    have H1 := hid_in h1
    have H2 := hid_in h2
    clear h1 h2 h3 c2
    go_wp2
    go_ret
    exact ⟨rfl, w1, HR.out, H1.out, (Grew.of_grown H2.out).mono (fun q h => by simpa using h)⟩
set_option maxRecDepth 20000 in
set_option maxHeartbeats 400000 in
theorem rtextI_short {B : Nat} (w : World) (g : Nat) (t : TypeId) (bs : List Nat) (k1 n M : Nat) (hM : M ≤ 9223372036854775807) (hn : n ≤ M) (hs : (bs.drop k1).length < n) (R : World → Prop) (hc : Calls Try.prog 49 #[.pointer (some ⟨g, 0, none⟩)] w fun r w' => r = .returned (.int .u64 (n : Int)) ∧ RIs B w' g t bs k1 0 ∧ R w') :
    Calls Try.prog 40 #[.pointer (some ⟨g, 0, none⟩), .int .i64 (M : Int)] w fun r w' => r = .returned (.string ByteArray.empty) ∧ ∃ w1, R w1 ∧ RIs B w' g t bs bs.length 20 ∧ Grew w1 w' (· = g) := by
  have HC := hid_in hc
  clear hc
  go_enter Try.func40, Try.ntmps40
  go_wp2_with fail
  refine HC.out.mono ?_
  rintro e1 w1 ⟨rfl, hi, hR⟩
  have HR := hid_in hR
  have HB := hid_in (rbad_any w1.drew g t bs k1 0 20 hi.drew)
  have HL := hid_in (rleft_any w1 g t bs k1 0 hi)
  obtain ⟨p, cap, b, off, hr, hsl, hne⟩ := hi.ex
  have c2 : w1.cell? ⟨g, 2, none⟩ = some (.int .i64 0) := hr.cell 2
  have k2 : ¬ ((M : Int) < (n : Int)) := by omega
  have k3 : (0 : Int) ≤ (M : Int) := by omega
  obtain ⟨L, HLL⟩ : ∃ L, Hid ((bs.drop k1).length = L) := ⟨_, rfl⟩
  rw [HLL.out] at HL hs
  have k4 : (L : Int) < (n : Int) := by omega
  clear hi hr hsl hne hR
  go_wp2_with fail
  refine HL.out.mono ?_
  rintro e2 w2 ⟨rfl, rfl⟩
  go_wp2_with fail
  refine HB.out.mono ?_
  rintro e2 w2 ⟨rfl, h1, h2, h3⟩
  have H1 := hid_in h1
  have H2 := hid_in h2
  clear h1 h2 h3 c2
  go_wp2
  go_ret
  exact ⟨rfl, w1, HR.out, H1.out, (Grew.of_below (· = g) (Below.refl _ w1).drew).trans (Grew.of_grown H2.out) (fun q _ h => by simpa using h)⟩
end Go.Proofs.Ytjlhjpooggkkoaa.Nd
namespace Go.Proofs.Ytjlhjpooggkkoaa.Nd
open Go.RowKit
theorem rtextI_any {B : Nat} (w : World) (g : Nat) (t : TypeId) (bs : List Nat) (k0 : Nat) (most : Int) (hm1 : -9223372036854775808 ≤ most) (hm2 : most ≤ 9223372036854775807) (hi : RIs B w g t bs k0 0) :
    Calls Try.prog 40 #[.pointer (some ⟨g, 0, none⟩), .int .i64 most] w fun r w' => r = .returned (.string (str (Wire.rtext most (bs.drop k0)).1)) ∧ (∃ k', bs.drop k' = (Wire.rtext most (bs.drop k0)).2.1 ∧ RIs B w' g t bs k' (Wire.rtext most (bs.drop k0)).2.2) ∧ Grew w w' (· = g) := by
  have hc := rnumI_any w g t bs k0 hi
  have hlt := rnum_lt (bs.drop k0)
  have herr := rnumF_err 10 0 0 (bs.drop k0)
  have hT : Wire.rtext most (bs.drop k0) = if (Wire.rnum (bs.drop k0)).2.2 ≠ 0 then ([], (Wire.rnum (bs.drop k0)).2.1, (Wire.rnum (bs.drop k0)).2.2) else if most.toNat < (Wire.rnum (bs.drop k0)).1 then ([], [], 2) else if (Wire.rnum (bs.drop k0)).2.1.length < (Wire.rnum (bs.drop k0)).1 then ([], [], 20) else ((Wire.rnum (bs.drop k0)).2.1.take (Wire.rnum (bs.drop k0)).1, (Wire.rnum (bs.drop k0)).2.1.drop (Wire.rnum (bs.drop k0)).1, 0) := rfl
  change (Wire.rnum (bs.drop k0)).2.2 ≠ 0 → (Wire.rnum (bs.drop k0)).1 = 0 ∧ (Wire.rnum (bs.drop k0)).2.1 = [] at herr
  obtain ⟨m, hsub, hml⟩ : ∃ m, (Wire.rnum (bs.drop k0)).2.1 = (bs.drop k0).drop m ∧ m ≤ (bs.drop k0).length := rnumF_sub 10 0 0 (bs.drop k0)
  generalize Wire.rtext most (bs.drop k0) = T at hT ⊢
  generalize Wire.rnum (bs.drop k0) = N at hc hlt herr hT hsub
  obtain ⟨n, r, e⟩ := N
  simp only at hc hlt herr hT hsub
  have hk0 := hi.le
  rw [List.drop_drop] at hsub
  rw [List.length_drop] at hml
  obtain ⟨k1, hk1⟩ : ∃ k1, k1 = k0 + m := ⟨_, rfl⟩
  rw [← hk1] at hsub
  have hk1l : k1 ≤ bs.length := by omega
  subst hsub
  have hc' : Calls Try.prog 49 #[.pointer (some ⟨g, 0, none⟩)] w fun r w' => r = .returned (.int .u64 (n : Int)) ∧ RIs B w' g t bs k1 e ∧ Grew w w' (· = g) := by
    refine hc.mono ?_
    rintro x w' ⟨hx, ⟨k', hk', hr'⟩, hg⟩
    have hl' := hr'.le
    have := congrArg List.length hk'
    rw [List.length_drop, List.length_drop] at this
    obtain rfl : k' = k1 := by omega
    exact ⟨hx, hr', hg⟩
  clear hc hi
  have hgg : ∀ w1 w', Grew w w1 (· = g) → Grew w1 w' (· = g) → Grew w w' (· = g) := fun w1 w' h1 h2 => h1.trans h2 (fun _ _ h => h)
  by_cases he : e = 0
  · subst he
    rw [if_neg (by simp)] at hT
    by_cases hlong : most.toNat < n
    · rw [if_pos hlong] at hT
      subst hT
      refine (rtextI_long w g t bs k1 n most hm1 hm2 hlong hlt _ hc').mono ?_
      rintro x w' ⟨rfl, w1, h1, h2, h3⟩
      exact ⟨rfl, ⟨bs.length, by simp, h2⟩, hgg w1 w' h1 h3⟩
    · rw [if_neg hlong] at hT
      rcases (show most < 0 ∨ 0 ≤ most by omega) with h0 | h0
      · obtain rfl : n = 0 := by omega
        rw [if_neg (by omega)] at hT
        subst hT
        refine (rtextI_none w g t bs k1 most h0 _ hc').mono ?_
        rintro x w' ⟨rfl, w1, h1, h2, h3⟩
        exact ⟨rfl, ⟨k1, by simp, h2⟩, hgg w1 w' h1 h3⟩
      · obtain ⟨M, rfl⟩ := Int.eq_ofNat_of_zero_le h0
        by_cases hs : (bs.drop k1).length < n
        · rw [if_pos hs] at hT
          subst hT
          refine (rtextI_short w g t bs k1 n M (by omega) (by omega) hs _ hc').mono ?_
          rintro x w' ⟨rfl, w1, h1, h2, h3⟩
          exact ⟨rfl, ⟨bs.length, by simp, h2⟩, hgg w1 w' h1 h3⟩
        · rw [if_neg hs] at hT
          subst hT
          refine (rtextI_some w g t bs k1 n M (by omega) (by omega) _ hc' (by omega)).mono ?_
          rintro x w' ⟨rfl, w1, h1, h2, h3⟩
          exact ⟨rfl, ⟨k1 + n, by simp [List.drop_drop], h2⟩, hgg w1 w' h1 h3⟩
  · obtain ⟨rfl, hr⟩ := herr he
    rw [if_pos he] at hT
    subst hT
    refine (rtextI_err w g t bs k1 e most he _ hc').mono ?_
    rintro x w' ⟨rfl, h2, h3⟩
    exact ⟨rfl, ⟨k1, rfl, h2⟩, h3⟩
end Go.Proofs.Ytjlhjpooggkkoaa.Nd
namespace Go.Proofs.Ytjlhjpooggkkoaa.Nd
open Go.RowKit
theorem wp_world {P : Program} {c : Code} {Q : Exit → Act → World → Prop} {a : Act} {W W' : World} (h : W = W') (k : Code.wp P c Q a W') : Code.wp P c Q a W := h ▸ k
/-- the reference's In with its bytes in a block below B -/
def RB (w : World) (g : Nat) (t : TypeId) (bs : List Nat) (k e B : Nat) : Prop :=
  ∃ p cap b off, Row w g [.slice p bs.length cap, .int .i64 (k : Int), .int .i64 (e : Int)] t ∧ Sl w p bs cap b off ∧ (0 < bs.length → b ≠ g ∧ b < B)
theorem RIs.toB {B : Nat} {w : World} {g : Nat} {t : TypeId} {bs : List Nat} {k e : Nat} (h : RIs B w g t bs k e) : RB w g t bs k e B := h.ex
theorem RB.is {w : World} {g : Nat} {t : TypeId} {bs : List Nat} {k e B : Nat} (h : RB w g t bs k e B) (hk : k ≤ bs.length) : RIs B w g t bs k e := by
  exact ⟨h, hk⟩
theorem RB.below {w w' : World} {g : Nat} {t : TypeId} {bs : List Nat} {k e B : Nat} (h : RB w g t bs k e B) (hb : Below w.heap.size w w') : RB w' g t bs k e B := by
  obtain ⟨p, cap, b, off, hr, hsl, hne⟩ := h
  exact ⟨p, cap, b, off, hr.below hb hr.lt, hsl.below hb, hne⟩
theorem RB.grown {w w' : World} {g : Nat} {t : TypeId} {bs : List Nat} {k e B q : Nat} (h : RB w g t bs k e B) (hg : w.grownBy w' (some q)) (hk : B ≤ q) (hgk : g ≠ q) : RB w' g t bs k e B := by
  obtain ⟨p, cap, b, off, hr, hsl, hne⟩ := h
  exact ⟨p, cap, b, off, hr.grown hg (by simpa using hgk), hsl.grown hg (fun h0 => by have := (hne h0).2; simp; omega), hne⟩
theorem RB.drew {w : World} {g : Nat} {t : TypeId} {bs : List Nat} {k e B : Nat} (h : RB w g t bs k e B) : RB w.drew g t bs k e B := by
  obtain ⟨p, cap, b, off, hr, hsl, hne⟩ := h
  exact ⟨p, cap, b, off, hr.drew, ⟨hsl.lt, hsl.cap1, hsl.cap2, hsl.at_, hsl.src⟩, hne⟩
end Go.Proofs.Ytjlhjpooggkkoaa.Nd
namespace Go.Proofs.Ytjlhjpooggkkoaa.Nd
open Go.RowKit
/-- a directory's item -/
structure It where
  name : ByteArray
  kind : Int
  sum : List Nat
/-- a node -/
structure Nd where
  kind : Int
  data : ByteArray
  size : Int
  parts : List (List Nat)
  items : List It
def It.cells (x : It) : List Value := .string x.name :: .int .i64 x.kind :: x.sum.map u8v
def dcells (d : List Nat) : List Value := d.map u8v
/-- 32 bytes -/
def Dg (d : List Nat) : Prop := d.length = 32 ∧ ∀ x ∈ d, x < 256
def i64 (n : Int) : Prop := -9223372036854775808 ≤ n ∧ n ≤ 9223372036854775807
structure It.ok (x : It) : Prop where
  sum : Dg x.sum
  kind : i64 x.kind
structure Nd.ok (n : Nd) : Prop where
  parts : ∀ d ∈ n.parts, Dg d
  items : ∀ x ∈ n.items, x.ok
  kind : i64 n.kind
  size : i64 n.size
/-- a slice whose elements have k cells each -/
structure Els (w : World) (v : Value) (k : Nat) (xs : List (List Value)) : Prop where
  ex : ∃ p cap b o, v = .slice p xs.length cap ∧ xs.length ≤ cap ∧ cap ≤ 9223372036854775807 ∧ (xs ≠ [] → p = some ⟨b, o, none⟩ ∧ b < w.heap.size) ∧ ∀ (i : Nat) us, xs[i]? = some us → w.rangeAt b (o + i * k) us
  each : ∀ us ∈ xs, us.length = k
theorem rangeAt_below {w w' : World} {B b o : Nat} {cs : List Value} (h : w.rangeAt b o cs) (hb : Below B w w') (hlt : b < B) : w'.rangeAt b o cs := fun j v hv => by
  rw [hb.cell (p := ⟨b, o + j, none⟩) hlt]; exact h j v hv
theorem Els.below {w w' : World} {v : Value} {k : Nat} {xs : List (List Value)} (h : Els w v k xs) (hb : Below w.heap.size w w') : Els w' v k xs := by
  obtain ⟨p, cap, b, o, rfl, h1, h2, h3, h4⟩ := h.ex
  refine ⟨⟨p, cap, b, o, rfl, h1, h2, fun hne => ⟨(h3 hne).1, Nat.lt_of_lt_of_le (h3 hne).2 hb.size⟩, fun i us hi => ?_⟩, h.each⟩
  have hne : xs ≠ [] := by rintro rfl; simp at hi
  exact rangeAt_below (h4 i us hi) hb (h3 hne).2
theorem Els.grown {w w' : World} {v : Value} {k z : Nat} {xs : List (List Value)} (h : Els w v k xs) (hg : w.grownBy w' (some z)) (hz : ∀ q, v.ownBlock = some q → q ≠ z) : Els w' v k xs := by
  obtain ⟨p, cap, b, o, rfl, h1, h2, h3, h4⟩ := h.ex
  refine ⟨⟨p, cap, b, o, rfl, h1, h2, fun hne => ⟨(h3 hne).1, Nat.lt_of_lt_of_le (h3 hne).2 hg.size⟩, fun i us hi => ?_⟩, h.each⟩
  have hne : xs ≠ [] := by rintro rfl; simp at hi
  have hbz : b ≠ z := hz b (by rw [(h3 hne).1]; rfl)
  intro j u hu
  rw [World.cell?_of_block (a := ⟨b, o + i * k + j, none⟩) (hg.block b (h3 hne).2 (by simpa using hbz))]
  exact h4 i us hi j u hu
theorem Els.nil (w : World) (k : Nat) : Els w (.slice none 0 0) k [] :=
  ⟨⟨none, 0, 0, 0, rfl, Nat.le_refl _, by decide, fun h => absurd rfl h, fun i us h => by simp at h⟩, fun us h => by cases h⟩
/-- the value of a node that lies in the world -/
structure IsN (w : World) (v : Value) (n : Nd) : Prop where
  ex : ∃ vp vi, v = .agg #[.int .i64 n.kind, .string n.data, .int .i64 n.size, vp, vi] ∧ Els w vp 32 (n.parts.map dcells) ∧ Els w vi 34 (n.items.map It.cells)
  ok : n.ok
theorem IsN.below {w w' : World} {v : Value} {n : Nd} (h : IsN w v n) (hb : Below w.heap.size w w') : IsN w' v n := by
  obtain ⟨vp, vi, h1, h2, h3⟩ := h.ex
  exact ⟨⟨vp, vi, h1, h2.below hb, h3.below hb⟩, h.ok⟩
/-- does the first text come behind the second, or is it the same? -/
def geS (a b : ByteArray) : Bool := !Op.bytesLess a.toList b.toList
def itemOk (x : It) : Bool := (x.kind == 2 || x.kind == 3) && isNameS (bl x.name)
def okAt (l : List It) (i : Nat) : Prop := ∀ x, l[i]? = some x → itemOk x = true ∧ (0 < i → ∀ y, l[i - 1]? = some y → geS y.name x.name = false)
def itemsOk (l : List It) : Prop := l.length ≤ 64 ∧ ∀ i, i < l.length → okAt l i
def pieces (n : Int) : Nat := ((n + 63) / 64).toNat
def right (n : Nd) : Prop :=
  (n.kind = 1 ∧ 1 ≤ n.data.size ∧ n.data.size ≤ 64 ∧ n.size = 0 ∧ n.parts = [] ∧ n.items = []) ∨
  (n.kind = 2 ∧ n.data.size = 0 ∧ 0 ≤ n.size ∧ n.size ≤ 1024 ∧ n.parts.length = pieces n.size ∧ n.items = []) ∨
  (n.kind = 3 ∧ n.data.size = 0 ∧ n.size = 0 ∧ n.parts = [] ∧ itemsOk n.items)
def It.bytes (x : It) : List Nat := Wire.num x.name.size ++ bytesS x.name ++ Wire.num x.kind.toNat ++ x.sum
/-- the bytes of a right node -/
def enc (n : Nd) : List Nat :=
  Wire.num n.kind.toNat ++ (if n.kind = 1 then Wire.num n.data.size ++ bytesS n.data else if n.kind = 2 then Wire.num n.size.toNat ++ n.parts.flatten else Wire.num n.items.length ++ n.items.flatMap It.bytes)
/-- a digest that is read: what it is, what is left, what is wrong -/
def rdigest (bs : List Nat) : List Nat × List Nat × Nat := if bs.length < 32 then (List.replicate 32 0, [], 20) else (bs.take 32, bs.drop 32, 0)
/-- what is still to be read, and what was wrong -/
abbrev Sta := List Nat × Nat
def sNum (s : Sta) : Nat × Sta := if s.2 = 0 then Wire.rnum s.1 else (0, s)
def sText (m : Nat) (s : Sta) : List Nat × Sta := if s.2 = 0 then Wire.rtext (m : Int) s.1 else ([], s)
def sDig (s : Sta) : List Nat × Sta := if s.2 = 0 then rdigest s.1 else (List.replicate 32 0, s)
def sParts : Nat → Sta → List (List Nat) × Sta
  | 0, s => ([], s)
  | c + 1, s => ((sParts c s).1 ++ [(sDig (sParts c s).2).1], (sDig (sParts c s).2).2)
def sItem (cut : Nat → Nat) (s : Sta) : It × Sta :=
  let a := sText 16 s
  let b := sNum a.2
  let c := sDig b.2
  (⟨str a.1, (cut b.1 : Int), c.1⟩, c.2)
def sItems (cut : Nat → Nat) : Nat → Sta → List It × Sta
  | 0, s => ([], s)
  | c + 1, s => ((sItems cut c s).1 ++ [(sItem cut (sItems cut c s).2).1], (sItem cut (sItems cut c s).2).2)
end Go.Proofs.Ytjlhjpooggkkoaa.Nd
namespace Go.Proofs.Ytjlhjpooggkkoaa.Nd
open Go.RowKit
theorem below_drewN {B : Nat} {a w : World} (h : Below B a w) (n : Nat) : Below B a (w.drewN n) :=
  ⟨h.os, h.tape, h.output, by simpa using h.size, fun k hk => by simpa using h.block k hk⟩
/-- take operation i first: what it leaves lies in slot d -/
theorem take_put {P : Program} {ops : Array Oper} {Q : Exit → Act → World → Prop} {md : Region.Mode} {S : World → Prop} {i d : Nat} {oi : Oper} {v : Value} {fuel : Nat} {listed : Array Bool} {a : Act} {w : World} (hi : ops[i]? = some oi) (hd : oi.dst = some d)
    (hs : Region.noSelect ops = true) (hf : Region.free md ops listed i = true) (hr : (Region.ready md ops listed).contains i = true)
    (hQ : ∀ c a w, Q (.panic c) (a.put (some d) v) w → Q (.panic c) a w) (hy : YieldsIf P ops S oi v a) (hS : S w)
    (h : wpAnyH P md ops Q S fuel (listed.setIfInBounds i true) (a.put (some d) v) w) : wpAnyH P md ops Q S (fuel + 1) listed a w :=
  wpAnyH_take hi hs hf hr (by rw [hd]; exact hQ) hy hS (by rw [hd]; exact h)
/-- a call says whether P -/
def Says (e : Ending) (P : Prop) : Prop := ∃ R, e = .returned (.bool R) ∧ (R = true ↔ P)
theorem Says.no {e : Ending} {P : Prop} (h : e = .returned (.bool false)) (hp : ¬ P) : Says e P := ⟨false, h, ⟨fun h => (by cases h), fun h => absurd h hp⟩⟩
theorem Says.yes {e : Ending} {P : Prop} (h : e = .returned (.bool true)) (hp : P) : Says e P := ⟨true, h, ⟨fun _ => hp, fun _ => rfl⟩⟩
theorem Says.cases {e : Ending} {P : Prop} (h : Says e P) : (e = .returned (.bool true) ∧ P) ∨ (e = .returned (.bool false) ∧ ¬ P) := by
  obtain ⟨R, h1, h2⟩ := h
  cases R
  · exact .inr ⟨h1, fun h => by cases h2.2 h⟩
  · exact .inl ⟨h1, h2.1 rfl⟩
theorem It.one (x : It) : ∀ v ∈ x.cells, v.oneCell' = true := by
  intro v hv
  simp only [It.cells, List.mem_cons] at hv
  rcases hv with rfl | rfl | hv
  · rfl
  · rfl
  · exact one_u8 _ v hv
/-- an element of a slice of items -/
theorem Els.item {w : World} {l : List It} {b o : Nat} (h : ∀ (i : Nat) us, (l.map It.cells)[i]? = some us → w.rangeAt b (o + i * 34) us) {i : Nat} {x : It} (hx : l[i]? = some x) : w.rangeAt b (o + i * 34) x.cells := h i x.cells (by simp [hx])
/-- k cells lie there -/
def has (k : Nat) (w : World) (b o : Nat) : Prop := ∀ j, j < k → (w.cell? ⟨b, o + j, none⟩).isSome = true
def cellsAt (k : Nat) (w : World) (b o : Nat) : List Value := (List.range k).map fun j => (w.cell? ⟨b, o + j, none⟩).getD undef
def ptrB : Value → Nat
  | .pointer (some a) => a.block
  | _ => 0
def ptrO : Value → Nat
  | .pointer (some a) => a.off
  | _ => 0
theorem ptrB_pointer (a : Addr) : ptrB (.pointer (some a)) = a.block := by simp only [ptrB]
theorem ptrO_pointer (a : Addr) : ptrO (.pointer (some a)) = a.off := by simp only [ptrO]
theorem has_drewN (k : Nat) (w : World) (b o n : Nat) : has k (w.drewN n) b o = has k w b o := by simp [has]
theorem cellsAt_drewN (k : Nat) (w : World) (b o n : Nat) : cellsAt k (w.drewN n) b o = cellsAt k w b o := by simp [cellsAt]
theorem has_drew (k : Nat) (w : World) (b o : Nat) : has k w.drew b o = has k w b o := rfl
theorem cellsAt_drew (k : Nat) (w : World) (b o : Nat) : cellsAt k w.drew b o = cellsAt k w b o := rfl
attribute [local go_sem] has_drewN cellsAt_drewN has_drew cellsAt_drew ptrB_pointer ptrO_pointer
end Go.Proofs.Ytjlhjpooggkkoaa.Nd
namespace Go.Proofs.Ytjlhjpooggkkoaa.Nd
open Go.RowKit
/-- how long the texts of a node are -/
def Nd.short (n : Nd) : Prop := n.data.size ≤ 9223372036854775807 ∧ ∀ x ∈ n.items, x.name.size ≤ 9223372036854775807
theorem Says.mono {e : Ending} {P Q : Prop} (h : Says e P) (hpq : P ↔ Q) : Says e Q := by
  obtain ⟨R, h1, h2⟩ := h
  exact ⟨R, h1, h2.trans hpq⟩
end Go.Proofs.Ytjlhjpooggkkoaa.Nd
