/-
  The walk of the reference's Digest.
-/
import Derived.Test.YtbccjomnfclkdaaU11
import Derived.Test.YtbccjomnfclkdaaU5
import Derived.Deep.Cut
namespace Go.Proofs.Ytbccjomnfclkdaa
open Go.RowKit
theorem wp_world {P : Program} {c : Code} {Q : Exit → Act → World → Prop} {a : Act} {W W' : World} (h : W = W') (k : Code.wp P c Q a W') : Code.wp P c Q a W := h ▸ k
set_option maxRecDepth 20000 in
set_option maxHeartbeats 400000 in
set_option maxRecDepth 100000 in
theorem rdig_bad {B : Nat} (w : World) (g : Nat) (t : TypeId) (bs : List Nat) (k e : Nat) (he : e ≠ 0) (hi : RIs B w g t bs k e) :
    Calls Try.prog 37 #[.pointer (some ⟨g, 0, none⟩)] w fun r w' => r = .returned (.agg ((List.replicate 32 0).map u8v).toArray) ∧ Below w.heap.size w w' := by
  obtain ⟨p, cap, b, off, hr, hsl, hne⟩ := hi.ex
  obtain ⟨w2, Z, HZ, H2, hr0, hr1, HB, HS⟩ := two_rows w
  have c2 : w2.cell? ⟨g, 2, none⟩ = some (.int .i64 (e : Int)) := (hr.below HB.out hr.lt).cell 2
  have k1 : ¬ ((e : Int) = 0) := by omega
  have hZl : Z.length = 32 := by rw [HZ.out]; rfl
  have hZ1 : ∀ v ∈ Z, v.oneCell' = true := by rw [HZ.out]; exact one_u8 _
  rw [← zero32_eq, ← HZ.out]
  clear hi hr hsl hne
  go_enter Try.func37, Try.ntmps37
  go_upto_region 2 with fail
  refine wp_world H2.out ?_
  clear H2
  go_wp2_with (first | (refine wpList_load_Row rfl 49 _ rfl (w.heap.size + 1) rfl 49 _ hr1 _ Try.underlying49 rfl 32 info49 hZl ?_) | (refine wpList_store_Row rfl 49 _ _ rfl w.heap.size 0 Z rfl rfl 49 _ hr0 32 info49 hZl (by omega) hZ1 ?_; intro w4 hr4 hg4 hs4))
  refine post_Row 2 49 Try.results37 w.heap.size rfl 49 _ hr4 _ Try.underlying49 rfl 32 info49 (by simp [splice_all, hZl]) rfl ⟨?_, below_of_grown HB.out hg4 HB.out.size (Nat.le_refl _)⟩
  rw [splice_all _ _ rfl]
/-- the reference's In with its bytes in a block below B -/
def RB (w : World) (g : Nat) (t : TypeId) (bs : List Nat) (k e B : Nat) : Prop :=
  ∃ p cap b off, Row w g [.slice p bs.length cap, .int .i64 (k : Int), .int .i64 (e : Int)] t ∧ Sl w p bs cap b off ∧ (0 < bs.length → b ≠ g ∧ b < B)
theorem RIs.toB {B : Nat} {w : World} {g : Nat} {t : TypeId} {bs : List Nat} {k e : Nat} (h : RIs B w g t bs k e) : RB w g t bs k e B := h.ex
theorem RB.is {w : World} {g : Nat} {t : TypeId} {bs : List Nat} {k e B : Nat} (h : RB w g t bs k e B) (hk : k ≤ bs.length) : RIs B w g t bs k e := by
  exact ⟨h, hk⟩
theorem RB.below {w w' : World} {g : Nat} {t : TypeId} {bs : List Nat} {k e B : Nat} (h : RB w g t bs k e B) (hb : Below w.heap.size w w') : RB w' g t bs k e B := by
  obtain ⟨p, cap, b, off, hr, hsl, hne⟩ := h
  exact ⟨p, cap, b, off, hr.below hb hr.lt, hsl.below hb, hne⟩
theorem RB.grown {w w' : World} {g : Nat} {t : TypeId} {bs : List Nat} {k e B q : Nat} (h : RB w g t bs k e B) (hg : w.grownBy w' (some q)) (hk : B ≤ q) (hgk : g ≠ q) : RB w' g t bs k e B := by
  obtain ⟨p, cap, b, off, hr, hsl, hne⟩ := h
  exact ⟨p, cap, b, off, hr.grown hg (by simpa using hgk), hsl.grown hg (fun h0 => by have := (hne h0).2; simp; omega), hne⟩
theorem RB.drew {w : World} {g : Nat} {t : TypeId} {bs : List Nat} {k e B : Nat} (h : RB w g t bs k e B) : RB w.drew g t bs k e B := by
  obtain ⟨p, cap, b, off, hr, hsl, hne⟩ := h
  exact ⟨p, cap, b, off, hr.drew, ⟨hsl.lt, hsl.cap1, hsl.cap2, hsl.at_, hsl.src⟩, hne⟩
theorem rbadB (w : World) (g : Nat) (t : TypeId) (bs : List Nat) (k e e' B : Nat) (hi : RB w g t bs k e B) :
    Calls Try.prog 52 #[.pointer (some ⟨g, 0, none⟩), .int .i64 (e' : Int)] w fun r w' => r = .returned (.tuple #[]) ∧ RB w' g t bs bs.length e' B ∧ w.grownBy w' (some g) ∧ w'.heap.size = w.heap.size := by
  obtain ⟨p, cap, b, off, hr, hsl, hne⟩ := hi
  have c0 : w.cell? ⟨g, 0, none⟩ = some (.slice p bs.length cap) := hr.cell 0
  have c1 : w.cell? ⟨g, 1, none⟩ = some (.int .i64 (k : Int)) := hr.cell 1
  have c2 : w.cell? ⟨g, 2, none⟩ = some (.int .i64 (e : Int)) := hr.cell 2
  have f1 := hr.frozen 1
  have f2 := hr.frozen 2
  have HR := hid_in hr
  have HSL := hid_in hsl
  have HNE := hid_in hne
  clear hr hsl hne
  go_enter Try.func52, Try.ntmps52
  go_wp2
  go_end0
  have hg := grownBy_trans (grownBy_setCell w ⟨g, 2, none⟩ (.int .i64 (e' : Int))) (grownBy_setCell _ ⟨g, 1, none⟩ (.int .i64 (bs.length : Int)))
  refine ⟨rfl, ⟨p, cap, b, off, (HR.out.set_same 2 _).set_same 1 _, HSL.out.grown hg (fun h => by simpa using (HNE.out h).1), HNE.out⟩, hg, by simp [World.setCell]⟩
set_option maxRecDepth 20000 in
set_option maxHeartbeats 400000 in
set_option maxRecDepth 100000 in
theorem rdig_short {B : Nat} (w : World) (g : Nat) (t : TypeId) (bs : List Nat) (k : Nat) (hs : (bs.drop k).length < 32) (hBw : B ≤ w.heap.size) (hi : RIs B w g t bs k 0) :
    Calls Try.prog 37 #[.pointer (some ⟨g, 0, none⟩)] w fun r w' => r = .returned (.agg ((List.replicate 32 0).map u8v).toArray) ∧ RIs B w' g t bs bs.length 20 ∧ Grew w w' (· = g) := by
  have hB := hi.toB
  have hle := hi.le
  obtain ⟨w2, Z, HZ, H2, hr0, hr1, HB, HS⟩ := two_rows w
  have hi2 : RIs B w2 g t bs k 0 := (hB.below HB.out).is hle
  obtain ⟨p, cap, b, off, hr, hsl, hne⟩ := hi2.ex
  have c2 : w2.cell? ⟨g, 2, none⟩ = some (.int .i64 0) := hr.cell 2
  have hgl : g < w.heap.size := by obtain ⟨_, _, _, _, h, _⟩ := hB; exact h.lt
  have hZl : Z.length = 32 := by rw [HZ.out]; rfl
  have hZ1 : ∀ v ∈ Z, v.oneCell' = true := by rw [HZ.out]; exact one_u8 _
  have HL := hid_in (rleft_any w2 g t bs k 0 hi2)
  have HBAD := hid_in (rbadB w2.drew g t bs k 0 20 B (hB.below HB.out).drew)
  obtain ⟨L, HLL⟩ : ∃ L, Hid ((bs.drop k).length = L) := ⟨_, rfl⟩
  rw [HLL.out] at HL hs
  have k2 : (L : Int) < 32 := by omega
  rw [← zero32_eq, ← HZ.out]
  have HGL := hid_in hgl
  have hr0d := hr0.drew
  have hr1d := hr1.drew
  clear hi hi2 hr hsl hne hB hle hgl hr0 hr1
  go_enter Try.func37, Try.ntmps37
  go_upto_region 2 with fail
  refine wp_world H2.out ?_
  clear H2
  go_wp2_with fail
  refine HL.out.mono ?_
  rintro e2 w3 ⟨rfl, rfl⟩
  go_wp2_with fail
  refine HBAD.out.mono ?_
  rintro e2 w3 ⟨rfl, h1, h2, h3⟩
  have H1 := hid_in h1
  have H4 := hid_in h2
  have hr0' := hr0d.grown h2 (by have := HGL.out; simp; omega)
  have hr1' := hr1d.grown h2 (by have := HGL.out; simp; omega)
  clear h1 h2 h3 hr0d hr1d c2
  go_wp2_with (first | (refine wpList_load_Row rfl 49 _ rfl (w.heap.size + 1) rfl 49 _ hr1' _ Try.underlying49 rfl 32 info49 hZl ?_) | (refine wpList_store_Row rfl 49 _ _ rfl w.heap.size 0 Z rfl rfl 49 _ hr0' 32 info49 hZl (by omega) hZ1 ?_; intro w4 hr4 hg4 hs4))
  have hgl := HGL.out
  have hin : RIs B w4 g t bs bs.length 20 := (H1.out.grown hg4 hBw (by omega)).is (Nat.le_refl _)
  refine post_Row 2 49 Try.results37 w.heap.size rfl 49 _ hr4 _ Try.underlying49 rfl 32 info49 (by simp [splice_all, hZl]) rfl ⟨?_, hin, ?_⟩
  · rw [splice_all _ _ rfl]
  · refine (((Grew.of_below (· = g) HB.out).trans (Grew.of_below (· = g) (Below.refl _ w2).drew) (fun _ _ h => h)).trans (Grew.of_grown H4.out) (fun q _ h => ?_)).trans (Grew.of_grown hg4) (fun q hq h => ?_)
    · simpa using h
    · simp at h; omega
theorem RB.move {w : World} {g : Nat} {t : TypeId} {bs : List Nat} {k e B : Nat} (k' : Nat) (h : RB w g t bs k e B) : RB (w.setCell ⟨g, 1, none⟩ (.int .i64 (k' : Int))) g t bs k' e B := by
  obtain ⟨p, cap, b, off, hr, hsl, hne⟩ := h
  exact ⟨p, cap, b, off, hr.set_same 1 _, hsl.grown (grownBy_setCell w ⟨g, 1, none⟩ _) (fun h => by simpa using (hne h).1), hne⟩
theorem facc_full (bs : List Nat) (_h : 32 ≤ bs.length) : facc bs 32 = bs.take 32 := by simp [facc]
set_option maxRecDepth 20000 in
set_option maxHeartbeats 1000000 in
set_option maxRecDepth 100000 in
theorem rdig_some {B : Nat} (w : World) (g : Nat) (t : TypeId) (bs : List Nat) (k : Nat) (hs : 32 ≤ (bs.drop k).length) (hBw : B ≤ w.heap.size) (hi : RIs B w g t bs k 0) :
    Calls Try.prog 37 #[.pointer (some ⟨g, 0, none⟩)] w fun r w' => r = .returned (.agg (((bs.drop k).take 32).map u8v).toArray) ∧ RIs B w' g t bs (k + 32) 0 ∧ Grew w w' (· = g) := by
  have hB := hi.toB
  have hle := hi.le
  obtain ⟨w2, Z, HZ, H2, hr0, hr1, HB, HS⟩ := two_rows w
  have hi2 : RIs B w2 g t bs k 0 := (hB.below HB.out).is hle
  have HB2 := hid_in (hB.below HB.out).drew
  obtain ⟨p, cap, b, off, hr, hsl, hne⟩ := hi2.ex
  have c2 : w2.cell? ⟨g, 2, none⟩ = some (.int .i64 0) := hr.cell 2
  have hgl : g < w.heap.size := by obtain ⟨_, _, _, _, h, _⟩ := hB; exact h.lt
  have HL := hid_in (rleft_any w2 g t bs k 0 hi2)
  have hbl := hi.len
  have hkl : k + 32 ≤ bs.length := by rw [List.length_drop] at hs; omega
  have HDG : Hid (∀ i, i < 32 → (bs.drop k).getD i 0 = bs.getD (k + i) 0) := by
    show ∀ _, _
    intro i _
    simp [List.getD_eq_getElem?_getD, List.getElem?_drop]
  have HHS := hid_in hs
  obtain ⟨L, HLL⟩ : ∃ L, Hid ((bs.drop k).length = L) := ⟨_, rfl⟩
  rw [HLL.out] at HL hs
  have k2 : ¬ ((L : Int) < 32) := by omega
  have HGL := hid_in hgl
  have hr0d : Row w2.drew w.heap.size zero32 49 := by rw [← HZ.out]; exact hr0.drew
  have hr1d : Row w2.drew (w.heap.size + 1) zero32 49 := by rw [← HZ.out]; exact hr1.drew
  have HR0 := hid_in hr0d
  have HR1 := hid_in hr1d
  have hLb : L ≤ 9223372036854775807 := by have := HLL.out; rw [List.length_drop] at this; omega
  clear hi hi2 hr hsl hne hB hgl hr0 hr1 HZ hr0d hr1d
  go_enter Try.func37, Try.ntmps37
  go_upto_region 2 with fail
  refine wp_world H2.out ?_
  clear H2
  go_wp2_with fail
  refine HL.out.mono ?_
  rintro e2 w3 ⟨rfl, rfl⟩
  clear c2 HL
  go_wp2_with fail
  go_loopw [4] (fun vi w' => ∃ i : Nat, i ≤ 32 ∧ vi = .int .i64 (i : Int) ∧ Row w' w.heap.size zero32 49 ∧ Row w' (w.heap.size + 1) ((facc (bs.drop k) i).map u8v) 49 ∧ RB w' g t bs k 0 B ∧ Below w.heap.size w w') (fun vi _ => 32 - (intOf vi).toNat)
  case atStart =>
    exact ⟨0, by omega, rfl, HR0.out, HR1.out, HB2.out, HB.out.drew⟩
  case round =>
    clear HR0 HR1 HB2 HB
    obtain ⟨i, hi, rfl, hr0, hr1, hB, hbw⟩ := hrel
    by_cases hend : i < 32
    · have HR0 := hid_in hr0
      have HR1 := hid_in hr1
      have HRB := hid_in hB
      have HBW := hid_in hbw
      obtain ⟨p, cap, b, off, hr, hsl, hne⟩ := hB
      obtain ⟨hbg, hbB⟩ := hne (by omega)
      obtain rfl := hsl.at_ (by omega)
      have h1' : (i : Int) < 32 := by omega
      have c0 : wr.cell? ⟨g, 0, none⟩ = some (.slice (some ⟨b, off, none⟩) bs.length cap) := hr.cell 0
      have c1 : wr.cell? ⟨g, 1, none⟩ = some (.int .i64 (k : Int)) := hr.cell 1
      have hl := facc_length (bs.drop k) i (by have := HHS.out; omega) hi
      have cz : wr.cell? ⟨w.heap.size + 1, i, none⟩ = some (.int .u8 (((facc (bs.drop k) i).getD i 0 : Nat) : Int)) := hr1.cellMap _ (by omega)
      have f0 := hr1.frozen i
      have cb : wr.cell? ⟨b, off + (k + i), none⟩ = some (.int .u8 ((bs.getD (k + i) 0 : Nat) : Int)) := hsl.src (k + i) (by omega)
      have HSS : Hid ((facc (bs.drop k) i).set i (bs.getD (k + i) 0) = facc (bs.drop k) (i + 1)) := by
        show _ = _
        rw [← HDG.out i hend]
        exact facc_set _ i (by have := HHS.out; omega) hend
      generalize (facc (bs.drop k) i).getD i 0 = y at cz
      generalize bs.getD (k + i) 0 = x at cb HSS
      have k3 : (k : Int) + (i : Int) < (bs.length : Int) := by omega
      have k4 : (0 : Int) ≤ (k : Int) + (i : Int) := by omega
      have e1 : ((k : Int) + (i : Int)).toNat = k + i := by omega
      clear hr0 hr1 hr hsl hne hbw hl
      go_wp2_with fail
      go_region
      go_wp2
      go_roundw
      case rel =>
        go_light
        refine ⟨i + 1, by omega, by go_num, HR0.out.drew.set_other _ _ (by simp), ?_, ?_, ?_⟩
        · rw [← HSS.out, List.map_set]
          exact HR1.out.drew.set_same _ _
        · exact HRB.out.drew.grown (grownBy_setCell _ ⟨w.heap.size + 1, i, none⟩ _) (by simp; omega) (by have := HGL.out; simp; omega)
        · exact HBW.out.drew.setCell (by simp) _
      case measure => simp [intOf]; omega
    · obtain rfl : i = 32 := by omega
      obtain ⟨p, cap, b, off, hr, hsl, hne⟩ := hB
      have hBB : RB wr g t bs k 0 B := ⟨p, cap, b, off, hr, hsl, hne⟩
      have c1 : wr.cell? ⟨g, 1, none⟩ = some (.int .i64 (k : Int)) := hr.cell 1
      have f1 := hr.frozen 1
      have hgl := HGL.out
      have hl : ((bs.drop k).take 32).length = 32 := by have := HHS.out; rw [List.length_take]; omega
      rw [facc_full _ HHS.out] at hr1
      have hr0' := hr0.set_other ⟨g, 1, none⟩ (.int .i64 ((k + 32 : Nat) : Int)) (by simp; omega)
      have hr1' := hr1.set_other ⟨g, 1, none⟩ (.int .i64 ((k + 32 : Nat) : Int)) (by simp; omega)
      have HM := hid_in (hBB.move (k + 32))
      have HG : Hid (Grew w (wr.setCell ⟨g, 1, none⟩ (.int .i64 ((k + 32 : Nat) : Int))) (· = g)) := (Grew.of_below (· = g) hbw).trans (Grew.of_grown (grownBy_setCell wr ⟨g, 1, none⟩ _)) (fun q _ h => by simpa using h)
      have hD1 := one_u8 ((bs.drop k).take 32)
      obtain ⟨D, HD⟩ : ∃ D, Hid (((bs.drop k).take 32).map u8v = D) := ⟨_, rfl⟩
      have hDl : D.length = 32 := by rw [← HD.out]; simpa using hl
      rw [HD.out] at hr1' hD1
      have hz : splice zero32 0 D = D := splice_all _ _ (by rw [hDl]; rfl)
      have hz0 : 0 + 32 ≤ zero32.length := by rw [zero32_length]; omega
      have k3 : (k : Int) + 32 ≤ 9223372036854775807 := by omega
      clear hr hsl hne hr0 hr1 hBB hbw hl HHS HLL HDG
      go_wp2_with (first | (refine wpList_load_Row rfl 49 _ rfl (w.heap.size + 1) rfl 49 _ hr1' _ Try.underlying49 rfl 32 info49 hDl ?_) | (refine wpList_store_Row rfl 49 _ _ rfl w.heap.size 0 D rfl rfl 49 _ hr0' 32 info49 hDl hz0 hD1 ?_; intro w5 hr4 hg4 hs4))
      rw [hz] at hr4
      refine post_Row 2 49 Try.results37 w.heap.size rfl 49 _ hr4 _ Try.underlying49 rfl 32 info49 hDl rfl ⟨by rw [HD.out], ?_, ?_⟩
      · exact (HM.out.grown hg4 hBw (by omega)).is (by omega)
      · exact HG.out.trans (Grew.of_grown hg4) (fun q hq h => by simp at h; omega)
end Go.Proofs.Ytbccjomnfclkdaa
