/-
  The reference's Decode.
-/
import Derived.Test.YtbccjomnfclkdaaN20
import Derived.Test.YtbccjomnfclkdaaN22k
import Derived.Deep.CutRange
namespace Go.Proofs.Ytbccjomnfclkdaa
open Go.RowKit
theorem IsN.drew1 {w : World} {v : Value} {n : Nd} (h : IsN w v n) : IsN w.drew v n := h.below (below_drewN (Below.refl _ _) 1)
theorem three_rows (w : World) (s : Value) : ∃ W, Hid (((w.alloc (.cells #[.int .i64 0, .string ⟨#[]⟩, .int .i64 0, .slice none 0 0, .slice none 0 0] 31)).alloc (.cells #[s, .int .i64 0, .int .i64 0] 77)).alloc (.cells #[.int .i64 0, .string ⟨#[]⟩, .int .i64 0, .slice none 0 0, .slice none 0 0] 31) = W) ∧ Row W w.heap.size zs 31 ∧ Row W (w.heap.size + 1) [s, .int .i64 0, .int .i64 0] 77 ∧ Row W (w.heap.size + 1 + 1) zs 31 ∧ Below w.heap.size w W ∧ W.heap.size = w.heap.size + 3 := by
  refine ⟨_, rfl, ?_, ?_, ?_, ?_, by simp⟩
  · exact ((Row.new w zs 31).alloc _).alloc _
  · exact (Row.newAt _ _ [s, .int .i64 0, .int .i64 0] 77 (by simp)).alloc _
  · exact Row.newAt _ _ zs 31 (by simp)
  · exact (((Below.refl _ _).alloc (Nat.le_refl _) _).alloc (by simp) _).alloc (by simp; omega) _
theorem sItems_take (f : Nat → Nat) (s : Sta) (c d : Nat) : ∃ r, (sItems f (c + d) s).1 = (sItems f c s).1 ++ r := by
  induction d with
  | zero => exact ⟨[], by simp⟩
  | succ d ih =>
    obtain ⟨r, hr⟩ := ih
    exact ⟨r ++ [(sItem f (sItems f (c + d) s).2).1], by rw [← Nat.add_assoc]; simp only [sItems]; rw [hr, List.append_assoc]⟩
theorem sItems_at (f : Nat → Nat) (s : Sta) (j c : Nat) (h : j < c) : (sItems f c s).1[j]? = some (sItem f (sItems f j s).2).1 := by
  obtain ⟨r, hr⟩ := sItems_take f s (j + 1) (c - (j + 1))
  rw [show j + 1 + (c - (j + 1)) = c by omega] at hr
  rw [hr]
  simp only [sItems]
  rw [List.append_assoc, List.getElem?_append_right (by rw [sItems_length]; omega), sItems_length]
  simp
/-- behind j parts -/
structure PInv (w : World) (g G base : Nat) (n2 : Int) (s2 : Sta) (j : Nat) (W : World) : Prop where
  row : ∃ vp, Row W G [.int .i64 2, .string ⟨#[]⟩, .int .i64 n2, vp, .slice none 0 0] 31 ∧ W.ownsRow base 49 32 vp j ((sParts j s2).1.map dcells).flatten
  ri : RI w.heap.size W g (sParts j s2).2
  z : Row W w.heap.size zs 31
  below : Below w.heap.size w W
  size : base ≤ W.heap.size
/-- behind j items -/
structure IInv (w : World) (g G base : Nat) (s2 : Sta) (j : Nat) (W : World) : Prop where
  row : ∃ vp, Row W G [.int .i64 3, .string ⟨#[]⟩, .int .i64 0, .slice none 0 0, vp] 31 ∧ W.ownsRow base 51 34 vp j ((sItems (cutN 3) j s2).1.map It.cells).flatten
  ri : RI w.heap.size W g (sItems (cutN 3) j s2).2
  z : Row W w.heap.size zs 31
  below : Below w.heap.size w W
  size : base ≤ W.heap.size
/-- what the reference's Decode answers -/
def RDPost (bs : List Nat) (w : World) (e : Ending) (w' : World) : Prop := (∃ v k, e = .returned (.tuple #[v, .bool k]) ∧ Fresh w.heap.size v ∧ ((k = true ∧ ∃ n, Means bs n ∧ IsN w' v n) ∨ (k = false ∧ (∀ n, ¬ Means bs n) ∧ IsN w' v zeroN))) ∧ Below w.heap.size w w'
theorem RDPost.no {bs : List Nat} {w : World} {e : Ending} {w' : World} (v : Value) (he : e = .returned (.tuple #[v, .bool false])) (h : ∀ n, ¬ Means bs n) (hz : IsN w' v zeroN) (hb : Below w.heap.size w w') (hf : Fresh w.heap.size v := by exact fresh5 _ _ _ (own_none _) (own_none _)) : RDPost bs w e w' := ⟨⟨v, false, he, hf, .inr ⟨rfl, h, hz⟩⟩, hb⟩
theorem RDPost.yes {bs : List Nat} {w : World} {e : Ending} {w' : World} (v : Value) (n : Nd) (he : e = .returned (.tuple #[v, .bool true])) (h : Means bs n) (hf : Fresh (w.heap.size + 1) v) (hz : IsN w' v n) (hb : Below w.heap.size w w') : RDPost bs w e w' := ⟨⟨v, true, he, hf.mono (Nat.le_succ _), .inl ⟨rfl, n, h, hz⟩⟩, hb⟩
set_option maxHeartbeats 4000000 in
set_option maxRecDepth 100000 in
theorem rdecode_any (bs : List Nat) (p : Option Addr) (cap b off : Nat) (w : World) (hsl : Sl w p bs cap b off) :
    Calls Try.prog 16 #[.slice p bs.length cap] w fun e w' => RDPost bs w e w' := by
  obtain ⟨W, HW, hz, hi, hg, hb, hs⟩ := three_rows w (.slice p bs.length cap)
  have HRI : Hid (RI w.heap.size W (w.heap.size + 1) (bs, 0)) := ⟨bs, 0, ⟨⟨p, cap, b, off, hi, hsl.below hb, fun h => ⟨by have := hsl.blk h; omega, hsl.blk h⟩⟩, by omega⟩, rfl⟩
  have HZ := hid_in hz
  have HG := hid_in hg
  have HB := hid_in hb
  have HS := hid_in hs
  have HLT := hid_in hsl.lt
  clear hz hi hg hb hs hsl
  generalize bs.length = bl at *
  go_enter Try.func16, Try.ntmps16
  go_upto_region 3 with fail
  refine wp_world HW.out ?_
  clear HW
  obtain ⟨g, hgg⟩ : ∃ g, w.heap.size + 1 = g := ⟨_, rfl⟩
  obtain ⟨G, hGG⟩ : ∃ G, w.heap.size + 1 + 1 = G := ⟨_, rfl⟩
  rw [hgg] at HRI
  rw [hGG] at HG
  rw [hGG, hgg]
  have HGGG : Hid (w.heap.size + 1 = g ∧ w.heap.size + 2 = G) := ⟨hgg, by omega⟩
  clear hgg hGG
  go_upto_region 4 with (first | (go_at_call 35; refine (rnum_s W g w.heap.size (bs, 0) HRI.out).mono ?_; rintro e w1 ⟨rfl, h1, h2⟩; have HI1 := hid_in h1; have HG1 := hid_in h2; clear h1 h2))
  have HB1 : Hid (Below w.heap.size w w1) := HG1.out.below HB.out HB.out.size (fun k hk => by have := HGGG.out; omega)
  have HRZ1 : Hid (Row w1 w.heap.size zs 31) := HZ.out.grew HG1.out (by have := HGGG.out; omega)
  have HRG1 : Hid (Row w1 G zs 31) := HG.out.grew HG1.out (by have := HGGG.out; omega)
  have HS1 : Hid (w.heap.size + 3 ≤ w1.heap.size) := by have := HG1.out.size; have := HS.out; show _ ≤ _; omega
  have HOK1 : Hid (okS (sNum (bs, 0)).2) := HI1.out.ok
  clear HRI HG1 HG HZ HS HB
  obtain ⟨N, hN⟩ : ∃ N, (sNum (bs, 0)).1 = N := ⟨_, rfl⟩
  rw [hN]
  have HN := hid_in hN
  clear hN
  obtain ⟨s1, HS1s⟩ : ∃ s1, Hid ((sNum (bs, 0)).2 = s1) := ⟨_, rfl⟩
  rw [HS1s.out] at HI1 HOK1
  have d0 : w1.cell? ⟨G, 0, none⟩ = some (.int .i64 0) := HRG1.out.cell 0
  have d1 : w1.cell? ⟨G, 1, none⟩ = some (.string ⟨#[]⟩) := HRG1.out.cell 1
  have d2 : w1.cell? ⟨G, 2, none⟩ = some (.int .i64 0) := HRG1.out.cell 2
  have d3 : w1.cell? ⟨G, 3, none⟩ = some (.slice none 0 0) := HRG1.out.cell 3
  have d4 : w1.cell? ⟨G, 4, none⟩ = some (.slice none 0 0) := HRG1.out.cell 4
  have f0 := HRG1.out.frozen 0
  have f1 := HRG1.out.frozen 1
  have f2 := HRG1.out.frozen 2
  have f3 := HRG1.out.frozen 3
  have f4 := HRG1.out.frozen 4
  by_cases h1 : N = 1
  · subst h1
    have HGA := hid_in (grownBy_setCell w1 ⟨G, 0, none⟩ (.int .i64 1))
    have HRGA := hid_in (HRG1.out.set_same 0 (.int .i64 1))
    have HBA : Hid (Below G w1 (w1.setCell ⟨G, 0, none⟩ (.int .i64 1))) := (Below.refl _ _).grown HGA.out (by have := HS1.out; have := HGGG.out; omega) (fun k e => by cases e; exact Nat.le_refl _)
    have HIA := hid_in (HI1.out.belowM HBA.out (by have := HGGG.out; omega) (by have := HGGG.out; omega))
    have HRZA := hid_in (HRZ1.out.set_other ⟨G, 0, none⟩ (.int .i64 1) (by have := HGGG.out; show _ ≠ G; omega))
    have HBWA : Hid (Below w.heap.size w (w1.setCell ⟨G, 0, none⟩ (.int .i64 1))) := HB1.out.trans (HBA.out.mono (by have := HGGG.out; omega))
    have HTX := hid_in (rtext_s _ g w.heap.size s1 64 (by decide) HIA.out)
    obtain ⟨X, HX⟩ : ∃ X, Hid (str (sText 64 s1).1 = X) := ⟨_, rfl⟩
    obtain ⟨⟨t1, t2⟩, HT⟩ : ∃ t, Hid ((sText 64 s1).2 = t) := ⟨_, rfl⟩
    rw [HX.out, HT.out] at HTX
    go_upto_region 31 with (first | (go_at_call 36; refine HTX.out.mono ?_; rintro e w3 ⟨rfl, h1, h2⟩; have HI3 := hid_in h1; have HG3 := hid_in h2; clear h1 h2; clear d0 d1 d2 d3 d4 f0 f1 f2 f3 f4; have hrg3 : Row w3 G [.int .i64 1, .string ⟨#[]⟩, .int .i64 0, .slice none 0 0, .slice none 0 0] 31 := HRGA.out.grew HG3.out (by have := HGGG.out; omega); have HRG3 := hid_in hrg3; have d1 : w3.cell? ⟨G, 1, none⟩ = some (.string ⟨#[]⟩) := hrg3.cell 1; have f1 := hrg3.frozen 1; clear hrg3))
    obtain ⟨W9, HW9⟩ : ∃ W9, Hid (w3.setCell ⟨G, 1, none⟩ (.string X) = W9) := ⟨_, rfl⟩
    have HGB := hid_in (grownBy_setCell w3 ⟨G, 1, none⟩ (.string X))
    rw [HW9.out] at HGB
    have HBG : Hid (Below G w3 W9) := (Below.refl _ _).grown HGB.out (Nat.le_of_lt HRG3.out.lt) (fun k e => by cases e; exact Nat.le_refl _)
    have HRG : Hid (Row W9 G [.int .i64 1, .string X, .int .i64 0, .slice none 0 0, .slice none 0 0] 31) := by show Row _ _ _ _; rw [← HW9.out]; exact HRG3.out.set_same 1 _
    have HRZ : Hid (Row W9 w.heap.size zs 31) := (HRZA.out.grew HG3.out (by have := HGGG.out; omega)).below HBG.out (by have := HGGG.out; omega)
    have HIt : Hid (RI w.heap.size W9 g (t1, t2)) := HI3.out.belowM HBG.out (by have := HGGG.out; omega) (by have := HGGG.out; omega)
    have HBW : Hid (Below w.heap.size w W9) := (HG3.out.below HBWA.out HBWA.out.size (fun k hk => by have := HGGG.out; omega)).trans (HBG.out.mono (by have := HGGG.out; omega))
    obtain ⟨n, Hn⟩ : ∃ n, Hid (n = Nd.mk 1 X 0 [] []) := ⟨_, rfl⟩
    have HND : Hid (IsN W9 (.agg #[.int .i64 1, .string X, .int .i64 0, .slice none 0 0, .slice none 0 0]) n) := by show IsN _ _ _; rw [Hn.out]; exact ⟨⟨_, _, rfl, Els.nil _ _, Els.nil _ _⟩, ⟨fun d h => (by cases h), fun d h => (by cases h), i64_1, i64_0⟩⟩
    have HFR : Hid (Fresh (w.heap.size + 1) (.agg #[.int .i64 1, .string X, .int .i64 0, .slice none 0 0, .slice none 0 0])) := fresh5 _ _ _ (own_none _) (own_none _)
    have HTT : Hid (rd (bs, 0) = (n, (t1, t2))) := by show _ = _; rw [rd_1 (by rw [HN.out]; rfl), HS1s.out, HX.out, HT.out, Hn.out]
    have HSH : Hid n.short := by have h := rd_short (bs, 0); rw [HTT.out] at h; exact h
    refine wp_world HW9.out ?_
    clear HW9 HGA HRGA HBA HIA HRZA HBWA HTX HI3 HG3 HRG3 HGB HBG HRG1 HRZ1 HI1 HB1 d1 f1 Hn
    obtain ⟨bs9, k9, hri9, _⟩ := id HIt.out
    obtain ⟨_, _, _, _, hrow9, _⟩ := hri9.ex
    have cg2 : W9.cell? ⟨g, 2, none⟩ = some (.int .i64 (t2 : Int)) := hrow9.cell 2
    clear hri9 hrow9
    have z0 : W9.cell? ⟨w.heap.size, 0, none⟩ = some (.int .i64 0) := HRZ.out.cell 0
    have z1 : W9.cell? ⟨w.heap.size, 1, none⟩ = some (.string ⟨#[]⟩) := HRZ.out.cell 1
    have z2 : W9.cell? ⟨w.heap.size, 2, none⟩ = some (.int .i64 0) := HRZ.out.cell 2
    have z3 : W9.cell? ⟨w.heap.size, 3, none⟩ = some (.slice none 0 0) := HRZ.out.cell 3
    have z4 : W9.cell? ⟨w.heap.size, 4, none⟩ = some (.slice none 0 0) := HRZ.out.cell 4
    have y0 := HRZ.out.frozen 0
    have y1 := HRZ.out.frozen 1
    have y2 := HRZ.out.frozen 2
    have y3 := HRZ.out.frozen 3
    have y4 := HRZ.out.frozen 4
    have d0 : W9.cell? ⟨G, 0, none⟩ = some (.int .i64 1) := HRG.out.cell 0
    have d1 : W9.cell? ⟨G, 1, none⟩ = some (.string X) := HRG.out.cell 1
    have d2 : W9.cell? ⟨G, 2, none⟩ = some (.int .i64 0) := HRG.out.cell 2
    have d3 : W9.cell? ⟨G, 3, none⟩ = some (.slice none 0 0) := HRG.out.cell 3
    have d4 : W9.cell? ⟨G, 4, none⟩ = some (.slice none 0 0) := HRG.out.cell 4
    have n1 : w.heap.size ≠ G := by have := HGGG.out; omega
    have n2 : G ≠ w.heap.size := by have := HGGG.out; omega
    by_cases ht2 : t2 = 0
    · subst ht2
      cases t1 with
      | nil =>
        have HL := hid_in (rleft_0 W9 g w.heap.size 0 HIt.out)
        go_wp2_with (first | (go_at_call 38; refine HL.out.mono ?_; rintro e wl ⟨rfl, rfl⟩) | (go_at_call 12; refine (rcheck_any W9.drew _ n HND.out.drew1 HSH.out).mono ?_; rintro e w5 ⟨hsays, hb5⟩; have HRZ5 := hid_in ((HRZ.out.drew).below hb5 HRZ.out.lt); have HRG5 := hid_in ((HRG.out.drew).below hb5 HRG.out.lt); have HB5 := hid_in ((below_drewN HBW.out 1).trans (hb5.mono HBW.out.size)); have HN5 := hid_in ((HND.out.drew1).below hb5); clear hb5; clear z0 z1 z2 z3 z4 y0 y1 y2 y3 y4 d0 d1 d2 d3 d4 cg2; have d0 : w5.cell? ⟨G, 0, none⟩ = some (.int .i64 1) := HRG5.out.cell 0; have d1 : w5.cell? ⟨G, 1, none⟩ = some (.string X) := HRG5.out.cell 1; have d2 : w5.cell? ⟨G, 2, none⟩ = some (.int .i64 0) := HRG5.out.cell 2; have d3 : w5.cell? ⟨G, 3, none⟩ = some (.slice none 0 0) := HRG5.out.cell 3; have d4 : w5.cell? ⟨G, 4, none⟩ = some (.slice none 0 0) := HRG5.out.cell 4; have z0 : w5.cell? ⟨w.heap.size, 0, none⟩ = some (.int .i64 0) := HRZ5.out.cell 0; have z1 : w5.cell? ⟨w.heap.size, 1, none⟩ = some (.string ⟨#[]⟩) := HRZ5.out.cell 1; have z2 : w5.cell? ⟨w.heap.size, 2, none⟩ = some (.int .i64 0) := HRZ5.out.cell 2; have z3 : w5.cell? ⟨w.heap.size, 3, none⟩ = some (.slice none 0 0) := HRZ5.out.cell 3; have z4 : w5.cell? ⟨w.heap.size, 4, none⟩ = some (.slice none 0 0) := HRZ5.out.cell 4; have y0 := HRZ5.out.frozen 0; have y1 := HRZ5.out.frozen 1; have y2 := HRZ5.out.frozen 2; have y3 := HRZ5.out.frozen 3; have y4 := HRZ5.out.frozen 4; rcases hsays.cases with ⟨rfl, hP⟩ | ⟨rfl, hP⟩; all_goals (have HPP := hid_in hP; clear hP hsays)))
        · have HF := hid_in (set5 HRZ5.out (.int .i64 1) (.string X) (.int .i64 0) (.slice none 0 0) (.slice none 0 0))
          refine post_Row2 2 3 31 Try.results16 w.heap.size rfl 31 _ HF.out.1 _ Try.underlying31 rfl 5 info31 rfl rfl ?_
          have hm : Means bs n := ⟨HPP.out, HND.out.ok, by have h := enc_rd HLT.out (by rw [HTT.out]) (by rw [HTT.out]; exact HPP.out); rw [HTT.out] at h; exact h⟩
          exact RDPost.yes _ n rfl hm HFR.out (HN5.out.grown HF.out.2 HFR.out (Nat.lt_succ_self _)) (HB5.out.grown HF.out.2 HB5.out.size (fun k e => by cases e; exact Nat.le_refl _))
        · have HNM : Hid (∀ n, ¬ Means bs n) := fun m hm => HPP.out (by have h := HTT.out.symm.trans hm.rd; rw [(Prod.mk.inj h).1]; exact hm.1)
          have HF := hid_in (set5 HRZ5.out (.int .i64 0) (.string ⟨#[]⟩) (.int .i64 0) (.slice none 0 0) (.slice none 0 0))
          refine post_Row2 2 3 31 Try.results16 w.heap.size rfl 31 _ HF.out.1 _ Try.underlying31 rfl 5 info31 rfl rfl ?_
          exact RDPost.no _ rfl HNM.out (zeroN_is _) (HB5.out.grown HF.out.2 HB5.out.size (fun k e => by cases e; exact Nat.le_refl _))
      | cons c r =>
        have hl1 : (((c :: r).length : Int) == 0) = false := by rw [beq_eq_false_iff_ne]; simp; omega
        have hl2 : ¬ (((c :: r).length : Int) = 0) := by simp; omega
        have HNM : Hid (∀ n, ¬ Means bs n) := fun m hm => by have h := HTT.out.symm.trans hm.rd; have := (Prod.mk.inj h).2; simp at this
        have HL := hid_in (rleft_t W9 g w.heap.size (c :: r) 0 HIt.out)
        generalize hcl : ((c :: r).length : Int) = LL at *
        clear hcl
        have HRZD := hid_in HRZ.out.drew
        have HBD : Hid (Below w.heap.size w W9.drew) := below_drewN HBW.out 1
        go_wp2_with (first | (go_at_call 38; refine HL.out.mono ?_; rintro e wl ⟨rfl, hwl⟩; rw [← hwl] at HRZD HBD; have HWL := hid_in hwl; clear hwl; clear z0 z1 z2 z3 z4 y0 y1 y2 y3 y4 cg2; have z0 : wl.cell? ⟨w.heap.size, 0, none⟩ = some (.int .i64 0) := HRZD.out.cell 0; have z1 : wl.cell? ⟨w.heap.size, 1, none⟩ = some (.string ⟨#[]⟩) := HRZD.out.cell 1; have z2 : wl.cell? ⟨w.heap.size, 2, none⟩ = some (.int .i64 0) := HRZD.out.cell 2; have z3 : wl.cell? ⟨w.heap.size, 3, none⟩ = some (.slice none 0 0) := HRZD.out.cell 3; have z4 : wl.cell? ⟨w.heap.size, 4, none⟩ = some (.slice none 0 0) := HRZD.out.cell 4; have y0 := HRZD.out.frozen 0; have y1 := HRZD.out.frozen 1; have y2 := HRZD.out.frozen 2; have y3 := HRZD.out.frozen 3; have y4 := HRZD.out.frozen 4))
        have HF := hid_in (set5 HRZD.out (.int .i64 0) (.string ⟨#[]⟩) (.int .i64 0) (.slice none 0 0) (.slice none 0 0))
        refine post_Row2 2 3 31 Try.results16 w.heap.size rfl 31 _ HF.out.1 _ Try.underlying31 rfl 5 info31 rfl rfl ?_
        exact RDPost.no _ rfl HNM.out (zeroN_is _) (HBD.out.grown HF.out.2 HBD.out.size (fun k e => by cases e; exact Nat.le_refl _))
    · have ht3 : ((t2 : Int) == 0) = false := by rw [beq_eq_false_iff_ne]; omega
      have HNM : Hid (∀ n, ¬ Means bs n) := fun m hm => by have h := HTT.out.symm.trans hm.rd; have := (Prod.mk.inj (Prod.mk.inj h).2).2; exact ht2 this
      go_wp2_with fail
      have HF := hid_in (set5 HRZ.out (.int .i64 0) (.string ⟨#[]⟩) (.int .i64 0) (.slice none 0 0) (.slice none 0 0))
      refine post_Row2 2 3 31 Try.results16 w.heap.size rfl 31 _ HF.out.1 _ Try.underlying31 rfl 5 info31 rfl rfl ?_
      exact RDPost.no _ rfl HNM.out (zeroN_is _) (HBW.out.grown HF.out.2 HBW.out.size (fun k e => by cases e; exact Nat.le_refl _))
  · by_cases h2 : N = 2
    · subst h2
      have HGA := hid_in (grownBy_setCell w1 ⟨G, 0, none⟩ (.int .i64 2))
      have HRGA := hid_in (HRG1.out.set_same 0 (.int .i64 2))
      have HBA : Hid (Below G w1 (w1.setCell ⟨G, 0, none⟩ (.int .i64 2))) := (Below.refl _ _).grown HGA.out (by have := HS1.out; have := HGGG.out; omega) (fun k e => by cases e; exact Nat.le_refl _)
      have HIA := hid_in (HI1.out.belowM HBA.out (by have := HGGG.out; omega) (by have := HGGG.out; omega))
      have HRZA := hid_in (HRZ1.out.set_other ⟨G, 0, none⟩ (.int .i64 2) (by have := HGGG.out; show _ ≠ G; omega))
      have HBWA : Hid (Below w.heap.size w (w1.setCell ⟨G, 0, none⟩ (.int .i64 2))) := HB1.out.trans (HBA.out.mono (by have := HGGG.out; omega))
      have HNU := hid_in (rnum_s _ g w.heap.size s1 HIA.out)
      obtain ⟨N2, hN2⟩ : ∃ N2, (sNum s1).1 = N2 := ⟨_, rfl⟩
      obtain ⟨s2, HS2⟩ : ∃ s2, Hid ((sNum s1).2 = s2) := ⟨_, rfl⟩
      rw [hN2, HS2.out] at HNU
      have HN2 := hid_in hN2
      have HN2l : Hid (N2 < 18446744073709551616) := by show _ < _; rw [← hN2]; unfold sNum; split; exact rnum_lt _; show (0 : Nat) < _; decide
      clear hN2
      go_upto_region 11 with (first | (go_at_call 35; refine HNU.out.mono ?_; rintro e w3 ⟨rfl, h1, h2⟩; have HI3 := hid_in h1; have HG3 := hid_in h2; clear h1 h2))
      clear d0 d1 d2 d3 d4 f0 f1 f2 f3 f4
      have HRG3 : Hid (Row w3 G [.int .i64 2, .string ⟨#[]⟩, .int .i64 0, .slice none 0 0, .slice none 0 0] 31) := HRGA.out.grew HG3.out (by have := HGGG.out; omega)
      have HRZ3 : Hid (Row w3 w.heap.size zs 31) := HRZA.out.grew HG3.out (by have := HGGG.out; omega)
      have HBW3 : Hid (Below w.heap.size w w3) := HG3.out.below HBWA.out HBWA.out.size (fun k hk => by have := HGGG.out; omega)
      clear HGA HRGA HBA HIA HRZA HBWA HNU HG3 HRG1 HRZ1 HI1 HB1 HS1
      by_cases hbig : 1024 < N2
      · have hbig2 : (1024 : Int) < (N2 : Int) := by omega
        have HNM : Hid (∀ n, ¬ Means bs n) := fun m hm => by
          have h := hm.rd
          rw [rd_2 (z := 1025) (by rw [HN.out]; rfl) (by rw [HS1s.out, HN2.out]; unfold cutN; omega)] at h
          have hk : m.size = 1025 ∧ m.kind = 2 := by rw [← (Prod.mk.inj h).1]; exact ⟨rfl, rfl⟩
          rcases hm.1 with ⟨q, _⟩ | ⟨_, _, _, q, _⟩ | ⟨q, _⟩ <;> omega
        have z0 : w3.cell? ⟨w.heap.size, 0, none⟩ = some (.int .i64 0) := HRZ3.out.cell 0
        have z1 : w3.cell? ⟨w.heap.size, 1, none⟩ = some (.string ⟨#[]⟩) := HRZ3.out.cell 1
        have z2 : w3.cell? ⟨w.heap.size, 2, none⟩ = some (.int .i64 0) := HRZ3.out.cell 2
        have z3 : w3.cell? ⟨w.heap.size, 3, none⟩ = some (.slice none 0 0) := HRZ3.out.cell 3
        have z4 : w3.cell? ⟨w.heap.size, 4, none⟩ = some (.slice none 0 0) := HRZ3.out.cell 4
        have y0 := HRZ3.out.frozen 0
        have y1 := HRZ3.out.frozen 1
        have y2 := HRZ3.out.frozen 2
        have y3 := HRZ3.out.frozen 3
        have y4 := HRZ3.out.frozen 4
        go_wp2_with fail
        have HF := hid_in (set5 HRZ3.out (.int .i64 0) (.string ⟨#[]⟩) (.int .i64 0) (.slice none 0 0) (.slice none 0 0))
        refine post_Row2 2 3 31 Try.results16 w.heap.size rfl 31 _ HF.out.1 _ Try.underlying31 rfl 5 info31 rfl rfl ?_
        exact RDPost.no _ rfl HNM.out (zeroN_is _) (HBW3.out.grown HF.out.2 HBW3.out.size (fun k e => by cases e; exact Nat.le_refl _))
      · have hsm : N2 ≤ 1024 := by omega
        have hsm2 : ¬ ((1024 : Int) < (N2 : Int)) := by omega
        have hwr : IntKind.i64.wrap (N2 : Int) = (N2 : Int) := by rw [IntKind.wrap_i64]; omega
        have d0 : w3.cell? ⟨G, 0, none⟩ = some (.int .i64 2) := HRG3.out.cell 0
        have d1 : w3.cell? ⟨G, 1, none⟩ = some (.string ⟨#[]⟩) := HRG3.out.cell 1
        have d2 : w3.cell? ⟨G, 2, none⟩ = some (.int .i64 0) := HRG3.out.cell 2
        have d3 : w3.cell? ⟨G, 3, none⟩ = some (.slice none 0 0) := HRG3.out.cell 3
        have d4 : w3.cell? ⟨G, 4, none⟩ = some (.slice none 0 0) := HRG3.out.cell 4
        have f2 := HRG3.out.frozen 2
        have HGS2 := hid_in (grownBy_setCell w3 ⟨G, 2, none⟩ (.int .i64 (N2 : Int)))
        have HG3s : Hid (G < w3.heap.size) := HRG3.out.lt
        have HBS2 : Hid (Below G w3 (w3.setCell ⟨G, 2, none⟩ (.int .i64 (N2 : Int)))) := (Below.refl _ _).grown HGS2.out (Nat.le_of_lt HG3s.out) (fun k e => by cases e; exact Nat.le_refl _)
        have HGB : Hid (w.heap.size < g ∧ g < G ∧ G < w3.heap.size) := ⟨by have := HGGG.out; omega, by have := HGGG.out; omega, HG3s.out⟩
        have HP0 : Hid (PInv w g G w3.heap.size (N2 : Int) s2 0 (w3.setCell ⟨G, 2, none⟩ (.int .i64 (N2 : Int)))) := ⟨⟨.slice none 0 0, HRG3.out.set_same 2 _, World.ownsRow_nil _ _ _ _⟩, HI3.out.belowM HBS2.out HGB.out.2.1 (by have := HGB.out; omega), HRZ3.out.below HBS2.out (by have := HGB.out; omega), HBW3.out.trans (HBS2.out.mono (by have := HGB.out; omega)), by simp [World.setCell]⟩
        generalize w3.heap.size = base at *
        obtain ⟨ie, hie, hz1, hz2, hz3⟩ := info49h
        obtain ⟨ze, hz4, hz5⟩ := hz3.out
        have HZ4 := hid_in hz4
        have HZ5 := hid_in hz5
        clear hz4 hz5 hz3 HGS2 HG3s HBS2 HI3 HRG3 HRZ3 HBW3
        go_wp2_with fail
        go_loopw [8] (fun vl W' => ∃ j : Nat, vl = .int .i64 ((N2 : Int) - 64 * (j : Int)) ∧ (0 < j → 0 < (N2 : Int) - 64 * ((j : Int) - 1)) ∧ Hid (PInv w g G base (N2 : Int) s2 j W')) (fun vl _ => (intOf vl + 64).toNat)
        case atStart => exact ⟨0, by simp, by omega, HP0⟩
        case round =>
          obtain ⟨j, rfl, hj, hP⟩ := hrel
          clear d0 d1 d2 d3 d4 f2 HP0
          obtain ⟨vp, hrow, hown⟩ := hP.out.row
          by_cases hlt : 0 < (N2 : Int) - 64 * (j : Int)
          · have hj17 : j ≤ 17 := by omega
            have HRGD : Hid (Row wr.drew G [.int .i64 2, .string ⟨#[]⟩, .int .i64 (N2 : Int), vp, .slice none 0 0] 31) := hrow.drew
            have cG0 : wr.cell? ⟨G, 3, none⟩ = some vp := hrow.cell 3
            have HOWN := hid_in (own_belowK hown (below_drewN (Below.refl _ wr) 1))
            have HBS : Hid (base ≤ wr.heap.size) := hP.out.size
            have HD := hid_in (rdig_s wr.drew g w.heap.size (sParts j s2).2 hP.out.below.size (hP.out.ri.belowM (below_drewN (Below.refl _ wr) 1) hP.out.ri.blk hP.out.below.size))
            have HE1 : Hid (∀ v ∈ dcells (sDig (sParts j s2).2).1, v.oneCell' = true) := one_u8 _
            have HEL : Hid ((dcells (sDig (sParts j s2).2).1).length = 32) := dcells_length (sDig_length _)
            have HXS : Hid (((sParts (j + 1) s2).1.map dcells).flatten = ((sParts j s2).1.map dcells).flatten ++ dcells (sDig (sParts j s2).2).1) := by show _ = _; simp [sParts]
            have HST : Hid ((sParts (j + 1) s2).2 = (sDig (sParts j s2).2).2) := rfl
            obtain ⟨RG, HRGE⟩ : ∃ RG, Hid ([.int .i64 2, .string ⟨#[]⟩, .int .i64 (N2 : Int), vp, .slice none 0 0] = RG) := ⟨_, rfl⟩
            have HR3 : Hid (∀ v, RG.set 3 v = [.int .i64 2, .string ⟨#[]⟩, .int .i64 (N2 : Int), v, .slice none 0 0]) := fun v => by rw [← HRGE.out]; rfl
            have HR3g : Hid (∀ {W : World}, Row W G RG 31 → W.cell? ⟨G, 3, none⟩ = some vp) := fun h => by rw [h.cell, ← HRGE.out]; rfl
            rw [HRGE.out] at HRGD
            generalize dcells (sDig (sParts j s2).2).1 = D at *
            generalize ((sParts j s2).1.map dcells).flatten = XS at *
            clear hrow hown
            go_upto_region 17 with fail
            refine wp_region_held_drew (S := fun _ => True) (by kernel_rfl) trivial (fun hHeld => ?_)
            refine take_put (i := 0) (d := 43) (v := ?_) rfl rfl (by kernel_rfl) (by kernel_rfl) (by kernel_rfl) (fun _ _ _ h => h) (Or.inl ⟨by kernel_rfl, ?_⟩) hHeld ?_
            rotate_left
            · (intro w hSw; (try dsimp only at hSw); go_simp; (try with_reducible rfl))
            simp only [Act.put, List.setIfInBounds_toArray, List.set_cons_zero, List.set_cons_succ]
            refine take_put (i := 2) (d := 45) (v := ?_) rfl rfl (by kernel_rfl) (by kernel_rfl) (by kernel_rfl) (fun _ _ _ h => h) (Or.inl ⟨by kernel_rfl, ?_⟩) hHeld ?_
            rotate_left
            · (intro w hSw; (try dsimp only at hSw); go_simp; (try with_reducible rfl))
            simp only [Act.put, List.setIfInBounds_toArray, List.set_cons_zero, List.set_cons_succ]
            refine wpAnyH_ready (rs := [1, 3]) (by kernel_rfl) (by simp) ?_
            refine AllReadyH.cons rfl (fun K hK => ?_) (AllReadyH.cons rfl (fun K hK => ?_) AllReadyH.nil)
            · rw [if_pos (by rfl)]
              go_simp
              refine hK.out _ _ trivial (fun hHeld => ?_)
              clear hK K
              refine wpAnyH_ready (rs := [3]) (by kernel_rfl) (by simp) ?_
              refine AllReadyH.cons rfl (fun K hK => ?_) AllReadyH.nil
              rw [if_pos (by rfl)]
              go_simp
              refine HD.out.mono ?_
              rintro e w6 ⟨rfl, h1, h2⟩
              have H6 := hid_in h1
              have HG6 := hid_in h2
              clear h1 h2
              have HO6 := hid_in (own_grewK HOWN.out HG6.out (fun q hq h => by have := own_geK HOWN.out q hq; have := HGB.out; omega))
              have hrg6 := HRGD.out.grew HG6.out (by have := HGB.out; omega)
              have HRG6 := hid_in hrg6
              have cG6 : w6.cell? ⟨G, 3, none⟩ = some vp := HR3g.out hrg6
              clear hrg6
              go_simp
              refine hK.out _ _ trivial (fun hHeld => ?_)
              clear hK K
              refine wpAnyH_ready (rs := [4]) (by kernel_rfl) (by simp) ?_
              refine AllReadyH.cons rfl (fun K hK => ?_) AllReadyH.nil
              rw [if_pos (by rfl)]
              refine wp_slice1 28 _ rfl _ _ _ rfl (slice28 D HEL.out _) ?_
              simp only [Act.put, List.setIfInBounds_toArray]
              have cG7 : (w6.alloc (.cells D.toArray 49)).cell? ⟨G, 3, none⟩ = some vp := (Below.cell ((Below.refl w6.heap.size w6).alloc (Nat.le_refl _) _) (p := ⟨G, 3, none⟩) HRG6.out.lt).trans cG6
              refine hK.out _ _ trivial (fun hHeld => ?_)
              clear hK K
              refine wpAnyH_ready (rs := [5]) (by kernel_rfl) (by simp) ?_
              refine AllReadyH.cons rfl (fun K hK => ?_) AllReadyH.nil
              rw [if_pos (by rfl)]
              refine wp_append_lies _ _ _ 28 rfl base 49 ie ze 32 32 Try.underlying28 hie.out HZ4.out hz1.out hz2.out HZ5.out (by decide) vp j XS rfl (HO6.out.alloc _) ⟨w6.heap.size, 0, none⟩ 1 1 D rfl (by rw [HEL.out]) (World.news_of_block (heap_alloc_new w6 _)) HE1.out (by decide) (by simp [maxLen]; omega) (by omega) (by have := HBS.out; have := HG6.out.size; simp at this ⊢; omega) _ rfl ?_
              intro g9 cap9 w9 hown9 hg9 hor9 hlt9
              simp only [Act.put]
              have HO9 := hid_in hown9
              have HGR9 := hid_in hg9
              have hrg9 : Row w9 G RG 31 := (HRG6.out.alloc _).grown HGR9.out (fun h => by have := own_geK HO6.out G h.symm; have := HGB.out; omega)
              have HRG9 := hid_in hrg9
              have cG9 : w9.cell? ⟨G, 3, none⟩ = some vp := HR3g.out hrg9
              have fG9 := hrg9.frozen 3
              clear hown9 hg9 hor9 hlt9 hrg9
              refine hK.out _ _ trivial (fun hHeld => ?_)
              clear hK K
              refine take_put (i := 6) (d := 49) (v := ?_) rfl rfl (by kernel_rfl) (by kernel_rfl) (by kernel_rfl) (fun _ _ _ h => h) (Or.inl ⟨by kernel_rfl, ?_⟩) hHeld ?_
              rotate_left
              · (intro w hSw; (try dsimp only at hSw); go_simp; (try with_reducible rfl))
              simp only [Act.put]
              refine wpAnyH_ready (rs := [7]) (by kernel_rfl) (by simp) ?_
              refine AllReadyH.cons rfl (fun K hK => ?_) AllReadyH.nil
              rw [if_pos (by rfl)]
              go_simp
              refine hK.out _ _ trivial (fun hHeld => ?_)
              clear hK K
              refine wpAnyH_done (by kernel_rfl) ?_ _
              go_wp2_with fail
              go_roundw
              case measure => simp [intOf]; omega
              case rel =>
                go_light
                refine ⟨j + 1, by go_num, fun _ => by omega, (?_ : PInv _ _ _ _ _ _ _ _)⟩
                obtain ⟨q1, q2, q3, q4, q5, q6⟩ := app_step (fld := 3) HGB.out.1 HGB.out.2.1 HGB.out.2.2 hP.out.z hP.out.below HBS.out H6.out HG6.out HRG6.out HO6.out HGR9.out HRG9.out HO9.out
                rw [HR3.out] at q1
                exact ⟨⟨_, q1, by rw [HXS.out]; exact q2⟩, by rw [HST.out]; exact q3, q4, q5, q6⟩
            · rw [if_pos (by rfl)]
              go_simp
              refine HD.out.mono ?_
              rintro e w6 ⟨rfl, h1, h2⟩
              have H6 := hid_in h1
              have HG6 := hid_in h2
              clear h1 h2
              have HO6 := hid_in (own_grewK HOWN.out HG6.out (fun q hq h => by have := own_geK HOWN.out q hq; have := HGB.out; omega))
              have hrg6 := HRGD.out.grew HG6.out (by have := HGB.out; omega)
              have HRG6 := hid_in hrg6
              have cG6 : w6.cell? ⟨G, 3, none⟩ = some vp := HR3g.out hrg6
              clear hrg6
              go_simp
              refine hK.out _ _ trivial (fun hHeld => ?_)
              clear hK K
              refine wpAnyH_ready (rs := [1, 4]) (by kernel_rfl) (by simp) ?_
              refine AllReadyH.cons rfl (fun K hK => ?_) (AllReadyH.cons rfl (fun K hK => ?_) AllReadyH.nil)
              · rw [if_pos (by rfl)]
                go_simp
                refine hK.out _ _ trivial (fun hHeld => ?_)
                clear hK K
                refine wpAnyH_ready (rs := [4]) (by kernel_rfl) (by simp) ?_
                refine AllReadyH.cons rfl (fun K hK => ?_) AllReadyH.nil
                rw [if_pos (by rfl)]
                refine wp_slice1 28 _ rfl _ _ _ rfl (slice28 D HEL.out _) ?_
                simp only [Act.put, List.setIfInBounds_toArray]
                have cG7 : (w6.alloc (.cells D.toArray 49)).cell? ⟨G, 3, none⟩ = some vp := (Below.cell ((Below.refl w6.heap.size w6).alloc (Nat.le_refl _) _) (p := ⟨G, 3, none⟩) HRG6.out.lt).trans cG6
                refine hK.out _ _ trivial (fun hHeld => ?_)
                clear hK K
                refine wpAnyH_ready (rs := [5]) (by kernel_rfl) (by simp) ?_
                refine AllReadyH.cons rfl (fun K hK => ?_) AllReadyH.nil
                rw [if_pos (by rfl)]
                refine wp_append_lies _ _ _ 28 rfl base 49 ie ze 32 32 Try.underlying28 hie.out HZ4.out hz1.out hz2.out HZ5.out (by decide) vp j XS rfl (HO6.out.alloc _) ⟨w6.heap.size, 0, none⟩ 1 1 D rfl (by rw [HEL.out]) (World.news_of_block (heap_alloc_new w6 _)) HE1.out (by decide) (by simp [maxLen]; omega) (by omega) (by have := HBS.out; have := HG6.out.size; simp at this ⊢; omega) _ rfl ?_
                intro g9 cap9 w9 hown9 hg9 hor9 hlt9
                simp only [Act.put]
                have HO9 := hid_in hown9
                have HGR9 := hid_in hg9
                have hrg9 : Row w9 G RG 31 := (HRG6.out.alloc _).grown HGR9.out (fun h => by have := own_geK HO6.out G h.symm; have := HGB.out; omega)
                have HRG9 := hid_in hrg9
                have cG9 : w9.cell? ⟨G, 3, none⟩ = some vp := HR3g.out hrg9
                have fG9 := hrg9.frozen 3
                clear hown9 hg9 hor9 hlt9 hrg9
                refine hK.out _ _ trivial (fun hHeld => ?_)
                clear hK K
                refine take_put (i := 6) (d := 49) (v := ?_) rfl rfl (by kernel_rfl) (by kernel_rfl) (by kernel_rfl) (fun _ _ _ h => h) (Or.inl ⟨by kernel_rfl, ?_⟩) hHeld ?_
                rotate_left
                · (intro w hSw; (try dsimp only at hSw); go_simp; (try with_reducible rfl))
                simp only [Act.put]
                refine wpAnyH_ready (rs := [7]) (by kernel_rfl) (by simp) ?_
                refine AllReadyH.cons rfl (fun K hK => ?_) AllReadyH.nil
                rw [if_pos (by rfl)]
                go_simp
                refine hK.out _ _ trivial (fun hHeld => ?_)
                clear hK K
                refine wpAnyH_done (by kernel_rfl) ?_ _
                go_wp2_with fail
                go_roundw
                case measure => simp [intOf]; omega
                case rel =>
                  go_light
                  refine ⟨j + 1, by go_num, fun _ => by omega, (?_ : PInv _ _ _ _ _ _ _ _)⟩
                  obtain ⟨q1, q2, q3, q4, q5, q6⟩ := app_step (fld := 3) HGB.out.1 HGB.out.2.1 HGB.out.2.2 hP.out.z hP.out.below HBS.out H6.out HG6.out HRG6.out HO6.out HGR9.out HRG9.out HO9.out
                  rw [HR3.out] at q1
                  exact ⟨⟨_, q1, by rw [HXS.out]; exact q2⟩, by rw [HST.out]; exact q3, q4, q5, q6⟩
              · rw [if_pos (by rfl)]
                refine wp_slice1 28 _ rfl _ _ _ rfl (slice28 D HEL.out _) ?_
                simp only [Act.put, List.setIfInBounds_toArray]
                have cG7 : (w6.alloc (.cells D.toArray 49)).cell? ⟨G, 3, none⟩ = some vp := (Below.cell ((Below.refl w6.heap.size w6).alloc (Nat.le_refl _) _) (p := ⟨G, 3, none⟩) HRG6.out.lt).trans cG6
                refine hK.out _ _ trivial (fun hHeld => ?_)
                clear hK K
                refine wpAnyH_ready (rs := [1]) (by kernel_rfl) (by simp) ?_
                refine AllReadyH.cons rfl (fun K hK => ?_) AllReadyH.nil
                rw [if_pos (by rfl)]
                go_simp
                refine hK.out _ _ trivial (fun hHeld => ?_)
                clear hK K
                refine wpAnyH_ready (rs := [5]) (by kernel_rfl) (by simp) ?_
                refine AllReadyH.cons rfl (fun K hK => ?_) AllReadyH.nil
                rw [if_pos (by rfl)]
                refine wp_append_lies _ _ _ 28 rfl base 49 ie ze 32 32 Try.underlying28 hie.out HZ4.out hz1.out hz2.out HZ5.out (by decide) vp j XS rfl (HO6.out.alloc _) ⟨w6.heap.size, 0, none⟩ 1 1 D rfl (by rw [HEL.out]) (World.news_of_block (heap_alloc_new w6 _)) HE1.out (by decide) (by simp [maxLen]; omega) (by omega) (by have := HBS.out; have := HG6.out.size; simp at this ⊢; omega) _ rfl ?_
                intro g9 cap9 w9 hown9 hg9 hor9 hlt9
                simp only [Act.put, List.setIfInBounds_toArray]
                have HO9 := hid_in hown9
                have HGR9 := hid_in hg9
                have hrg9 : Row w9 G RG 31 := (HRG6.out.alloc _).grown HGR9.out (fun h => by have := own_geK HO6.out G h.symm; have := HGB.out; omega)
                have HRG9 := hid_in hrg9
                have cG9 : w9.cell? ⟨G, 3, none⟩ = some vp := HR3g.out hrg9
                have fG9 := hrg9.frozen 3
                clear hown9 hg9 hor9 hlt9 hrg9
                refine hK.out _ _ trivial (fun hHeld => ?_)
                clear hK K
                refine take_put (i := 6) (d := 49) (v := ?_) rfl rfl (by kernel_rfl) (by kernel_rfl) (by kernel_rfl) (fun _ _ _ h => h) (Or.inl ⟨by kernel_rfl, ?_⟩) hHeld ?_
                rotate_left
                · (intro w hSw; (try dsimp only at hSw); go_simp; (try with_reducible rfl))
                simp only [Act.put]
                refine wpAnyH_ready (rs := [7]) (by kernel_rfl) (by simp) ?_
                refine AllReadyH.cons rfl (fun K hK => ?_) AllReadyH.nil
                rw [if_pos (by rfl)]
                go_simp
                refine hK.out _ _ trivial (fun hHeld => ?_)
                clear hK K
                refine wpAnyH_done (by kernel_rfl) ?_ _
                go_wp2_with fail
                go_roundw
                case measure => simp [intOf]; omega
                case rel =>
                  go_light
                  refine ⟨j + 1, by go_num, fun _ => by omega, (?_ : PInv _ _ _ _ _ _ _ _)⟩
                  obtain ⟨q1, q2, q3, q4, q5, q6⟩ := app_step (fld := 3) HGB.out.1 HGB.out.2.1 HGB.out.2.2 hP.out.z hP.out.below HBS.out H6.out HG6.out HRG6.out HO6.out HGR9.out HRG9.out HO9.out
                  rw [HR3.out] at q1
                  exact ⟨⟨_, q1, by rw [HXS.out]; exact q2⟩, by rw [HST.out]; exact q3, q4, q5, q6⟩
          · have hjp : pieces (N2 : Int) = j := by unfold pieces; omega
            have HEL := hid_in (own_els (k := 32) (xs := (sParts j s2).1.map dcells) (by rw [List.length_map, sParts_length]; exact hown) (sParts_each j s2))
            have HOB := hid_in (fun q hq => (own_geK hown q hq).1)
            obtain ⟨pp, cc, _, _, hvp, _⟩ := HEL.out.ex
            subst hvp
            have HRG := hid_in hrow
            have HRZ := hid_in hP.out.z
            have HBW := hid_in hP.out.below
            obtain ⟨⟨t1, t2⟩, HT⟩ : ∃ t, Hid ((sParts j s2).2 = t) := ⟨_, rfl⟩
            have HIt : Hid (RI w.heap.size wr g (t1, t2)) := by show RI _ _ _ _; rw [← HT.out]; exact hP.out.ri
            obtain ⟨n, Hn⟩ : ∃ n, Hid (n = Nd.mk 2 ByteArray.empty (N2 : Int) (sParts j s2).1 []) := ⟨_, rfl⟩
            have HPO := hid_in ((sParts_ok j (s := s2) (by rw [← HS2.out]; exact sNum_ok HOK1.out)).1)
            have hlen : ((sParts j s2).1.map dcells).length = j := by rw [List.length_map, sParts_length]
            rw [hlen] at HRG HOB HEL
            have HND : Hid (IsN wr (.agg #[.int .i64 2, .string ⟨#[]⟩, .int .i64 (N2 : Int), .slice pp j cc, .slice none 0 0]) n) := by show IsN _ _ _; rw [Hn.out]; exact ⟨⟨_, _, rfl, HEL.out, Els.nil _ _⟩, ⟨HPO.out, fun d h => (by cases h), i64_2, (show i64 (N2 : Int) by unfold i64; omega)⟩⟩
            have HFR : Hid (Fresh (w.heap.size + 1) (.agg #[.int .i64 2, .string ⟨#[]⟩, .int .i64 (N2 : Int), .slice pp j cc, .slice none 0 0])) := fresh5 _ _ _ (fun q hq => by have := HOB.out q hq; have := HGB.out; omega) (own_none _)
            have HTT : Hid (rd (bs, 0) = (n, (t1, t2))) := by show _ = _; rw [rd_2 (z := N2) (by rw [HN.out]; rfl) (by rw [HS1s.out, HN2.out]; unfold cutN; omega), HS1s.out, HS2.out, hjp, HT.out, Hn.out]
            have HSH : Hid n.short := by have h := rd_short (bs, 0); rw [HTT.out] at h; exact h
            have hdr : Row wr G [.int .i64 2, .string ⟨#[]⟩, .int .i64 (N2 : Int), .slice pp j cc, .slice none 0 0] 31 := HRG.out
            clear hrow hown hP hlen hjp
            go_upto_region 31 with fail
            clear hdr Hn
            obtain ⟨bs9, k9, hri9, _⟩ := id HIt.out
            obtain ⟨_, _, _, _, hrow9, _⟩ := hri9.ex
            have cg2 : wr.cell? ⟨g, 2, none⟩ = some (.int .i64 (t2 : Int)) := hrow9.cell 2
            clear hri9 hrow9
            have z0 : wr.cell? ⟨w.heap.size, 0, none⟩ = some (.int .i64 0) := HRZ.out.cell 0
            have z1 : wr.cell? ⟨w.heap.size, 1, none⟩ = some (.string ⟨#[]⟩) := HRZ.out.cell 1
            have z2 : wr.cell? ⟨w.heap.size, 2, none⟩ = some (.int .i64 0) := HRZ.out.cell 2
            have z3 : wr.cell? ⟨w.heap.size, 3, none⟩ = some (.slice none 0 0) := HRZ.out.cell 3
            have z4 : wr.cell? ⟨w.heap.size, 4, none⟩ = some (.slice none 0 0) := HRZ.out.cell 4
            have y0 := HRZ.out.frozen 0
            have y1 := HRZ.out.frozen 1
            have y2 := HRZ.out.frozen 2
            have y3 := HRZ.out.frozen 3
            have y4 := HRZ.out.frozen 4
            have d0 : wr.cell? ⟨G, 0, none⟩ = some (.int .i64 2) := HRG.out.cell 0
            have d1 : wr.cell? ⟨G, 1, none⟩ = some (.string ⟨#[]⟩) := HRG.out.cell 1
            have d2 : wr.cell? ⟨G, 2, none⟩ = some (.int .i64 (N2 : Int)) := HRG.out.cell 2
            have d3 : wr.cell? ⟨G, 3, none⟩ = some (.slice pp j cc) := HRG.out.cell 3
            have d4 : wr.cell? ⟨G, 4, none⟩ = some (.slice none 0 0) := HRG.out.cell 4
            have n1 : w.heap.size ≠ G := by have := HGGG.out; omega
            have n2 : G ≠ w.heap.size := by have := HGGG.out; omega
            by_cases ht2 : t2 = 0
            · subst ht2
              cases t1 with
              | nil =>
                have HL := hid_in (rleft_0 wr g w.heap.size 0 HIt.out)
                go_wp2_with (first | (go_at_call 38; refine HL.out.mono ?_; rintro e wl ⟨rfl, rfl⟩) | (go_at_call 12; refine (rcheck_any wr.drew _ n HND.out.drew1 HSH.out).mono ?_; rintro e w5 ⟨hsays, hb5⟩; have HRZ5 := hid_in ((HRZ.out.drew).below hb5 HRZ.out.lt); have HRG5 := hid_in ((HRG.out.drew).below hb5 HRG.out.lt); have HB5 := hid_in ((below_drewN HBW.out 1).trans (hb5.mono HBW.out.size)); have HN5 := hid_in ((HND.out.drew1).below hb5); clear hb5; clear z0 z1 z2 z3 z4 y0 y1 y2 y3 y4 d0 d1 d2 d3 d4 cg2; have d0 : w5.cell? ⟨G, 0, none⟩ = some (.int .i64 2) := HRG5.out.cell 0; have d1 : w5.cell? ⟨G, 1, none⟩ = some (.string ⟨#[]⟩) := HRG5.out.cell 1; have d2 : w5.cell? ⟨G, 2, none⟩ = some (.int .i64 (N2 : Int)) := HRG5.out.cell 2; have d3 : w5.cell? ⟨G, 3, none⟩ = some (.slice pp j cc) := HRG5.out.cell 3; have d4 : w5.cell? ⟨G, 4, none⟩ = some (.slice none 0 0) := HRG5.out.cell 4; have z0 : w5.cell? ⟨w.heap.size, 0, none⟩ = some (.int .i64 0) := HRZ5.out.cell 0; have z1 : w5.cell? ⟨w.heap.size, 1, none⟩ = some (.string ⟨#[]⟩) := HRZ5.out.cell 1; have z2 : w5.cell? ⟨w.heap.size, 2, none⟩ = some (.int .i64 0) := HRZ5.out.cell 2; have z3 : w5.cell? ⟨w.heap.size, 3, none⟩ = some (.slice none 0 0) := HRZ5.out.cell 3; have z4 : w5.cell? ⟨w.heap.size, 4, none⟩ = some (.slice none 0 0) := HRZ5.out.cell 4; have y0 := HRZ5.out.frozen 0; have y1 := HRZ5.out.frozen 1; have y2 := HRZ5.out.frozen 2; have y3 := HRZ5.out.frozen 3; have y4 := HRZ5.out.frozen 4; rcases hsays.cases with ⟨rfl, hP⟩ | ⟨rfl, hP⟩; all_goals (have HPP := hid_in hP; clear hP hsays)))
                · have HF := hid_in (set5 HRZ5.out (.int .i64 2) (.string ⟨#[]⟩) (.int .i64 (N2 : Int)) (.slice pp j cc) (.slice none 0 0))
                  refine post_Row2 2 3 31 Try.results16 w.heap.size rfl 31 _ HF.out.1 _ Try.underlying31 rfl 5 info31 rfl rfl ?_
                  have hm : Means bs n := ⟨HPP.out, HND.out.ok, by have h := enc_rd HLT.out (by rw [HTT.out]) (by rw [HTT.out]; exact HPP.out); rw [HTT.out] at h; exact h⟩
                  exact RDPost.yes _ n rfl hm HFR.out (HN5.out.grown HF.out.2 HFR.out (Nat.lt_succ_self _)) (HB5.out.grown HF.out.2 HB5.out.size (fun k e => by cases e; exact Nat.le_refl _))
                · have HNM : Hid (∀ n, ¬ Means bs n) := fun m hm => HPP.out (by have h := HTT.out.symm.trans hm.rd; rw [(Prod.mk.inj h).1]; exact hm.1)
                  have HF := hid_in (set5 HRZ5.out (.int .i64 0) (.string ⟨#[]⟩) (.int .i64 0) (.slice none 0 0) (.slice none 0 0))
                  refine post_Row2 2 3 31 Try.results16 w.heap.size rfl 31 _ HF.out.1 _ Try.underlying31 rfl 5 info31 rfl rfl ?_
                  exact RDPost.no _ rfl HNM.out (zeroN_is _) (HB5.out.grown HF.out.2 HB5.out.size (fun k e => by cases e; exact Nat.le_refl _))
              | cons c r =>
                have hl1 : (((c :: r).length : Int) == 0) = false := by rw [beq_eq_false_iff_ne]; simp; omega
                have hl2 : ¬ (((c :: r).length : Int) = 0) := by simp; omega
                have HNM : Hid (∀ n, ¬ Means bs n) := fun m hm => by have h := HTT.out.symm.trans hm.rd; have := (Prod.mk.inj h).2; simp at this
                have HL := hid_in (rleft_t wr g w.heap.size (c :: r) 0 HIt.out)
                generalize hcl : ((c :: r).length : Int) = LL at *
                clear hcl
                have HRZD := hid_in HRZ.out.drew
                have HBD : Hid (Below w.heap.size w wr.drew) := below_drewN HBW.out 1
                go_wp2_with (first | (go_at_call 38; refine HL.out.mono ?_; rintro e wl ⟨rfl, hwl⟩; rw [← hwl] at HRZD HBD; have HWL := hid_in hwl; clear hwl; clear z0 z1 z2 z3 z4 y0 y1 y2 y3 y4 cg2; have z0 : wl.cell? ⟨w.heap.size, 0, none⟩ = some (.int .i64 0) := HRZD.out.cell 0; have z1 : wl.cell? ⟨w.heap.size, 1, none⟩ = some (.string ⟨#[]⟩) := HRZD.out.cell 1; have z2 : wl.cell? ⟨w.heap.size, 2, none⟩ = some (.int .i64 0) := HRZD.out.cell 2; have z3 : wl.cell? ⟨w.heap.size, 3, none⟩ = some (.slice none 0 0) := HRZD.out.cell 3; have z4 : wl.cell? ⟨w.heap.size, 4, none⟩ = some (.slice none 0 0) := HRZD.out.cell 4; have y0 := HRZD.out.frozen 0; have y1 := HRZD.out.frozen 1; have y2 := HRZD.out.frozen 2; have y3 := HRZD.out.frozen 3; have y4 := HRZD.out.frozen 4))
                have HF := hid_in (set5 HRZD.out (.int .i64 0) (.string ⟨#[]⟩) (.int .i64 0) (.slice none 0 0) (.slice none 0 0))
                refine post_Row2 2 3 31 Try.results16 w.heap.size rfl 31 _ HF.out.1 _ Try.underlying31 rfl 5 info31 rfl rfl ?_
                exact RDPost.no _ rfl HNM.out (zeroN_is _) (HBD.out.grown HF.out.2 HBD.out.size (fun k e => by cases e; exact Nat.le_refl _))
            · have ht3 : ((t2 : Int) == 0) = false := by rw [beq_eq_false_iff_ne]; omega
              have HNM : Hid (∀ n, ¬ Means bs n) := fun m hm => by have h := HTT.out.symm.trans hm.rd; have := (Prod.mk.inj (Prod.mk.inj h).2).2; exact ht2 this
              go_wp2_with fail
              have HF := hid_in (set5 HRZ.out (.int .i64 0) (.string ⟨#[]⟩) (.int .i64 0) (.slice none 0 0) (.slice none 0 0))
              refine post_Row2 2 3 31 Try.results16 w.heap.size rfl 31 _ HF.out.1 _ Try.underlying31 rfl 5 info31 rfl rfl ?_
              exact RDPost.no _ rfl HNM.out (zeroN_is _) (HBW.out.grown HF.out.2 HBW.out.size (fun k e => by cases e; exact Nat.le_refl _))
    · by_cases h3 : N = 3
      · subst h3
        have HGA := hid_in (grownBy_setCell w1 ⟨G, 0, none⟩ (.int .i64 3))
        have HRGA := hid_in (HRG1.out.set_same 0 (.int .i64 3))
        have HBA : Hid (Below G w1 (w1.setCell ⟨G, 0, none⟩ (.int .i64 3))) := (Below.refl _ _).grown HGA.out (by have := HS1.out; have := HGGG.out; omega) (fun k e => by cases e; exact Nat.le_refl _)
        have HIA := hid_in (HI1.out.belowM HBA.out (by have := HGGG.out; omega) (by have := HGGG.out; omega))
        have HRZA := hid_in (HRZ1.out.set_other ⟨G, 0, none⟩ (.int .i64 3) (by have := HGGG.out; show _ ≠ G; omega))
        have HBWA : Hid (Below w.heap.size w (w1.setCell ⟨G, 0, none⟩ (.int .i64 3))) := HB1.out.trans (HBA.out.mono (by have := HGGG.out; omega))
        have HNU := hid_in (rnum_s _ g w.heap.size s1 HIA.out)
        obtain ⟨N2, hN2⟩ : ∃ N2, (sNum s1).1 = N2 := ⟨_, rfl⟩
        obtain ⟨s2, HS2⟩ : ∃ s2, Hid ((sNum s1).2 = s2) := ⟨_, rfl⟩
        rw [hN2, HS2.out] at HNU
        have HN2 := hid_in hN2
        have HN2l : Hid (N2 < 18446744073709551616) := by show _ < _; rw [← hN2]; unfold sNum; split; exact rnum_lt _; show (0 : Nat) < _; decide
        clear hN2
        go_upto_region 21 with (first | (go_at_call 35; refine HNU.out.mono ?_; rintro e w3 ⟨rfl, h1, h2⟩; have HI3 := hid_in h1; have HG3 := hid_in h2; clear h1 h2))
        clear d0 d1 d2 d3 d4 f0 f1 f2 f3 f4
        have HRG3 : Hid (Row w3 G [.int .i64 3, .string ⟨#[]⟩, .int .i64 0, .slice none 0 0, .slice none 0 0] 31) := HRGA.out.grew HG3.out (by have := HGGG.out; omega)
        have HRZ3 : Hid (Row w3 w.heap.size zs 31) := HRZA.out.grew HG3.out (by have := HGGG.out; omega)
        have HBW3 : Hid (Below w.heap.size w w3) := HG3.out.below HBWA.out HBWA.out.size (fun k hk => by have := HGGG.out; omega)
        clear HGA HRGA HBA HIA HRZA HBWA HNU HG3 HRG1 HRZ1 HI1 HB1 HS1
        by_cases hbig : 64 < N2
        · have hbig2 : (64 : Int) < (N2 : Int) := by omega
          have HNM : Hid (∀ n, ¬ Means bs n) := fun m hm => by
            have h := hm.rd
            rw [rd_3 (z := 65) (by rw [HN.out]; rfl) (by rw [HS1s.out, HN2.out]; unfold cutN; omega)] at h
            have hk : m.items.length = 65 ∧ m.kind = 3 := by rw [← (Prod.mk.inj h).1]; exact ⟨sItems_length _ _ _, rfl⟩
            rcases hm.1 with ⟨q, _⟩ | ⟨q, _⟩ | ⟨_, _, _, _, q⟩
            · omega
            · omega
            · have := q.1; omega
          have z0 : w3.cell? ⟨w.heap.size, 0, none⟩ = some (.int .i64 0) := HRZ3.out.cell 0
          have z1 : w3.cell? ⟨w.heap.size, 1, none⟩ = some (.string ⟨#[]⟩) := HRZ3.out.cell 1
          have z2 : w3.cell? ⟨w.heap.size, 2, none⟩ = some (.int .i64 0) := HRZ3.out.cell 2
          have z3 : w3.cell? ⟨w.heap.size, 3, none⟩ = some (.slice none 0 0) := HRZ3.out.cell 3
          have z4 : w3.cell? ⟨w.heap.size, 4, none⟩ = some (.slice none 0 0) := HRZ3.out.cell 4
          have y0 := HRZ3.out.frozen 0
          have y1 := HRZ3.out.frozen 1
          have y2 := HRZ3.out.frozen 2
          have y3 := HRZ3.out.frozen 3
          have y4 := HRZ3.out.frozen 4
          go_wp2_with fail
          have HF := hid_in (set5 HRZ3.out (.int .i64 0) (.string ⟨#[]⟩) (.int .i64 0) (.slice none 0 0) (.slice none 0 0))
          refine post_Row2 2 3 31 Try.results16 w.heap.size rfl 31 _ HF.out.1 _ Try.underlying31 rfl 5 info31 rfl rfl ?_
          exact RDPost.no _ rfl HNM.out (zeroN_is _) (HBW3.out.grown HF.out.2 HBW3.out.size (fun k e => by cases e; exact Nat.le_refl _))
        · have hsm : N2 ≤ 64 := by omega
          have hsm2 : ¬ ((64 : Int) < (N2 : Int)) := by omega
          have hwr : IntKind.i64.wrap (N2 : Int) = (N2 : Int) := by rw [IntKind.wrap_i64]; omega
          have HG3s : Hid (G < w3.heap.size) := HRG3.out.lt
          have HGB : Hid (w.heap.size < g ∧ g < G ∧ G < w3.heap.size) := ⟨by have := HGGG.out; omega, by have := HGGG.out; omega, HG3s.out⟩
          have HP0 : Hid (IInv w g G w3.heap.size s2 0 w3) := ⟨⟨.slice none 0 0, HRG3.out, World.ownsRow_nil _ _ _ _⟩, HI3.out, HRZ3.out, HBW3.out, Nat.le_refl _⟩
          generalize w3.heap.size = base at *
          obtain ⟨ie, hie, hz1, hz2, hz3⟩ := info51h
          obtain ⟨ze, hz4, hz5⟩ := hz3.out
          have HZ4 := hid_in hz4
          have HZ5 := hid_in hz5
          have HOKS : Hid (okS s2) := by show okS _; rw [← HS2.out]; exact sNum_ok HOK1.out
          clear hz4 hz5 hz3 HG3s HI3 HRG3 HRZ3 HBW3
          go_wp2_with fail
          go_loopw [10] (fun vi W' => ∃ j : Nat, vi = .int .i64 (j : Int) ∧ j ≤ N2 ∧ Hid (IInv w g G base s2 j W')) (fun vi _ => N2 - (intOf vi).toNat)
          case atStart => exact ⟨0, rfl, by omega, HP0⟩
          case round =>
            obtain ⟨j, rfl, hj, hP⟩ := hrel
            clear HP0
            by_cases hlt : j < N2
            · obtain ⟨s3, HS3⟩ : ∃ s3, Hid ((sItems (cutN 3) j s2).2 = s3) := ⟨_, rfl⟩
              have HI3 : Hid (RI w.heap.size wr g s3) := by show RI _ _ _ _; rw [← HS3.out]; exact hP.out.ri
              have HTX := hid_in (rtext_s wr g w.heap.size s3 16 (by decide) HI3.out)
              obtain ⟨X, HX⟩ : ∃ X, Hid (str (sText 16 s3).1 = X) := ⟨_, rfl⟩
              obtain ⟨s4, HS4⟩ : ∃ s4, Hid ((sText 16 s3).2 = s4) := ⟨_, rfl⟩
              rw [HX.out, HS4.out] at HTX
              obtain ⟨N3, HN3⟩ : ∃ N3, Hid ((sNum s4).1 = N3) := ⟨_, rfl⟩
              obtain ⟨s5, HS5⟩ : ∃ s5, Hid ((sNum s4).2 = s5) := ⟨_, rfl⟩
              go_upto_region 28 with (first | (go_at_call 36; refine HTX.out.mono ?_; rintro e w4 ⟨rfl, h1, h2⟩; have HI4 := hid_in h1; have HG4 := hid_in h2; clear h1 h2) | (go_at_call 35; refine (rnum_s _ g w.heap.size s4 HI4.out).mono ?_; rintro e w5 ⟨rfl, h1, h2⟩; rw [HS5.out] at h1; rw [HN3.out]; have HI5 := hid_in h1; have HG5 := hid_in (HG4.out.trans h2 (fun q _ h => h)); clear h1 h2))
              have HZ5w : Hid (Row w5 w.heap.size zs 31) := hP.out.z.grew HG5.out (by have := HGB.out; omega)
              have HB5w : Hid (Below w.heap.size w w5) := HG5.out.below hP.out.below hP.out.below.size (fun k hk => by have := HGB.out; omega)
              have HSZ5 : Hid (base ≤ w5.heap.size) := Nat.le_trans hP.out.size HG5.out.size
              obtain ⟨vp, hrow, hown⟩ := hP.out.row
              have hrow5 := hrow.grew HG5.out (by have := HGB.out; omega)
              have HOW5 := hid_in (own_grewK hown HG5.out (fun q hq h => by have := own_geK hown q hq; have := HGB.out; omega))
              by_cases h3b : 3 < N3
              · have h3b2 : (3 : Int) < (N3 : Int) := by omega
                have HNM : Hid (∀ n, ¬ Means bs n) := fun m hm => by
                  have h := hm.rd
                  rw [rd_3 (z := N2) (by rw [HN.out]; rfl) (by rw [HS1s.out, HN2.out]; unfold cutN; omega), HS1s.out, HS2.out] at h
                  have hk : m.items = (sItems (cutN 3) N2 s2).1 ∧ m.kind = 3 := by rw [← (Prod.mk.inj h).1]; exact ⟨rfl, rfl⟩
                  rcases hm.1 with ⟨q, _⟩ | ⟨q, _⟩ | ⟨_, _, _, _, q⟩
                  · omega
                  · omega
                  · have hx := sItems_at (cutN 3) s2 j N2 hlt
                    rw [← hk.1] at hx
                    have hq := (itemsOk_kinds q _ (List.mem_of_getElem? hx)).1
                    have hkd : (sItem (cutN 3) (sItems (cutN 3) j s2).2).1.kind = (cutN 3 N3 : Int) := by rw [HS3.out]; show ((cutN 3 (sNum (sText 16 s3).2).1 : Nat) : Int) = _; rw [HS4.out, HN3.out]
                    rw [hkd] at hq
                    unfold cutN at hq
                    omega
                have z0 : w5.cell? ⟨w.heap.size, 0, none⟩ = some (.int .i64 0) := HZ5w.out.cell 0
                have z1 : w5.cell? ⟨w.heap.size, 1, none⟩ = some (.string ⟨#[]⟩) := HZ5w.out.cell 1
                have z2 : w5.cell? ⟨w.heap.size, 2, none⟩ = some (.int .i64 0) := HZ5w.out.cell 2
                have z3 : w5.cell? ⟨w.heap.size, 3, none⟩ = some (.slice none 0 0) := HZ5w.out.cell 3
                have z4 : w5.cell? ⟨w.heap.size, 4, none⟩ = some (.slice none 0 0) := HZ5w.out.cell 4
                have y0 := HZ5w.out.frozen 0
                have y1 := HZ5w.out.frozen 1
                have y2 := HZ5w.out.frozen 2
                have y3 := HZ5w.out.frozen 3
                have y4 := HZ5w.out.frozen 4
                clear hrow hown hrow5
                go_wp2_with fail
                have HF := hid_in (set5 HZ5w.out (.int .i64 0) (.string ⟨#[]⟩) (.int .i64 0) (.slice none 0 0) (.slice none 0 0))
                refine post_Row2 2 3 31 Try.results16 w.heap.size rfl 31 _ HF.out.1 _ Try.underlying31 rfl 5 info31 rfl rfl ?_
                exact RDPost.no _ rfl HNM.out (zeroN_is _) (HB5w.out.grown HF.out.2 HB5w.out.size (fun k e => by cases e; exact Nat.le_refl _))
              · have h3b2 : ¬ ((3 : Int) < (N3 : Int)) := by omega
                have hwr3 : IntKind.i64.wrap (N3 : Int) = (N3 : Int) := by rw [IntKind.wrap_i64]; omega
                have HRGD : Hid (Row w5.drew G [.int .i64 3, .string ⟨#[]⟩, .int .i64 0, .slice none 0 0, vp] 31) := hrow5.drew
                have cG0 : w5.cell? ⟨G, 4, none⟩ = some vp := hrow5.cell 4
                have HOWN := hid_in (own_belowK HOW5.out (below_drewN (Below.refl _ w5) 1))
                have HBS : Hid (base ≤ w5.heap.size) := HSZ5.out
                have HD := hid_in (rdig_s w5.drew g w.heap.size s5 HB5w.out.size (HI5.out.belowM (below_drewN (Below.refl _ w5) 1) HI5.out.blk HB5w.out.size))
                have HDL : Hid ((dcells (sDig s5).1).length = 32) := dcells_length (sDig_length _)
                have HXS : Hid (((sItems (cutN 3) (j + 1) s2).1.map It.cells).flatten = ((sItems (cutN 3) j s2).1.map It.cells).flatten ++ (.string X :: .int .i64 (N3 : Int) :: dcells (sDig s5).1)) := by
                  show _ = _
                  have hc3 : cutN 3 N3 = N3 := by unfold cutN; omega
                  simp only [sItems, HS3.out, sItem, HS4.out, HX.out, HN3.out, HS5.out, hc3, List.map_append, List.map_cons, List.map_nil, List.flatten_append, List.flatten_cons, List.flatten_nil, List.append_nil, It.cells, dcells]
                have HST : Hid ((sItems (cutN 3) (j + 1) s2).2 = (sDig s5).2) := by show _ = _; simp only [sItems, HS3.out, sItem, HS4.out, HS5.out]
                obtain ⟨RG, HRGE⟩ : ∃ RG, Hid ([.int .i64 3, .string ⟨#[]⟩, .int .i64 0, .slice none 0 0, vp] = RG) := ⟨_, rfl⟩
                have HR3 : Hid (∀ v, RG.set 4 v = [.int .i64 3, .string ⟨#[]⟩, .int .i64 0, .slice none 0 0, v]) := fun v => by rw [← HRGE.out]; rfl
                have HR3g : Hid (∀ {W : World}, Row W G RG 31 → W.cell? ⟨G, 4, none⟩ = some vp) := fun h => by rw [h.cell, ← HRGE.out]; rfl
                rw [HRGE.out] at HRGD
                have HD1 : Hid (∀ v ∈ dcells (sDig s5).1, v.oneCell' = true) := one_u8 _
                generalize dcells (sDig s5).1 = D0 at *
                generalize ((sItems (cutN 3) j s2).1.map It.cells).flatten = XS at *
                obtain ⟨D, HDE⟩ : ∃ D, Hid (.string X :: .int .i64 (N3 : Int) :: D0 = D) := ⟨_, rfl⟩
                have HEL : Hid (D.length = 34) := by show _ = _; rw [← HDE.out]; simp [HDL.out]
                have HE1 : Hid (∀ v ∈ D, v.oneCell' = true) := by show ∀ _, _; rw [← HDE.out]; intro v hv; simp only [List.mem_cons] at hv; rcases hv with rfl | rfl | hv; rfl; rfl; exact HD1.out v hv
                rw [HDE.out] at HXS
                have HBI : Hid (∀ (d : Option Tmp) (ty : TypeId) (ps : String) (af : Array Edge) (gd : Option (Nat × Bool)) (x y z : Operand) (ρ : Operand → Value) (W : World), ρ x = .string X → ρ y = .int .i64 (N3 : Int) → ρ z = .agg D0.toArray → (execOp ρ { dst := d, op := Op.build 51 #[(0, x), (1, y), (2, z)], type := ty, pos := ps, after := af, guard := gd }).run Try.prog W = .ok (.value (.agg D.toArray)) W) := fun d ty ps af gd x y z ρ W h1 h2 h3 => by rw [← HDE.out]; exact exec_item W X (N3 : Int) D0 h1 h2 h3 HDL.out
                clear hrow hown hrow5 HTX HI4 HG4
                go_upto_region 30 with fail
                refine wp_region_held_drew (S := fun _ => True) (by kernel_rfl) trivial (fun hHeld => ?_)
                refine take_put (i := 0) (d := 71) (v := ?_) rfl rfl (by kernel_rfl) (by kernel_rfl) (by kernel_rfl) (fun _ _ _ h => h) (Or.inl ⟨by kernel_rfl, ?_⟩) hHeld ?_
                rotate_left
                · (intro w hSw; (try dsimp only at hSw); go_simp; (try with_reducible rfl))
                simp only [Act.put, List.setIfInBounds_toArray, List.set_cons_zero, List.set_cons_succ]
                refine take_put (i := 2) (d := 73) (v := ?_) rfl rfl (by kernel_rfl) (by kernel_rfl) (by kernel_rfl) (fun _ _ _ h => h) (Or.inl ⟨by kernel_rfl, ?_⟩) hHeld ?_
                rotate_left
                · (intro w hSw; (try dsimp only at hSw); go_simp; (try with_reducible rfl))
                simp only [Act.put, List.setIfInBounds_toArray, List.set_cons_zero, List.set_cons_succ]
                refine take_put (i := 3) (d := 74) (v := ?_) rfl rfl (by kernel_rfl) (by kernel_rfl) (by kernel_rfl) (fun _ _ _ h => h) (Or.inl ⟨by kernel_rfl, ?_⟩) hHeld ?_
                rotate_left
                · (intro w hSw; (try dsimp only at hSw); go_simp; (try with_reducible rfl))
                simp only [Act.put, List.setIfInBounds_toArray, List.set_cons_zero, List.set_cons_succ]
                refine take_put (i := 4) (d := 75) (v := ?_) rfl rfl (by kernel_rfl) (by kernel_rfl) (by kernel_rfl) (fun _ _ _ h => h) (Or.inl ⟨by kernel_rfl, ?_⟩) hHeld ?_
                rotate_left
                · (intro w hSw; (try dsimp only at hSw); go_simp; (try with_reducible rfl))
                simp only [Act.put, List.setIfInBounds_toArray, List.set_cons_zero, List.set_cons_succ]
                refine take_put (i := 5) (d := 76) (v := ?_) rfl rfl (by kernel_rfl) (by kernel_rfl) (by kernel_rfl) (fun _ _ _ h => h) (Or.inl ⟨by kernel_rfl, ?_⟩) hHeld ?_
                rotate_left
                · (intro w hSw; (try dsimp only at hSw); go_simp; (try with_reducible rfl))
                simp only [Act.put, List.setIfInBounds_toArray, List.set_cons_zero, List.set_cons_succ]
                refine wpAnyH_ready (rs := [1, 6]) (by kernel_rfl) (by simp) ?_
                refine AllReadyH.cons rfl (fun K hK => ?_) (AllReadyH.cons rfl (fun K hK => ?_) AllReadyH.nil)
                · rw [if_pos (by rfl)]
                  go_simp
                  refine hK.out _ _ trivial (fun hHeld => ?_)
                  clear hK K
                  refine wpAnyH_ready (rs := [6]) (by kernel_rfl) (by simp) ?_
                  refine AllReadyH.cons rfl (fun K hK => ?_) AllReadyH.nil
                  rw [if_pos (by rfl)]
                  go_simp
                  refine HD.out.mono ?_
                  rintro e w6 ⟨rfl, h1, h2⟩
                  have H6 := hid_in h1
                  have HG6 := hid_in h2
                  clear h1 h2
                  have HO6 := hid_in (own_grewK HOWN.out HG6.out (fun q hq h => by have := own_geK HOWN.out q hq; have := HGB.out; omega))
                  have hrg6 := HRGD.out.grew HG6.out (by have := HGB.out; omega)
                  have HRG6 := hid_in hrg6
                  have cG6 : w6.cell? ⟨G, 4, none⟩ = some vp := HR3g.out hrg6
                  clear hrg6
                  go_simp
                  refine hK.out _ _ trivial (fun hHeld => ?_)
                  clear hK K
                  refine take_put (i := 7) (d := 78) (v := .agg D.toArray) rfl rfl (by kernel_rfl) (by kernel_rfl) (by kernel_rfl) (fun _ _ _ h => h) (Or.inl ⟨by kernel_rfl, fun W9 _ => HBI.out _ _ _ _ _ _ _ _ _ W9 rfl rfl rfl⟩) hHeld ?_
                  simp only [Act.put, List.setIfInBounds_toArray, List.set_cons_zero, List.set_cons_succ]
                  refine wpAnyH_ready (rs := [8]) (by kernel_rfl) (by simp) ?_
                  refine AllReadyH.cons rfl (fun K hK => ?_) AllReadyH.nil
                  rw [if_pos (by rfl)]
                  refine wp_slice1 29 _ rfl _ _ _ rfl (slice29 D HEL.out _) ?_
                  simp only [Act.put, List.setIfInBounds_toArray]
                  have cG7 : (w6.alloc (.cells D.toArray 51)).cell? ⟨G, 4, none⟩ = some vp := (Below.cell ((Below.refl w6.heap.size w6).alloc (Nat.le_refl _) _) (p := ⟨G, 4, none⟩) HRG6.out.lt).trans cG6
                  refine hK.out _ _ trivial (fun hHeld => ?_)
                  clear hK K
                  refine wpAnyH_ready (rs := [9]) (by kernel_rfl) (by simp) ?_
                  refine AllReadyH.cons rfl (fun K hK => ?_) AllReadyH.nil
                  rw [if_pos (by rfl)]
                  refine wp_append_lies _ _ _ 29 rfl base 51 ie ze 34 56 Try.underlying29 hie.out HZ4.out hz1.out hz2.out HZ5.out (by decide) vp j XS rfl (HO6.out.alloc _) ⟨w6.heap.size, 0, none⟩ 1 1 D rfl (by rw [HEL.out]) (World.news_of_block (heap_alloc_new w6 _)) HE1.out (by decide) (by simp [maxLen]; omega) (by omega) (by have := HBS.out; have := HG6.out.size; simp at this ⊢; omega) _ rfl ?_
                  intro g9 cap9 w9 hown9 hg9 hor9 hlt9
                  simp only [Act.put]
                  have HO9 := hid_in hown9
                  have HGR9 := hid_in hg9
                  have hrg9 : Row w9 G RG 31 := (HRG6.out.alloc _).grown HGR9.out (fun h => by have := own_geK HO6.out G h.symm; have := HGB.out; omega)
                  have HRG9 := hid_in hrg9
                  have cG9 : w9.cell? ⟨G, 4, none⟩ = some vp := HR3g.out hrg9
                  have fG9 := hrg9.frozen 4
                  clear hown9 hg9 hor9 hlt9 hrg9
                  refine hK.out _ _ trivial (fun hHeld => ?_)
                  clear hK K
                  refine take_put (i := 10) (d := 81) (v := ?_) rfl rfl (by kernel_rfl) (by kernel_rfl) (by kernel_rfl) (fun _ _ _ h => h) (Or.inl ⟨by kernel_rfl, ?_⟩) hHeld ?_
                  rotate_left
                  · (intro w hSw; (try dsimp only at hSw); go_simp; (try with_reducible rfl))
                  simp only [Act.put]
                  refine wpAnyH_ready (rs := [11]) (by kernel_rfl) (by simp) ?_
                  refine AllReadyH.cons rfl (fun K hK => ?_) AllReadyH.nil
                  rw [if_pos (by rfl)]
                  go_simp
                  refine hK.out _ _ trivial (fun hHeld => ?_)
                  clear hK K
                  refine wpAnyH_done (by kernel_rfl) ?_ _
                  go_wp2_with fail
                  go_roundw
                  case measure => simp [intOf]; omega
                  case rel =>
                    go_light
                    refine ⟨j + 1, by go_num, by omega, (?_ : IInv _ _ _ _ _ _ _)⟩
                    obtain ⟨q1, q2, q3, q4, q5, q6⟩ := app_step (fld := 4) HGB.out.1 HGB.out.2.1 HGB.out.2.2 HZ5w.out HB5w.out HBS.out H6.out HG6.out HRG6.out HO6.out HGR9.out HRG9.out HO9.out
                    rw [HR3.out] at q1
                    exact ⟨⟨_, q1, by rw [HXS.out]; exact q2⟩, by rw [HST.out]; exact q3, q4, q5, q6⟩
                · rw [if_pos (by rfl)]
                  go_simp
                  refine HD.out.mono ?_
                  rintro e w6 ⟨rfl, h1, h2⟩
                  have H6 := hid_in h1
                  have HG6 := hid_in h2
                  clear h1 h2
                  have HO6 := hid_in (own_grewK HOWN.out HG6.out (fun q hq h => by have := own_geK HOWN.out q hq; have := HGB.out; omega))
                  have hrg6 := HRGD.out.grew HG6.out (by have := HGB.out; omega)
                  have HRG6 := hid_in hrg6
                  have cG6 : w6.cell? ⟨G, 4, none⟩ = some vp := HR3g.out hrg6
                  clear hrg6
                  go_simp
                  refine hK.out _ _ trivial (fun hHeld => ?_)
                  clear hK K
                  refine take_put (i := 7) (d := 78) (v := .agg D.toArray) rfl rfl (by kernel_rfl) (by kernel_rfl) (by kernel_rfl) (fun _ _ _ h => h) (Or.inl ⟨by kernel_rfl, fun W9 _ => HBI.out _ _ _ _ _ _ _ _ _ W9 rfl rfl rfl⟩) hHeld ?_
                  simp only [Act.put, List.setIfInBounds_toArray, List.set_cons_zero, List.set_cons_succ]
                  refine wpAnyH_ready (rs := [1, 8]) (by kernel_rfl) (by simp) ?_
                  refine AllReadyH.cons rfl (fun K hK => ?_) (AllReadyH.cons rfl (fun K hK => ?_) AllReadyH.nil)
                  · rw [if_pos (by rfl)]
                    go_simp
                    refine hK.out _ _ trivial (fun hHeld => ?_)
                    clear hK K
                    refine wpAnyH_ready (rs := [8]) (by kernel_rfl) (by simp) ?_
                    refine AllReadyH.cons rfl (fun K hK => ?_) AllReadyH.nil
                    rw [if_pos (by rfl)]
                    refine wp_slice1 29 _ rfl _ _ _ rfl (slice29 D HEL.out _) ?_
                    simp only [Act.put, List.setIfInBounds_toArray]
                    have cG7 : (w6.alloc (.cells D.toArray 51)).cell? ⟨G, 4, none⟩ = some vp := (Below.cell ((Below.refl w6.heap.size w6).alloc (Nat.le_refl _) _) (p := ⟨G, 4, none⟩) HRG6.out.lt).trans cG6
                    refine hK.out _ _ trivial (fun hHeld => ?_)
                    clear hK K
                    refine wpAnyH_ready (rs := [9]) (by kernel_rfl) (by simp) ?_
                    refine AllReadyH.cons rfl (fun K hK => ?_) AllReadyH.nil
                    rw [if_pos (by rfl)]
                    refine wp_append_lies _ _ _ 29 rfl base 51 ie ze 34 56 Try.underlying29 hie.out HZ4.out hz1.out hz2.out HZ5.out (by decide) vp j XS rfl (HO6.out.alloc _) ⟨w6.heap.size, 0, none⟩ 1 1 D rfl (by rw [HEL.out]) (World.news_of_block (heap_alloc_new w6 _)) HE1.out (by decide) (by simp [maxLen]; omega) (by omega) (by have := HBS.out; have := HG6.out.size; simp at this ⊢; omega) _ rfl ?_
                    intro g9 cap9 w9 hown9 hg9 hor9 hlt9
                    simp only [Act.put]
                    have HO9 := hid_in hown9
                    have HGR9 := hid_in hg9
                    have hrg9 : Row w9 G RG 31 := (HRG6.out.alloc _).grown HGR9.out (fun h => by have := own_geK HO6.out G h.symm; have := HGB.out; omega)
                    have HRG9 := hid_in hrg9
                    have cG9 : w9.cell? ⟨G, 4, none⟩ = some vp := HR3g.out hrg9
                    have fG9 := hrg9.frozen 4
                    clear hown9 hg9 hor9 hlt9 hrg9
                    refine hK.out _ _ trivial (fun hHeld => ?_)
                    clear hK K
                    refine take_put (i := 10) (d := 81) (v := ?_) rfl rfl (by kernel_rfl) (by kernel_rfl) (by kernel_rfl) (fun _ _ _ h => h) (Or.inl ⟨by kernel_rfl, ?_⟩) hHeld ?_
                    rotate_left
                    · (intro w hSw; (try dsimp only at hSw); go_simp; (try with_reducible rfl))
                    simp only [Act.put]
                    refine wpAnyH_ready (rs := [11]) (by kernel_rfl) (by simp) ?_
                    refine AllReadyH.cons rfl (fun K hK => ?_) AllReadyH.nil
                    rw [if_pos (by rfl)]
                    go_simp
                    refine hK.out _ _ trivial (fun hHeld => ?_)
                    clear hK K
                    refine wpAnyH_done (by kernel_rfl) ?_ _
                    go_wp2_with fail
                    go_roundw
                    case measure => simp [intOf]; omega
                    case rel =>
                      go_light
                      refine ⟨j + 1, by go_num, by omega, (?_ : IInv _ _ _ _ _ _ _)⟩
                      obtain ⟨q1, q2, q3, q4, q5, q6⟩ := app_step (fld := 4) HGB.out.1 HGB.out.2.1 HGB.out.2.2 HZ5w.out HB5w.out HBS.out H6.out HG6.out HRG6.out HO6.out HGR9.out HRG9.out HO9.out
                      rw [HR3.out] at q1
                      exact ⟨⟨_, q1, by rw [HXS.out]; exact q2⟩, by rw [HST.out]; exact q3, q4, q5, q6⟩
                  · rw [if_pos (by rfl)]
                    refine wp_slice1 29 _ rfl _ _ _ rfl (slice29 D HEL.out _) ?_
                    simp only [Act.put, List.setIfInBounds_toArray]
                    have cG7 : (w6.alloc (.cells D.toArray 51)).cell? ⟨G, 4, none⟩ = some vp := (Below.cell ((Below.refl w6.heap.size w6).alloc (Nat.le_refl _) _) (p := ⟨G, 4, none⟩) HRG6.out.lt).trans cG6
                    refine hK.out _ _ trivial (fun hHeld => ?_)
                    clear hK K
                    refine wpAnyH_ready (rs := [1]) (by kernel_rfl) (by simp) ?_
                    refine AllReadyH.cons rfl (fun K hK => ?_) AllReadyH.nil
                    rw [if_pos (by rfl)]
                    go_simp
                    refine hK.out _ _ trivial (fun hHeld => ?_)
                    clear hK K
                    refine wpAnyH_ready (rs := [9]) (by kernel_rfl) (by simp) ?_
                    refine AllReadyH.cons rfl (fun K hK => ?_) AllReadyH.nil
                    rw [if_pos (by rfl)]
                    refine wp_append_lies _ _ _ 29 rfl base 51 ie ze 34 56 Try.underlying29 hie.out HZ4.out hz1.out hz2.out HZ5.out (by decide) vp j XS rfl (HO6.out.alloc _) ⟨w6.heap.size, 0, none⟩ 1 1 D rfl (by rw [HEL.out]) (World.news_of_block (heap_alloc_new w6 _)) HE1.out (by decide) (by simp [maxLen]; omega) (by omega) (by have := HBS.out; have := HG6.out.size; simp at this ⊢; omega) _ rfl ?_
                    intro g9 cap9 w9 hown9 hg9 hor9 hlt9
                    simp only [Act.put, List.setIfInBounds_toArray]
                    have HO9 := hid_in hown9
                    have HGR9 := hid_in hg9
                    have hrg9 : Row w9 G RG 31 := (HRG6.out.alloc _).grown HGR9.out (fun h => by have := own_geK HO6.out G h.symm; have := HGB.out; omega)
                    have HRG9 := hid_in hrg9
                    have cG9 : w9.cell? ⟨G, 4, none⟩ = some vp := HR3g.out hrg9
                    have fG9 := hrg9.frozen 4
                    clear hown9 hg9 hor9 hlt9 hrg9
                    refine hK.out _ _ trivial (fun hHeld => ?_)
                    clear hK K
                    refine take_put (i := 10) (d := 81) (v := ?_) rfl rfl (by kernel_rfl) (by kernel_rfl) (by kernel_rfl) (fun _ _ _ h => h) (Or.inl ⟨by kernel_rfl, ?_⟩) hHeld ?_
                    rotate_left
                    · (intro w hSw; (try dsimp only at hSw); go_simp; (try with_reducible rfl))
                    simp only [Act.put]
                    refine wpAnyH_ready (rs := [11]) (by kernel_rfl) (by simp) ?_
                    refine AllReadyH.cons rfl (fun K hK => ?_) AllReadyH.nil
                    rw [if_pos (by rfl)]
                    go_simp
                    refine hK.out _ _ trivial (fun hHeld => ?_)
                    clear hK K
                    refine wpAnyH_done (by kernel_rfl) ?_ _
                    go_wp2_with fail
                    go_roundw
                    case measure => simp [intOf]; omega
                    case rel =>
                      go_light
                      refine ⟨j + 1, by go_num, by omega, (?_ : IInv _ _ _ _ _ _ _)⟩
                      obtain ⟨q1, q2, q3, q4, q5, q6⟩ := app_step (fld := 4) HGB.out.1 HGB.out.2.1 HGB.out.2.2 HZ5w.out HB5w.out HBS.out H6.out HG6.out HRG6.out HO6.out HGR9.out HRG9.out HO9.out
                      rw [HR3.out] at q1
                      exact ⟨⟨_, q1, by rw [HXS.out]; exact q2⟩, by rw [HST.out]; exact q3, q4, q5, q6⟩
            · obtain rfl : j = N2 := by omega
              obtain ⟨vp, hrow, hown⟩ := hP.out.row
              have HEL := hid_in (own_els (k := 34) (xs := (sItems (cutN 3) j s2).1.map It.cells) (by rw [List.length_map, sItems_length]; exact hown) (sItems_each _ j s2))
              have HOB := hid_in (fun q hq => (own_geK hown q hq).1)
              obtain ⟨pp, cc, _, _, hvp, _⟩ := HEL.out.ex
              subst hvp
              have HRG := hid_in hrow
              have HRZ := hid_in hP.out.z
              have HBW := hid_in hP.out.below
              obtain ⟨⟨t1, t2⟩, HT⟩ : ∃ t, Hid ((sItems (cutN 3) j s2).2 = t) := ⟨_, rfl⟩
              have HIt : Hid (RI w.heap.size wr g (t1, t2)) := by show RI _ _ _ _; rw [← HT.out]; exact hP.out.ri
              obtain ⟨n, Hn⟩ : ∃ n, Hid (n = Nd.mk 3 ByteArray.empty 0 [] (sItems (cutN 3) j s2).1) := ⟨_, rfl⟩
              have HPO := hid_in ((sItems_ok 3 (by decide) j HOKS.out).1)
              have hlen : ((sItems (cutN 3) j s2).1.map It.cells).length = j := by rw [List.length_map, sItems_length]
              rw [hlen] at HRG HOB HEL
              have HND : Hid (IsN wr (.agg #[.int .i64 3, .string ⟨#[]⟩, .int .i64 0, .slice none 0 0, .slice pp j cc]) n) := by show IsN _ _ _; rw [Hn.out]; exact ⟨⟨_, _, rfl, Els.nil _ _, HEL.out⟩, ⟨fun d h => (by cases h), HPO.out, i64_3, i64_0⟩⟩
              have HFR : Hid (Fresh (w.heap.size + 1) (.agg #[.int .i64 3, .string ⟨#[]⟩, .int .i64 0, .slice none 0 0, .slice pp j cc])) := fresh5 _ _ _ (own_none _) (fun q hq => by have := HOB.out q hq; have := HGB.out; omega)
              have HTT : Hid (rd (bs, 0) = (n, (t1, t2))) := by show _ = _; rw [rd_3 (z := j) (by rw [HN.out]; rfl) (by rw [HS1s.out, HN2.out]; unfold cutN; omega), HS1s.out, HS2.out, HT.out, Hn.out]
              have HSH : Hid n.short := by have h := rd_short (bs, 0); rw [HTT.out] at h; exact h
              clear hrow hown hP hlen
              go_upto_region 31 with fail
              clear Hn
              obtain ⟨bs9, k9, hri9, _⟩ := id HIt.out
              obtain ⟨_, _, _, _, hrow9, _⟩ := hri9.ex
              have cg2 : wr.cell? ⟨g, 2, none⟩ = some (.int .i64 (t2 : Int)) := hrow9.cell 2
              clear hri9 hrow9
              have z0 : wr.cell? ⟨w.heap.size, 0, none⟩ = some (.int .i64 0) := HRZ.out.cell 0
              have z1 : wr.cell? ⟨w.heap.size, 1, none⟩ = some (.string ⟨#[]⟩) := HRZ.out.cell 1
              have z2 : wr.cell? ⟨w.heap.size, 2, none⟩ = some (.int .i64 0) := HRZ.out.cell 2
              have z3 : wr.cell? ⟨w.heap.size, 3, none⟩ = some (.slice none 0 0) := HRZ.out.cell 3
              have z4 : wr.cell? ⟨w.heap.size, 4, none⟩ = some (.slice none 0 0) := HRZ.out.cell 4
              have y0 := HRZ.out.frozen 0
              have y1 := HRZ.out.frozen 1
              have y2 := HRZ.out.frozen 2
              have y3 := HRZ.out.frozen 3
              have y4 := HRZ.out.frozen 4
              have d0 : wr.cell? ⟨G, 0, none⟩ = some (.int .i64 3) := HRG.out.cell 0
              have d1 : wr.cell? ⟨G, 1, none⟩ = some (.string ⟨#[]⟩) := HRG.out.cell 1
              have d2 : wr.cell? ⟨G, 2, none⟩ = some (.int .i64 0) := HRG.out.cell 2
              have d3 : wr.cell? ⟨G, 3, none⟩ = some (.slice none 0 0) := HRG.out.cell 3
              have d4 : wr.cell? ⟨G, 4, none⟩ = some (.slice pp j cc) := HRG.out.cell 4
              have n1 : w.heap.size ≠ G := by have := HGGG.out; omega
              have n2 : G ≠ w.heap.size := by have := HGGG.out; omega
              by_cases ht2 : t2 = 0
              · subst ht2
                cases t1 with
                | nil =>
                  have HL := hid_in (rleft_0 wr g w.heap.size 0 HIt.out)
                  go_wp2_with (first | (go_at_call 38; refine HL.out.mono ?_; rintro e wl ⟨rfl, rfl⟩) | (go_at_call 12; refine (rcheck_any wr.drew _ n HND.out.drew1 HSH.out).mono ?_; rintro e w5 ⟨hsays, hb5⟩; have HRZ5 := hid_in ((HRZ.out.drew).below hb5 HRZ.out.lt); have HRG5 := hid_in ((HRG.out.drew).below hb5 HRG.out.lt); have HB5 := hid_in ((below_drewN HBW.out 1).trans (hb5.mono HBW.out.size)); have HN5 := hid_in ((HND.out.drew1).below hb5); clear hb5; clear z0 z1 z2 z3 z4 y0 y1 y2 y3 y4 d0 d1 d2 d3 d4 cg2; have d0 : w5.cell? ⟨G, 0, none⟩ = some (.int .i64 3) := HRG5.out.cell 0; have d1 : w5.cell? ⟨G, 1, none⟩ = some (.string ⟨#[]⟩) := HRG5.out.cell 1; have d2 : w5.cell? ⟨G, 2, none⟩ = some (.int .i64 0) := HRG5.out.cell 2; have d3 : w5.cell? ⟨G, 3, none⟩ = some (.slice none 0 0) := HRG5.out.cell 3; have d4 : w5.cell? ⟨G, 4, none⟩ = some (.slice pp j cc) := HRG5.out.cell 4; have z0 : w5.cell? ⟨w.heap.size, 0, none⟩ = some (.int .i64 0) := HRZ5.out.cell 0; have z1 : w5.cell? ⟨w.heap.size, 1, none⟩ = some (.string ⟨#[]⟩) := HRZ5.out.cell 1; have z2 : w5.cell? ⟨w.heap.size, 2, none⟩ = some (.int .i64 0) := HRZ5.out.cell 2; have z3 : w5.cell? ⟨w.heap.size, 3, none⟩ = some (.slice none 0 0) := HRZ5.out.cell 3; have z4 : w5.cell? ⟨w.heap.size, 4, none⟩ = some (.slice none 0 0) := HRZ5.out.cell 4; have y0 := HRZ5.out.frozen 0; have y1 := HRZ5.out.frozen 1; have y2 := HRZ5.out.frozen 2; have y3 := HRZ5.out.frozen 3; have y4 := HRZ5.out.frozen 4; rcases hsays.cases with ⟨rfl, hP⟩ | ⟨rfl, hP⟩; all_goals (have HPP := hid_in hP; clear hP hsays)))
                  · have HF := hid_in (set5 HRZ5.out (.int .i64 3) (.string ⟨#[]⟩) (.int .i64 0) (.slice none 0 0) (.slice pp j cc))
                    refine post_Row2 2 3 31 Try.results16 w.heap.size rfl 31 _ HF.out.1 _ Try.underlying31 rfl 5 info31 rfl rfl ?_
                    have hm : Means bs n := ⟨HPP.out, HND.out.ok, by have h := enc_rd HLT.out (by rw [HTT.out]) (by rw [HTT.out]; exact HPP.out); rw [HTT.out] at h; exact h⟩
                    exact RDPost.yes _ n rfl hm HFR.out (HN5.out.grown HF.out.2 HFR.out (Nat.lt_succ_self _)) (HB5.out.grown HF.out.2 HB5.out.size (fun k e => by cases e; exact Nat.le_refl _))
                  · have HNM : Hid (∀ n, ¬ Means bs n) := fun m hm => HPP.out (by have h := HTT.out.symm.trans hm.rd; rw [(Prod.mk.inj h).1]; exact hm.1)
                    have HF := hid_in (set5 HRZ5.out (.int .i64 0) (.string ⟨#[]⟩) (.int .i64 0) (.slice none 0 0) (.slice none 0 0))
                    refine post_Row2 2 3 31 Try.results16 w.heap.size rfl 31 _ HF.out.1 _ Try.underlying31 rfl 5 info31 rfl rfl ?_
                    exact RDPost.no _ rfl HNM.out (zeroN_is _) (HB5.out.grown HF.out.2 HB5.out.size (fun k e => by cases e; exact Nat.le_refl _))
                | cons c r =>
                  have hl1 : (((c :: r).length : Int) == 0) = false := by rw [beq_eq_false_iff_ne]; simp; omega
                  have hl2 : ¬ (((c :: r).length : Int) = 0) := by simp; omega
                  have HNM : Hid (∀ n, ¬ Means bs n) := fun m hm => by have h := HTT.out.symm.trans hm.rd; have := (Prod.mk.inj h).2; simp at this
                  have HL := hid_in (rleft_t wr g w.heap.size (c :: r) 0 HIt.out)
                  generalize hcl : ((c :: r).length : Int) = LL at *
                  clear hcl
                  have HRZD := hid_in HRZ.out.drew
                  have HBD : Hid (Below w.heap.size w wr.drew) := below_drewN HBW.out 1
                  go_wp2_with (first | (go_at_call 38; refine HL.out.mono ?_; rintro e wl ⟨rfl, hwl⟩; rw [← hwl] at HRZD HBD; have HWL := hid_in hwl; clear hwl; clear z0 z1 z2 z3 z4 y0 y1 y2 y3 y4 cg2; have z0 : wl.cell? ⟨w.heap.size, 0, none⟩ = some (.int .i64 0) := HRZD.out.cell 0; have z1 : wl.cell? ⟨w.heap.size, 1, none⟩ = some (.string ⟨#[]⟩) := HRZD.out.cell 1; have z2 : wl.cell? ⟨w.heap.size, 2, none⟩ = some (.int .i64 0) := HRZD.out.cell 2; have z3 : wl.cell? ⟨w.heap.size, 3, none⟩ = some (.slice none 0 0) := HRZD.out.cell 3; have z4 : wl.cell? ⟨w.heap.size, 4, none⟩ = some (.slice none 0 0) := HRZD.out.cell 4; have y0 := HRZD.out.frozen 0; have y1 := HRZD.out.frozen 1; have y2 := HRZD.out.frozen 2; have y3 := HRZD.out.frozen 3; have y4 := HRZD.out.frozen 4))
                  have HF := hid_in (set5 HRZD.out (.int .i64 0) (.string ⟨#[]⟩) (.int .i64 0) (.slice none 0 0) (.slice none 0 0))
                  refine post_Row2 2 3 31 Try.results16 w.heap.size rfl 31 _ HF.out.1 _ Try.underlying31 rfl 5 info31 rfl rfl ?_
                  exact RDPost.no _ rfl HNM.out (zeroN_is _) (HBD.out.grown HF.out.2 HBD.out.size (fun k e => by cases e; exact Nat.le_refl _))
              · have ht3 : ((t2 : Int) == 0) = false := by rw [beq_eq_false_iff_ne]; omega
                have HNM : Hid (∀ n, ¬ Means bs n) := fun m hm => by have h := HTT.out.symm.trans hm.rd; have := (Prod.mk.inj (Prod.mk.inj h).2).2; exact ht2 this
                go_wp2_with fail
                have HF := hid_in (set5 HRZ.out (.int .i64 0) (.string ⟨#[]⟩) (.int .i64 0) (.slice none 0 0) (.slice none 0 0))
                refine post_Row2 2 3 31 Try.results16 w.heap.size rfl 31 _ HF.out.1 _ Try.underlying31 rfl 5 info31 rfl rfl ?_
                exact RDPost.no _ rfl HNM.out (zeroN_is _) (HBW.out.grown HF.out.2 HBW.out.size (fun k e => by cases e; exact Nat.le_refl _))
      · have e1 : ((N : Int) == 1) = false := by rw [beq_eq_false_iff_ne]; omega
        have e2 : ((N : Int) == 2) = false := by rw [beq_eq_false_iff_ne]; omega
        have e3 : ((N : Int) == 3) = false := by rw [beq_eq_false_iff_ne]; omega
        have HNM : Hid (∀ n, ¬ Means bs n) := fun m hm => by
          have h := hm.rd
          rw [rd_0 (k := cutN 3 N) (by rw [HN.out]) (by unfold cutN; omega) (by unfold cutN; omega) (by unfold cutN; omega)] at h
          have hk : m.kind = (cutN 3 N : Int) := by rw [← (Prod.mk.inj h).1]
          have hc : cutN 3 N = 0 ∨ cutN 3 N = 4 := by unfold cutN; omega
          rcases hm.1 with ⟨q, _⟩ | ⟨q, _⟩ | ⟨q, _⟩ <;> omega
        go_upto_region 31 with fail
        obtain ⟨t1, t2⟩ := s1
        obtain ⟨bs9, k9, hri9, _⟩ := id HI1.out
        obtain ⟨_, _, _, _, hrow9, _⟩ := hri9.ex
        have cg2 : w1.cell? ⟨g, 2, none⟩ = some (.int .i64 (t2 : Int)) := hrow9.cell 2
        clear hri9 hrow9
        have z0 : w1.cell? ⟨w.heap.size, 0, none⟩ = some (.int .i64 0) := HRZ1.out.cell 0
        have z1 : w1.cell? ⟨w.heap.size, 1, none⟩ = some (.string ⟨#[]⟩) := HRZ1.out.cell 1
        have z2 : w1.cell? ⟨w.heap.size, 2, none⟩ = some (.int .i64 0) := HRZ1.out.cell 2
        have z3 : w1.cell? ⟨w.heap.size, 3, none⟩ = some (.slice none 0 0) := HRZ1.out.cell 3
        have z4 : w1.cell? ⟨w.heap.size, 4, none⟩ = some (.slice none 0 0) := HRZ1.out.cell 4
        have y0 := HRZ1.out.frozen 0
        have y1 := HRZ1.out.frozen 1
        have y2 := HRZ1.out.frozen 2
        have y3 := HRZ1.out.frozen 3
        have y4 := HRZ1.out.frozen 4
        have n1 : w.heap.size ≠ G := by have := HGGG.out; omega
        have n2 : G ≠ w.heap.size := by have := HGGG.out; omega
        have HCK := hid_in (rcheck_any w1.drew (.agg #[.int .i64 0, .string ⟨#[]⟩, .int .i64 0, .slice none 0 0, .slice none 0 0]) zeroN (zeroN_is _) ⟨by decide, fun x h => by cases h⟩)
        have HZR : Hid (¬ right zeroN) := fun h => by rcases h with ⟨q, _⟩ | ⟨q, _⟩ | ⟨q, _⟩ <;> simp [zeroN] at q
        have HL := hid_in (rleft_t w1 g w.heap.size t1 t2 HI1.out)
        have HRZD := hid_in HRZ1.out.drew
        have HBD : Hid (Below w.heap.size w w1.drew) := below_drewN HB1.out 1
        by_cases ht2 : t2 = 0
        · subst ht2
          by_cases hl : t1.length = 0
          · have hl1 : (t1.length : Int) = 0 := by omega
            have HL2 := HL
            rw [hl1] at HL2
            clear HL hl hl1
            go_wp2_with (first | (go_at_call 38; refine HL2.out.mono ?_; rintro e wl ⟨rfl, rfl⟩) | (go_at_call 12; refine HCK.out.mono ?_; rintro e w5 ⟨hsays, hb5⟩; have HRZ5 := hid_in ((HRZ1.out.drew).below hb5 HRZ1.out.lt); have HB5 := hid_in ((below_drewN HB1.out 1).trans (hb5.mono HB1.out.size)); clear hb5; clear z0 z1 z2 z3 z4 y0 y1 y2 y3 y4 cg2; have z0 : w5.cell? ⟨w.heap.size, 0, none⟩ = some (.int .i64 0) := HRZ5.out.cell 0; have z1 : w5.cell? ⟨w.heap.size, 1, none⟩ = some (.string ⟨#[]⟩) := HRZ5.out.cell 1; have z2 : w5.cell? ⟨w.heap.size, 2, none⟩ = some (.int .i64 0) := HRZ5.out.cell 2; have z3 : w5.cell? ⟨w.heap.size, 3, none⟩ = some (.slice none 0 0) := HRZ5.out.cell 3; have z4 : w5.cell? ⟨w.heap.size, 4, none⟩ = some (.slice none 0 0) := HRZ5.out.cell 4; have y0 := HRZ5.out.frozen 0; have y1 := HRZ5.out.frozen 1; have y2 := HRZ5.out.frozen 2; have y3 := HRZ5.out.frozen 3; have y4 := HRZ5.out.frozen 4; rcases hsays.cases with ⟨rfl, hP⟩ | ⟨rfl, hP⟩; (exact absurd hP HZR.out); clear hP hsays))
            have HF := hid_in (set5 HRZ5.out (.int .i64 0) (.string ⟨#[]⟩) (.int .i64 0) (.slice none 0 0) (.slice none 0 0))
            refine post_Row2 2 3 31 Try.results16 w.heap.size rfl 31 _ HF.out.1 _ Try.underlying31 rfl 5 info31 rfl rfl ?_
            exact RDPost.no _ rfl HNM.out (zeroN_is _) (HB5.out.grown HF.out.2 HB5.out.size (fun k e => by cases e; exact Nat.le_refl _))
          · have hl1 : ((t1.length : Int) == 0) = false := by rw [beq_eq_false_iff_ne]; omega
            have hl2 : ¬ ((t1.length : Int) = 0) := by omega
            generalize (t1.length : Int) = LL at *
            clear hl
            go_wp2_with (first | (go_at_call 38; refine HL.out.mono ?_; rintro e wl ⟨rfl, hwl⟩; rw [← hwl] at HRZD HBD; have HWL := hid_in hwl; clear hwl; clear z0 z1 z2 z3 z4 y0 y1 y2 y3 y4 cg2; have z0 : wl.cell? ⟨w.heap.size, 0, none⟩ = some (.int .i64 0) := HRZD.out.cell 0; have z1 : wl.cell? ⟨w.heap.size, 1, none⟩ = some (.string ⟨#[]⟩) := HRZD.out.cell 1; have z2 : wl.cell? ⟨w.heap.size, 2, none⟩ = some (.int .i64 0) := HRZD.out.cell 2; have z3 : wl.cell? ⟨w.heap.size, 3, none⟩ = some (.slice none 0 0) := HRZD.out.cell 3; have z4 : wl.cell? ⟨w.heap.size, 4, none⟩ = some (.slice none 0 0) := HRZD.out.cell 4; have y0 := HRZD.out.frozen 0; have y1 := HRZD.out.frozen 1; have y2 := HRZD.out.frozen 2; have y3 := HRZD.out.frozen 3; have y4 := HRZD.out.frozen 4))
            have HF := hid_in (set5 HRZD.out (.int .i64 0) (.string ⟨#[]⟩) (.int .i64 0) (.slice none 0 0) (.slice none 0 0))
            refine post_Row2 2 3 31 Try.results16 w.heap.size rfl 31 _ HF.out.1 _ Try.underlying31 rfl 5 info31 rfl rfl ?_
            exact RDPost.no _ rfl HNM.out (zeroN_is _) (HBD.out.grown HF.out.2 HBD.out.size (fun k e => by cases e; exact Nat.le_refl _))
        · have ht3 : ((t2 : Int) == 0) = false := by rw [beq_eq_false_iff_ne]; omega
          go_wp2_with fail
          have HF := hid_in (set5 HRZ1.out (.int .i64 0) (.string ⟨#[]⟩) (.int .i64 0) (.slice none 0 0) (.slice none 0 0))
          refine post_Row2 2 3 31 Try.results16 w.heap.size rfl 31 _ HF.out.1 _ Try.underlying31 rfl 5 info31 rfl rfl ?_
          exact RDPost.no _ rfl HNM.out (zeroN_is _) (HB1.out.grown HF.out.2 HB1.out.size (fun k e => by cases e; exact Nat.le_refl _))
end Go.Proofs.Ytbccjomnfclkdaa
