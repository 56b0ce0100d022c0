/-
  The reference's rename: a path is moved (dir).
-/
import Derived.Laws.CopyOwn
import Derived.Deep.RegionLaw
import Derived.Deep.DrawnRows
import Derived.Deep.CutRange
import Derived.Lib.SlBytesConst
import Derived.Lib.AppendZeros
import Derived.Laws.Tables
import Derived.Test.YtngehkmdanhgpaaGreatQ00
import Derived.Test.YtngehkmdanhgpaaGreatQ01
import Derived.Test.YtngehkmdanhgpaaGreatQ02
import Derived.Test.YtngehkmdanhgpaaGreatQ03
import Derived.Test.YtngehkmdanhgpaaGreatQ04
import Derived.Test.YtngehkmdanhgpaaGreatQ05
import Derived.Test.YtngehkmdanhgpaaGreatQ06
import Derived.Test.YtngehkmdanhgpaaGreatQ07
import Derived.Test.YtngehkmdanhgpaaGreatQ08
import Derived.Test.YtngehkmdanhgpaaGreatQ09
import Derived.Test.YtngehkmdanhgpaaGreatQ10
import Derived.Test.YtngehkmdanhgpaaGreatQ11
import Derived.Test.YtngehkmdanhgpaaGreatQ12
import Derived.Test.YtngehkmdanhgpaaGreatQ13
import Derived.Test.YtngehkmdanhgpaaGreatQ14
import Derived.Test.YtngehkmdanhgpaaGreatQ15
import Derived.Test.YtngehkmdanhgpaaGreatQ16
import Derived.Test.YtngehkmdanhgpaaGreatQ17
import Derived.Test.YtngehkmdanhgpaaGreatQ18
import Derived.Test.YtngehkmdanhgpaaGreatQ19
import Derived.Test.YtngehkmdanhgpaaGreatQ20
import Derived.Test.YtngehkmdanhgpaaGreatQ21
import Derived.Test.YtngehkmdanhgpaaGreatQ22
import Derived.Test.YtngehkmdanhgpaaGreatQ23
import Derived.Test.YtngehkmdanhgpaaGreatQ24
import Derived.Test.YtngehkmdanhgpaaGreatQ25
import Derived.Test.YtngehkmdanhgpaaGreatQ26
import Derived.Test.YtngehkmdanhgpaaGreatQ27
import Derived.Test.YtngehkmdanhgpaaGreatQ28
import Derived.Test.YtngehkmdanhgpaaGreatQ29
import Derived.Test.YtngehkmdanhgpaaGreatQ30
import Derived.Test.YtngehkmdanhgpaaGreatQ31
import Derived.Test.YtngehkmdanhgpaaGreatQ32
import Derived.Test.YtngehkmdanhgpaaGreatQ33
import Derived.Test.YtngehkmdanhgpaaGreatQ34
import Derived.Test.YtngehkmdanhgpaaGreatQ35
import Derived.Test.YtngehkmdanhgpaaGreatQ36
import Derived.Test.YtngehkmdanhgpaaGreatQ37
import Derived.Test.YtngehkmdanhgpaaGreatQ38
import Derived.Test.YtngehkmdanhgpaaGreatQ39
import Derived.Test.YtngehkmdanhgpaaGreatQ40
namespace Go.Proofs.YtngehkmdanhgpaaGreat.Pl
open Go.RowKit
open Vp (Str B bl Val cmpL parseS showS splitS withinS IsPath sv)
open Nd (take_put Row wp_world post_Row post_Row2 grownBy_setCell below_of_grown)
open Rf (Fil Fls FO fcells fcells_len)
set_option maxHeartbeats 8000000 in
set_option maxRecDepth 100000 in
theorem rn_dir {w : World} {r : Nat} {es : List Ent} (h : RF w r es) (hg : GoodL es) (hnd : (es.map (·.names)).Nodup) (hn : es.length ≤ 40000) {pv qv : Value} {ps qs : List Str} (hp : Val w pv ps) (hq : Val w qv qs) (gp : Gp ps) (gq : Gp qs) (k a z : Int) (p t d : ByteArray) (c1 : ps ≠ []) (c2 : qs ≠ []) (X : Ent) (hX : lookR es ps = (X, 0)) (hxn : X.names = ps) (hD : dirR es qs = 0) (c4 : ps ≠ qs) (c5 : withinS qs ps = false) (O : Ent) (hO : entAt es qs = some O) (hxd : X.dir = true) (hod : O.dir = true) (hbl : ¬ 0 < (es.filter (belowE qs)).length) :
    Calls Tryz.prog 40 #[.pointer (some ⟨r, 0, none⟩), .agg #[.int .i64 k, .string p, .string t, .string d, .int .i64 a, .int .i64 z], pv, qv] w fun e w' => RmP w r es (rnL es ps qs X) (if (X :: es.filter (belowE ps)).any (deepE ps qs) = true then 42 else 0) e w' := by
  have HALL : Hid (∀ e ∈ X :: es.filter (belowE ps), Gp e.names ∧ withinS e.names ps = true) := hid_in (by
    intro e he
    rcases List.mem_cons.1 he with rfl | he
    · rw [hxn]; exact ⟨gp, within_iff.2 ⟨[], by simp⟩⟩
    · obtain ⟨h1, h2⟩ := List.mem_filter.1 he
      unfold belowE at h2
      simp only [Bool.and_eq_true] at h2
      exact ⟨(hg e h1).1, h2.2⟩)
  obtain ⟨ms, HMS⟩ : ∃ ms, Hid (X :: es.filter (belowE ps) = ms) := ⟨_, hid_in rfl⟩
  have HMN : Hid (ms ≠ []) := hid_in (by rw [← HMS.out]; simp)
  have HML : Hid (ms.length ≤ 40001) := hid_in (by rw [← HMS.out]; have := List.length_filter_le (belowE ps) es; simp only [List.length_cons]; omega)
  have HMX : Hid (rnL es ps qs X = insAll ((es.filter (outE ps)).filter (outE qs)) (ms.map (mvR ps qs))) := hid_in (by rw [← HMS.out]; rfl)
  have HMF : Hid (ms.map Ent.fil = X.fil :: (es.filter (belowE ps)).map Ent.fil) := hid_in (by rw [← HMS.out]; rfl)
  have HNB : Hid ((es.filter (belowE ps)).length ≤ 40000) := hid_in (Nat.le_trans (List.length_filter_le _ _) hn)
  have HB0 : Hid (∀ e ∈ (es.filter (outE ps)).filter (outE qs), Gp e.names) := hid_in (fun e he => (hg e (List.mem_filter.1 (List.mem_filter.1 he).1).1).1)
  have HBL0 : Hid (((es.filter (outE ps)).filter (outE qs)).length ≤ 40000) := hid_in (Nat.le_trans (List.length_filter_le _ _) (Nat.le_trans (List.length_filter_le _ _) hn))
  rw [HMS.out] at HALL ⊢
  obtain ⟨C, HCC⟩ : ∃ C, Hid ((if ms.any (deepE ps qs) = true then (42 : Int) else 0) = C) := ⟨_, hid_in rfl⟩
  rw [HCC.out]
  obtain ⟨pp, pc, rfl⟩ : ∃ p c, pv = .slice p ps.length c := by obtain ⟨p, c, e, _⟩ := hp; exact ⟨p, c, e⟩
  obtain ⟨qp, qc, rfl⟩ : ∃ p c, qv = .slice p qs.length c := by obtain ⟨p, c, e, _⟩ := hq; exact ⟨p, c, e⟩
  obtain ⟨WA, HWA, HRO, HRA, HBA⟩ := op_box w k a z p t d
  have HRU := hid_in h
  have HLK := hid_in (fun W (k : Below w.heap.size w W) => rlook_any (h.below k) hg hnd (hp.below k) gp)
  have hpl8 : (ps.length : Int) ≤ 8 := by have := gp.2; omega
  have hql8 : (qs.length : Int) ≤ 8 := by have := gq.2; omega
  have hp0 : ¬ (ps.length : Int) = 0 := fun e => c1 (List.length_eq_zero_iff.1 (by omega))
  have hq0 : ¬ (qs.length : Int) = 0 := fun e => c2 (List.length_eq_zero_iff.1 (by omega))
  have hp1 : ((ps.length : Int) == 0) = false := by rw [beq_eq_false_iff_ne]; exact hp0
  have hq1 : ((qs.length : Int) == 0) = false := by rw [beq_eq_false_iff_ne]; exact hq0
  obtain ⟨sn, sd, sx⟩ := X
  obtain ⟨on, od, ox⟩ := O
  simp only at hxd hod
  subst hxd hod
  rw [hX] at HLK
  unfold lkV at HLK
  rw [if_pos rfl] at HLK
  simp only at HLK
  have HDR := hid_in (fun W (k : Below w.heap.size w W) => rdirOf_any (h.below k) hg hnd (hq.below k) gq c2)
  have HCM := hid_in (fun W (k : Below w.heap.size w W) => rcomp_one (hp.below k) (hq.below k))
  have HWI := hid_in (fun W (k : Below w.heap.size w W) => Vp.rwithin_v (hq.below k) (hp.below k))
  obtain ⟨CM, HCN⟩ : ∃ CM, Hid (cmpL ps qs = CM) := ⟨_, hid_in rfl⟩
  have hcm : (CM == 0) = false := by rw [beq_eq_false_iff_ne, ← HCN.out]; exact fun e => c4 ((Vp.cmpL_is.zero ps qs).1 e)
  rw [HCN.out] at HCM
  have HPL := hid_in (fun W (k : Below w.heap.size w W) => rplace_any (h.below k) hg (hq.below k) gq)
  have HND := hid_in hnd
  rw [hD] at HDR
  rw [c5] at HWI
  have HNO := hid_in hO
  obtain ⟨F0, HF0⟩ : ∃ F0, Hid ((⟨sn, true, sx⟩ : Ent).fil = F0) := ⟨_, hid_in rfl⟩
  have HF1 : Hid (B (showS sn) = F0.path ∧ true = F0.dir ∧ sx = F0.data) := hid_in (by rw [← HF0.out]; exact ⟨rfl, rfl, rfl⟩)
  rw [HF0.out] at HMF
  have HBP0 := hid_in (fun W (k : Below w.heap.size w W) => rbelow_any (h.below k) hg (by omega) (hp.below k))
  have HWP := hid_in (fun W (k : Below w.heap.size w W) => rwithout_any (h.below k) hg (by omega) (hp.below k))
  have HWQ := hid_in (fun W g (hr : RF W g (es.filter (outE ps))) (k : Below w.heap.size w W) => rwithout_any hr (fun e he => hg e (List.mem_filter.1 he).1) (Nat.le_trans (List.length_filter_le _ _) (by omega)) (hq.below k))
  have HVQ0 := hid_in (fun W (k : Below w.heap.size w W) => hq.below k)
  have HQL := hid_in gq.2
  have HPL0 : Hid (∀ e ∈ ms, ps.length ≤ e.names.length) := hid_in (fun e he => by obtain ⟨s, hs⟩ := within_iff.1 (HALL.out e he).2; rw [hs]; simp)
  have HGQ := hid_in gq
  have HBQ := hid_in (fun W (k : Below w.heap.size w W) => rbelow_any (h.below k) hg (by omega) (hq.below k))
  obtain ⟨fl, HFL⟩ : ∃ fl, Hid ((es.filter (belowE qs)).length = fl) := ⟨_, hid_in rfl⟩
  have hf2 : ¬ 0 < (fl : Int) := by rw [← HFL.out]; omega
  generalize hPLN : ps.length = pl at *
  have HPLN := hid_in hPLN
  generalize hQLN : qs.length = ql at *
  have HQLN := hid_in hQLN
  clear hPLN hQLN
  generalize B (showS sn) = sp at *
  clear h hg hnd hn hp hq gp gq c1 c2 hX hD c4 c5 hO HCN hxn hbl
  go_enter Tryz.func40, Tryz.ntmps40
  go_upto_region 1 with fail
  refine wp_world HWA.out ?_
  go_upto_region 4 with (go_at_call 74; refine (HLK.out _ HBA.out).mono ?_; rintro e w2 ⟨rfl, hb2⟩; have HC2 := hid_in hb2; clear hb2)
  obtain ⟨W3, HW3⟩ : ∃ W3, Hid (w2.alloc (.cells #[.string sp, .bool true, .string sx] 48) = W3) := ⟨_, hid_in rfl⟩
  have HC3 : Hid (Below WA.heap.size WA W3) := hid_in (by rw [← HW3.out]; exact HC2.out.alloc HC2.out.size _)
  have HX3 : Hid (Row W3 w2.heap.size [.string sp, .bool true, .string sx] 48) := hid_in (by rw [← HW3.out]; exact Row.new w2 [.string sp, .bool true, .string sx] 48)
  have HBX : Hid (WA.heap.size ≤ w2.heap.size) := hid_in HC2.out.size
  refine wp_world HW3.out ?_
  generalize w2.heap.size = bx at *
  clear HW3 HC2 HLK
  go_upto_region 13 with (first | (go_at_call 35; refine (HDR.out _ (bel2 HBA.out HC3.out)).mono ?_; rintro e w4 ⟨rfl, hb4⟩; have HE4 := hid_in hb4; clear hb4) | (go_at_call 21; refine (HCM.out _ (bel2 HBA.out (HC3.out.trans (HE4.out.mono HC3.out.size)))).mono ?_; rintro e w6 ⟨rfl, hb6⟩; have HE6 := hid_in (HE4.out.trans (hb6.mono HE4.out.size)); clear hb6) | (go_at_call 58; refine (HWI.out _ (bel2 HBA.out (HC3.out.trans (HE6.out.mono HC3.out.size)))).mono ?_; rintro e w7 ⟨rfl, hd7⟩; have hb7 : Below w6.heap.size w6 w7 := (by obtain ⟨m, hm⟩ := hd7; rw [hm]; exact Nd.below_drewN (Below.refl _ _) m); clear hd7; have HE7 := hid_in (HE6.out.trans (hb7.mono HE6.out.size)); clear hb7) | (go_at_call 36; refine (HPL.out _ (bel2 HBA.out (HC3.out.trans (HE7.out.mono HC3.out.size)))).mono ?_; rintro e w8 ⟨kk, rfl, hat, hb8⟩; obtain ⟨ix, rfl, hix⟩ := at_one9 HND.out hat HNO.out; have HIX := hid_in hix; clear hat hix; have HE8 := hid_in (HE7.out.trans (hb8.mono HE7.out.size)); clear hb8))
  obtain ⟨lp, lc, lb, lo, hc1, hc2, hrow, -, hat⟩ := HRU.out.at_
  obtain ⟨rfl, -, hcd, -⟩ := hat _ (bel2 HBA.out (HC3.out.trans (HE8.out.mono HC3.out.size))) ix _ HIX.out
  have hil := (List.getElem?_eq_some_iff.1 HIX.out).1
  have i0 : ¬ (ix : Int) < 0 := by omega
  have i1 : 0 ≤ (ix : Int) := by omega
  have i2 : (ix : Int) < (es.length : Int) := by omega
  have m0 := (hrow.below (bel2 HBA.out (HC3.out.trans (HE8.out.mono HC3.out.size))) hrow.lt).cell 0
  simp only [List.getElem?_cons_zero] at m0
  have x1 := (HX3.out.below HE8.out HX3.out.lt).cell 1
  simp only [List.getElem?_cons_succ, List.getElem?_cons_zero] at x1 hcd
  generalize es.length = en at *
  clear hat hrow hc1 hc2 hil
  go_upto_region 19 with (go_at_call 75; refine (HBQ.out _ (bel2 HBA.out (HC3.out.trans (HE8.out.mono HC3.out.size)))).mono ?_; rintro e w9 ⟨v9, rfl, ho9, hb9⟩; obtain ⟨p9, k9, hv9⟩ := ho9.fls.form; rw [List.length_map, HFL.out] at hv9; subst hv9; clear ho9; have HE9 := hid_in (HE8.out.trans (hb9.mono HE8.out.size)); clear hb9)
  have HC9 := hid_in (HC3.out.trans (HE9.out.mono HC3.out.size))
  have HB9 := hid_in (bel2 HBA.out HC9.out)
  have HRG9 : Hid (w9.rangeAt bx 0 ([.string sp, .bool true, .string sx] : List Value)) := hid_in (row_rg (HX3.out.below HE9.out HX3.out.lt))
  have HBP := hid_in (fun W (k : Below w9.heap.size w9 W) => HBP0.out W (HB9.out.trans (k.mono HB9.out.size)))
  have HVQ := hid_in (fun W (k : Below w.heap.size w W) => HVQ0.out W k)
  obtain ⟨fp, fd, fx⟩ := F0
  obtain ⟨rfl, rfl, rfl⟩ := HF1.out
  clear HDR HCM HWI HPL HBP0 HVQ0
  go_cut [12] from 91 (fun v W => Hid (FO W w9.heap.size v (ms.map Ent.fil) ∧ Below w9.heap.size w9 W))
  case first =>
    refine wp_region_held_drew (S := fun W => W.rangeAt bx 0 ([.string sp, .bool true, .string sx] : List Value)) (by kernel_rfl) HRG9.out (fun hHeld => ?_)
    refine take_put (i := 0) (d := 105) (v := .agg ([.string sp, .bool true, .string sx] : List Value).toArray) rfl rfl (by kernel_rfl) (by kernel_rfl) (by kernel_rfl) (fun _ _ _ h => h) (yieldsIf_load_mid (by rfl) 48 _ rfl _ _ rfl ([.string sp, .bool true, .string sx] : List Value) _ (fun w hSw => hSw) Tryz.underlying48 rfl info48) hHeld ?_
    simp only [Act.put, List.setIfInBounds_toArray, List.set_cons_zero, List.set_cons_succ]
    refine take_put (i := 2) (d := 107) (v := ?_) rfl rfl (by kernel_rfl) (by kernel_rfl) (by kernel_rfl) (fun _ _ _ h => h) (Or.inl ⟨by kernel_rfl, ?_⟩) hHeld ?_
    rotate_left
    · (intro w hSw; (try dsimp only at hSw); go_simp; (try with_reducible rfl))
    simp only [Act.put, List.setIfInBounds_toArray, List.set_cons_zero, List.set_cons_succ]
    refine take_put (i := 3) (d := 108) (v := ?_) rfl rfl (by kernel_rfl) (by kernel_rfl) (by kernel_rfl) (fun _ _ _ h => h) (Or.inl ⟨by kernel_rfl, ?_⟩) hHeld ?_
    rotate_left
    · (intro w hSw; (try dsimp only at hSw); go_simp; (try with_reducible rfl))
    simp only [Act.put, List.setIfInBounds_toArray, List.set_cons_zero, List.set_cons_succ]
    refine wpAnyH_ready (rs := [1, 4]) (by kernel_rfl) (by simp) ?_
    refine AllReadyH.cons rfl (fun K hK => ?_) (AllReadyH.cons rfl (fun K hK => ?_) AllReadyH.nil)
    · rw [if_pos (by rfl)]
      go_simp
      have HBL : Hid (Below w9.heap.size w9 (w9.alloc (.cells #[.string sp, .bool true, .string sx] 48))) := hid_in ((Below.refl _ _).alloc (Nat.le_refl _) _)
      refine hK.out _ _ (by first | exact rg_bel HRG9.out HBL.out | exact rg_bel HRG9.out (Nd.below_drewN HBL.out 1) | exact rg_bel HRG9.out (Nd.below_drewN HBL.out 2)) (fun hHeld => ?_)
      clear hK K
      refine wpAnyH_ready (rs := [4]) (by kernel_rfl) (by simp) ?_
      refine AllReadyH.cons rfl (fun K hK => ?_) AllReadyH.nil
      rw [if_pos (by rfl)]
      go_simp
      refine (HBP.out _ (by first | exact HBL.out | exact Nd.below_drewN (HBL.out) 1 | exact Nd.below_drewN (HBL.out) 2)).mono ?_
      rintro e w11 ⟨v11, rfl, ho11, hb11⟩
      (try replace hb11 := nodrew hb11)
      have HF11 := hid_in ((fo_built w9 ⟨sp, true, sx⟩).below hb11)
      have HB11 := hid_in (HBL.out.trans (hb11.mono HBL.out.size))
      have HO11 := hid_in ho11
      clear ho11 hb11
      go_simp
      refine hK.out _ _ (by first | exact rg_bel HRG9.out HB11.out | exact rg_bel HRG9.out (Nd.below_drewN HB11.out 1) | exact rg_bel HRG9.out (Nd.below_drewN HB11.out 2)) (fun hHeld => ?_)
      clear hK K
      refine wpAnyH_ready (rs := [5]) (by kernel_rfl) (by simp) ?_
      refine AllReadyH.cons rfl (fun K hK => ?_) AllReadyH.nil
      rw [if_pos (by rfl)]
      refine wp_app81 w9.heap.size (.tmp 106) (.tmp 109) rfl (.slice (some ⟨w9.heap.size, 0, none⟩) 1 1) [⟨sp, true, sx⟩] _ rfl (by first | exact HF11.out | exact (HF11.out).below (Nd.below_drewN (Below.refl _ _) 1) | exact (HF11.out).below (Nd.below_drewN (Below.refl _ _) 2)) _ rfl (by first | exact HO11.out.fls | exact (HO11.out.fls).below (Nd.below_drewN (Below.refl _ _) 1) | exact (HO11.out.fls).below (Nd.below_drewN (Below.refl _ _) 2)) (by have := HNB.out; simp only [List.length_cons, List.length_nil, List.length_map]; omega) HB11.out.size ?_
      intro v12 w12 ho12 hg12
      (try replace hg12 := nodrewo hg12)
      simp only [Act.put, List.setIfInBounds_toArray]
      have HO12 := hid_in ho12
      have HB12 := hid_in (HB11.out.grown hg12 HB11.out.size (fun k e => (Nd.own_geK HF11.out k e).1))
      clear ho12 hg12
      refine hK.out _ _ (by first | exact rg_bel HRG9.out HB12.out | exact rg_bel HRG9.out (Nd.below_drewN HB12.out 1) | exact rg_bel HRG9.out (Nd.below_drewN HB12.out 2)) (fun hHeld => ?_)
      clear hK K
      refine take_put (i := 6) (d := 12) (v := ?_) rfl rfl (by kernel_rfl) (by kernel_rfl) (by kernel_rfl) (fun _ _ _ h => h) (Or.inl ⟨by kernel_rfl, ?_⟩) hHeld ?_
      rotate_left
      · (intro w hSw; (try dsimp only at hSw); go_simp; (try with_reducible rfl))
      simp only [Act.put]
      refine wpAnyH_done (by kernel_rfl) ?_ _
      go_wp2_with fail
      go_meet
      exact ⟨by rw [HMF.out]; exact HO12.out, HB12.out⟩
    · rw [if_pos (by rfl)]
      go_simp
      refine (HBP.out _ (by first | exact (Below.refl _ w9) | exact Nd.below_drewN ((Below.refl _ w9)) 1 | exact Nd.below_drewN ((Below.refl _ w9)) 2)).mono ?_
      rintro e w10 ⟨v11, rfl, ho11, hb11⟩
      (try replace hb11 := nodrew hb11)
      have HB10 := hid_in hb11
      have HO10 := hid_in ho11
      clear ho11 hb11
      go_simp
      refine hK.out _ _ (by first | exact rg_bel HRG9.out HB10.out | exact rg_bel HRG9.out (Nd.below_drewN HB10.out 1) | exact rg_bel HRG9.out (Nd.below_drewN HB10.out 2)) (fun hHeld => ?_)
      clear hK K
      refine wpAnyH_ready (rs := [1]) (by kernel_rfl) (by simp) ?_
      refine AllReadyH.cons rfl (fun K hK => ?_) AllReadyH.nil
      rw [if_pos (by rfl)]
      go_simp
      have HBL : Hid (Below w10.heap.size w10 (w10.alloc (.cells #[.string sp, .bool true, .string sx] 48))) := hid_in ((Below.refl _ _).alloc (Nat.le_refl _) _)
      have HB11 := hid_in (HB10.out.trans (HBL.out.mono HB10.out.size))
      have HF11 := hid_in (Rf.FO.mono (fo_built w10 ⟨sp, true, sx⟩) HB10.out.size)
      have HO11 := hid_in (HO10.out.below HBL.out)
      refine hK.out _ _ (by first | exact rg_bel HRG9.out HB11.out | exact rg_bel HRG9.out (Nd.below_drewN HB11.out 1) | exact rg_bel HRG9.out (Nd.below_drewN HB11.out 2)) (fun hHeld => ?_)
      clear hK K
      refine wpAnyH_ready (rs := [5]) (by kernel_rfl) (by simp) ?_
      refine AllReadyH.cons rfl (fun K hK => ?_) AllReadyH.nil
      rw [if_pos (by rfl)]
      refine wp_app81 w9.heap.size (.tmp 106) (.tmp 109) rfl (.slice (some ⟨w10.heap.size, 0, none⟩) 1 1) [⟨sp, true, sx⟩] _ rfl (by first | exact HF11.out | exact (HF11.out).below (Nd.below_drewN (Below.refl _ _) 1) | exact (HF11.out).below (Nd.below_drewN (Below.refl _ _) 2)) _ rfl (by first | exact HO11.out.fls | exact (HO11.out.fls).below (Nd.below_drewN (Below.refl _ _) 1) | exact (HO11.out.fls).below (Nd.below_drewN (Below.refl _ _) 2)) (by have := HNB.out; simp only [List.length_cons, List.length_nil, List.length_map]; omega) HB11.out.size ?_
      intro v12 w12 ho12 hg12
      (try replace hg12 := nodrewo hg12)
      simp only [Act.put, List.setIfInBounds_toArray]
      have HO12 := hid_in ho12
      have HB12 := hid_in (HB11.out.grown hg12 HB11.out.size (fun k e => (Nd.own_geK HF11.out k e).1))
      clear ho12 hg12
      refine hK.out _ _ (by first | exact rg_bel HRG9.out HB12.out | exact rg_bel HRG9.out (Nd.below_drewN HB12.out 1) | exact rg_bel HRG9.out (Nd.below_drewN HB12.out 2)) (fun hHeld => ?_)
      clear hK K
      refine take_put (i := 6) (d := 12) (v := ?_) rfl rfl (by kernel_rfl) (by kernel_rfl) (by kernel_rfl) (fun _ _ _ h => h) (Or.inl ⟨by kernel_rfl, ?_⟩) hHeld ?_
      rotate_left
      · (intro w hSw; (try dsimp only at hSw); go_simp; (try with_reducible rfl))
      simp only [Act.put]
      refine wpAnyH_done (by kernel_rfl) ?_ _
      go_wp2_with fail
      go_meet
      exact ⟨by rw [HMF.out]; exact HO12.out, HB12.out⟩
  case rest =>
    have HFO := hid_in hcut.out.1
    have HBW := hid_in hcut.out.2
    clear hcut HBP
    obtain ⟨mg, mc, rfl, hmg⟩ := fo_somE HFO.out HMN.out
    have HMG := hid_in hmg
    generalize hN : ms.length = N at *
    have HNN := hid_in hN
    have hNb : (N : Int) ≤ 40001 := by have := HML.out; omega
    clear hN hmg
    go_wp2_with fail
    go_loopw [13] (fun vi W => ∃ i : Nat, i ≤ N ∧ vi = .int .i64 (i : Int) ∧ Hid (FO W w9.heap.size (.slice (some ⟨mg, 0, none⟩) N mc) ((mids ps qs ms i).map Ent.fil) ∧ Below w9.heap.size w9 W ∧ ∀ (j : Nat) e, j < i → ms[j]? = some e → deepE ps qs e = false)) (fun vi _ => N - (intOf vi).toNat)
    case atStart => exact ⟨0, by omega, rfl, by rw [mids_zero]; exact HFO.out, HBW.out, fun j e hj => by omega⟩
    case round =>
      obtain ⟨i, hi, rfl, hR⟩ := hrel
      have HFR := hid_in hR.out.1
      have HBR := hid_in hR.out.2.1
      have HDP := hid_in hR.out.2.2
      clear hR
      by_cases hlt : i < N
      · obtain ⟨e, he⟩ : ∃ e, ms[i]? = some e := ⟨_, List.getElem?_eq_getElem (by rw [HNN.out]; exact hlt)⟩
        obtain ⟨vs, hvr, hvi, -, hst⟩ := fo_storeP HFR.out (mids_at he)
        have hge := HALL.out e (List.mem_of_getElem? he)
        have hpl := HPL0.out e (List.mem_of_getElem? he)
        have HST := hid_in hst
        have HVR := hid_in hvr
        have hc0 : wr.cell? ⟨mg, i * 3, none⟩ = some (.string (B (showS e.names))) := by rw [hvr.cell]; exact hvi
        have HMSet := hid_in (mids_set (p := ps) (q := qs) he)
        have HGE := hid_in hge
        obtain ⟨el, HEL⟩ : ∃ el, Hid (e.names.length = el) := ⟨_, hid_in rfl⟩
        have HEL8 : Hid (el ≤ 8) := hid_in (by rw [← HEL.out]; exact hge.1.2)
        have HPE : Hid (pl ≤ el) := hid_in (by rw [← HEL.out]; exact hpl)
        have HNA := hid_in (fun W => names_d hge.1 pl el HEL.out HPE.out W)
        obtain ⟨eN, HEN⟩ : ∃ eN, Hid (e.names = eN) := ⟨_, hid_in rfl⟩
        have HE0 := hid_in he
        obtain ⟨tx, HTX⟩ : ∃ tx, Hid (B (showS e.names) = tx) := ⟨_, hid_in rfl⟩
        rw [HTX.out] at hc0 HNA
        rw [HEN.out] at HNA
        have i0 : ¬ (i : Int) < 0 := by omega
        have i1 : 0 ≤ (i : Int) := by omega
        have hlt2 : (i : Int) < (N : Int) := by omega
        have HLT := hid_in hlt
        have HBW0 := hid_in (HB9.out.trans (HBR.out.mono HB9.out.size))
        clear hi hlt he hvr hvi hst hge hpl
        go_upto_region 24 with (go_at_call 19; refine (HNA.out _).mono ?_; rintro x w10 ⟨np, nc, rr, rfl, hv10, hsl, hvd, hb10⟩; have HV10 := hid_in hv10; have HC10 := hid_in hb10; have HSL := hid_in hsl; have HVD := hid_in hvd; clear hv10 hb10 hsl hvd)
        have HBW10 := hid_in (HBW0.out.trans (HC10.out.mono HBW0.out.size))
        have HDL : Hid ((eN.drop pl).length ≤ 8) := hid_in (by rw [List.length_drop, ← HEN.out, HEL.out]; have := HEL8.out; omega)
        refine wp_region_held_drew (S := fun _ => True) (by kernel_rfl) trivial (fun hHeld => ?_)
        refine take_put (i := 1) (d := 124) (v := ?_) rfl rfl (by kernel_rfl) (by kernel_rfl) (by kernel_rfl) (fun _ _ _ h => h) (Or.inl ⟨by kernel_rfl, ?_⟩) hHeld ?_
        rotate_left
        · (intro w hSw; (try dsimp only at hSw); go_simp; (try with_reducible rfl))
        simp only [Act.put, List.setIfInBounds_toArray, List.set_cons_zero, List.set_cons_succ]
        refine take_put (i := 3) (d := 126) (v := ?_) rfl rfl (by kernel_rfl) (by kernel_rfl) (by kernel_rfl) (fun _ _ _ h => h) (Or.inl ⟨by kernel_rfl, ?_⟩) hHeld ?_
        rotate_left
        · (intro w hSw; (try dsimp only at hSw); go_simp; (try with_reducible rfl))
        simp only [Act.put, List.setIfInBounds_toArray, List.set_cons_zero, List.set_cons_succ]
        refine take_put (i := 4) (d := 127) (v := ?_) rfl rfl (by kernel_rfl) (by kernel_rfl) (by kernel_rfl) (fun _ _ _ h => h) (Or.inl ⟨by kernel_rfl, ?_⟩) hHeld ?_
        rotate_left
        · (intro w hSw; (try dsimp only at hSw); go_simp; (try with_reducible rfl))
        simp only [Act.put, List.setIfInBounds_toArray, List.set_cons_zero, List.set_cons_succ]
        refine take_put (i := 5) (d := 128) (v := ?_) rfl rfl (by kernel_rfl) (by kernel_rfl) (by kernel_rfl) (fun _ _ _ h => h) (Or.inl ⟨by kernel_rfl, ?_⟩) hHeld ?_
        rotate_left
        · (intro w hSw; (try dsimp only at hSw); go_simp; (try with_reducible rfl))
        simp only [Act.put, List.setIfInBounds_toArray, List.set_cons_zero, List.set_cons_succ]
        refine take_put (i := 6) (d := 129) (v := .slice rr (el - pl) (nc - pl)) rfl rfl (by kernel_rfl) (by kernel_rfl) (by kernel_rfl) (fun _ _ _ h => h) (Or.inl ⟨by kernel_rfl, fun w hSw => ?_⟩) hHeld ?_
        · (have hs := HSL.out; go_simp)
        simp only [Act.put, List.setIfInBounds_toArray, List.set_cons_zero, List.set_cons_succ]
        refine wpAnyH_ready (rs := [0]) (by kernel_rfl) (by simp) ?_
        refine AllReadyH.cons rfl (fun K hK => ?_) AllReadyH.nil
        rw [if_pos (by rfl)]
        go_simp
        have HBL : Hid (Below w10.heap.size w10 (w10.alloc (.cells #[] 9))) := hid_in ((Below.refl _ _).alloc (Nat.le_refl _) _)
        refine hK.out _ _ trivial (fun hHeld => ?_)
        clear hK K
        refine wpAnyH_ready (rs := [2]) (by kernel_rfl) (by simp) ?_
        refine AllReadyH.cons rfl (fun K hK => ?_) AllReadyH.nil
        rw [if_pos (by rfl)]
        refine wp_appN w10.heap.size (.tmp 123) (.tmp 124) rfl (.slice (some ⟨w10.heap.size, 0, none⟩) 0 0) [] qs rfl (by first | exact (nms_made w10) | exact nms_drew (nms_made w10)) _ rfl (HVQ.out _ (by first | exact (HBW10.out.trans (HBL.out.mono HBW10.out.size)) | exact Nd.below_drewN ((HBW10.out.trans (HBL.out.mono HBW10.out.size))) 1 | exact Nd.below_drewN ((HBW10.out.trans (HBL.out.mono HBW10.out.size))) 2)) (by have := HQL.out; have := HQLN.out; simp only [List.length_nil]; omega) HBL.out.size ?_
        intro v11 w11 ho11 hg11
        (try replace hg11 := nodrewo hg11)
        simp only [Act.put, List.setIfInBounds_toArray]
        have HB11 := hid_in (HBL.out.grown hg11 HBL.out.size (fun k e => (Vp.Nms.row_ge (nms_made w10) k e).1))
        rw [List.nil_append] at ho11
        have HO11 := hid_in ho11
        clear ho11 hg11
        refine hK.out _ _ trivial (fun hHeld => ?_)
        clear hK K
        refine wpAnyH_ready (rs := [7]) (by kernel_rfl) (by simp) ?_
        refine AllReadyH.cons rfl (fun K hK => ?_) AllReadyH.nil
        rw [if_pos (by rfl)]
        refine wp_appN w10.heap.size (.tmp 125) (.tmp 129) rfl v11 qs (eN.drop pl) rfl (by first | exact HO11.out | exact nms_drew HO11.out) _ rfl (HVD.out _ (by first | exact (HV10.out.below HB11.out) | exact ((HV10.out.below HB11.out)).below (Nd.below_drewN (Below.refl _ _) 1) | exact ((HV10.out.below HB11.out)).below (Nd.below_drewN (Below.refl _ _) 2))) (by have := HQL.out; have := HQLN.out; have := HDL.out; omega) HB11.out.size ?_
        intro v12 w12 ho12 hg12
        (try replace hg12 := nodrewo hg12)
        simp only [Act.put]
        have HB12 := hid_in (HB11.out.grown hg12 HB11.out.size (fun k e => (Vp.Nms.row_ge HO11.out k e).1))
        have HO12 := hid_in ho12
        clear ho12 hg12
        refine hK.out _ _ trivial (fun hHeld => ?_)
        clear hK K
        refine take_put (i := 8) (d := 15) (v := ?_) rfl rfl (by kernel_rfl) (by kernel_rfl) (by kernel_rfl) (fun _ _ _ h => h) (Or.inl ⟨by kernel_rfl, ?_⟩) hHeld ?_
        rotate_left
        · (intro w hSw; (try dsimp only at hSw); go_simp; (try with_reducible rfl))
        simp only [Act.put]
        refine wpAnyH_done (by kernel_rfl) ?_ _
        have HC12 := hid_in (HC10.out.trans (HB12.out.mono HC10.out.size))
        have HBR12 := hid_in (HBR.out.trans (HC12.out.mono HBR.out.size))
        obtain ⟨tp, tc, rfl⟩ := Vp.Nms.shape HO12.out
        have HVT := hid_in (Vp.Nms.val HO12.out)
        have HTL : Hid ((qs ++ eN.drop pl).length = ql + (el - pl)) := hid_in (by rw [List.length_append, List.length_drop, ← HEN.out, HEL.out, HQLN.out])
        generalize hTN : (qs ++ eN.drop pl).length = tl at *
        have HTN := hid_in hTN
        have HWA12 := hid_in (HC9.out.trans (HBR12.out.mono HC9.out.size))
        clear hTN HO12
        by_cases hdp : 8 < tl
        · have j0 : (8 : Int) < (tl : Int) := by omega
          have HAN : Hid (ms.any (deepE ps qs) = true) := hid_in (List.any_eq_true.2 ⟨e, List.mem_of_getElem? HE0.out, by unfold deepE; rw [decide_eq_true_eq, HEL.out, HPLN.out, HQLN.out]; have := HTL.out; have := HPE.out; omega⟩)
          clear hdp
          go_wp2_with (first | (go_at_call 34; refine (rfail_any _ _).mono ?_; rintro e w5 ⟨rfl, hb5⟩; have hc5 := (HWA12.out).trans (hb5.mono (HWA12.out).size); obtain ⟨⟨g0, g1, g2, g3, g4⟩, q0, q1, q2, q3, q4⟩ := res_cells HRA.out hc5; have HR5 := hid_in (HRA.out.below hc5 HRA.out.lt); have HB5 := hid_in (HBA.out.trans (hc5.mono HBA.out.size)); clear hb5 hc5))
          exact post_Row 8 37 rfl (w.heap.size + 1) rfl 37 [.int .i64 42, .bool false, .int .i64 0, .string ⟨#[]⟩, .slice none 0 0] (((((HR5.out.set_same 0 _).set_same 1 _).set_same 2 _).set_same 3 _).set_same 4 _) _ Tryz.underlying37 rfl 5 info37 rfl rfl (RmP.no HRU.out (HCC.out.symm.trans (if_pos HAN.out)) (by decide) (s5_below HB5.out (by omega) _ _ _ _ _))
        · have j0 : ¬ (8 : Int) < (tl : Int) := by omega
          have j1 : (tl : Int) ≤ 8 := by omega
          have HND9 : Hid (deepE ps qs e = false) := hid_in (by unfold deepE; rw [decide_eq_false_iff_not, HEL.out, HPLN.out, HQLN.out]; have := HTL.out; have := HPE.out; omega)
          have HGT : Hid (Gp (qs ++ eN.drop pl)) := hid_in (by have h9 := mv_gp HGQ.out HGE.out.1 HGE.out.2 HND9.out; rw [← HEN.out, ← HPLN.out]; exact h9)
          have HSW := hid_in (rshow_one HGT.out HVT.out)
          have HMV : Hid (mvR ps qs e = ⟨qs ++ eN.drop pl, e.dir, e.data⟩) := hid_in (by rw [← HEN.out, ← HPLN.out]; rfl)
          clear hdp
          go_upto_region 22 with (go_at_call 20; refine HSW.out.mono ?_; rintro x w13 ⟨rfl, hb13⟩; have HC13 := hid_in (HC12.out.trans (hb13.mono HC12.out.size)); have hvr13 := HVR.out.below HC13.out HVR.out.lt; have m13 : w13.cell? ⟨mg, i * 3, none⟩ = some (.string tx) := (by rw [HC13.out.cell (p := ⟨mg, i * 3, none⟩) HVR.out.lt]; exact hc0); have z13 := hvr13.frozen (i * 3); have HVR13 := hid_in hvr13; clear hb13 hvr13)
          have HBR13 := hid_in (HBR.out.trans (HC13.out.mono HBR.out.size))
          obtain ⟨w14, HW14⟩ : ∃ w14, Hid (w13.setCell ⟨mg, i * 3, none⟩ (.string (B (showS (qs ++ eN.drop pl)))) = w14) := ⟨_, hid_in rfl⟩
          have HF14 : Hid (FO w14 w9.heap.size (.slice (some ⟨mg, 0, none⟩) N mc) ((mids ps qs ms (i + 1)).map Ent.fil)) := hid_in (by
            have h9 := HST.out w14 (qs ++ eN.drop pl) (by rw [← HW14.out]; exact HVR13.out.set_same _ _)
            rw [← HMV.out, HMSet.out] at h9
            exact h9)
          have HB14 : Hid (Below w9.heap.size w9 w14) := hid_in (by rw [← HW14.out]; exact below_of_grown HBR13.out (grownBy_setCell w13 ⟨mg, i * 3, none⟩ _) HBR13.out.size HMG.out)
          refine wp_world HW14.out ?_
          clear m13 z13 HW14 hc0
          go_wp2_with fail
          refine ⟨⟨i + 1, by have := HLT.out; omega, by go_num, HF14.out, HB14.out, fun j x hj hx => ?_⟩, by have := HLT.out; simp [intOf]; omega⟩
          rcases (show j < i ∨ j = i by omega) with hj | rfl
          · exact HDP.out j x hj hx
          · rw [HE0.out] at hx
            obtain rfl := Option.some.inj hx
            exact HND9.out
      · obtain rfl : i = N := by omega
        have HND9 : Hid (∀ e ∈ ms, deepE ps qs e = false) := hid_in (fun e he => by
          obtain ⟨j, hj⟩ := List.getElem?_of_mem he
          exact HDP.out j e (by rw [← HNN.out]; exact (List.getElem?_eq_some_iff.1 hj).1) hj)
        have HC0 : Hid (C = 0) := hid_in (HCC.out.symm.trans (if_neg (by
          intro h9
          obtain ⟨e, he, h10⟩ := List.any_eq_true.1 h9
          rw [HND9.out e he] at h10
          cases h10)))
        have HGM : Hid (∀ e ∈ ms.map (mvR ps qs), Gp e.names) := hid_in (fun e he => by
          obtain ⟨f, hf, rfl⟩ := List.mem_map.1 he
          exact mv_gp HGQ.out (HALL.out f hf).1 (HALL.out f hf).2 (HND9.out f hf))
        have HFM : Hid (FO wr w9.heap.size (.slice (some ⟨mg, 0, none⟩) i mc) ((ms.map (mvR ps qs)).map Ent.fil)) := hid_in (by
          have h9 := HFR.out
          rw [← HNN.out, mids_all] at h9
          rw [← HNN.out]
          exact h9)
        have HMN9 : Hid ((ms.map (mvR ps qs)).length = i) := hid_in (by rw [List.length_map]; exact HNN.out)
        have HBW0 := hid_in (HB9.out.trans (HBR.out.mono HB9.out.size))
        clear hlt hi
        obtain ⟨mv, HMV⟩ : ∃ mv, Hid (ms.map (mvR ps qs) = mv) := ⟨_, hid_in rfl⟩
        rw [HMV.out] at HGM HFM HMX HMN9
        obtain ⟨bs, HBS⟩ : ∃ bs, Hid ((es.filter (outE ps)).filter (outE qs) = bs) := ⟨_, hid_in rfl⟩
        rw [HBS.out] at HMX HB0 HBL0
        generalize hNI : (i : Nat) = N at *
        clear hNI HFR HDP
        go_upto_region 29 with (go_at_call 76; refine (HWP.out _ HBW0.out).mono ?_; rintro e w14 ⟨v14, rfl, ho14, hb14⟩; obtain ⟨p14, l14, c14, rfl⟩ := fo_form ho14; have HO14 := hid_in ho14; have HC14 := hid_in hb14; clear ho14 hb14)
        obtain ⟨w15, HW15⟩ : ∃ w15, Hid (w14.alloc (.cells #[.slice p14 l14 c14] 43) = w15) := ⟨_, hid_in rfl⟩
        have HD15 : Hid (Below w14.heap.size w14 w15) := hid_in (by rw [← HW15.out]; exact (Below.refl _ _).alloc (Nat.le_refl _) _)
        have HC15 := hid_in (HC14.out.trans (HD15.out.mono HC14.out.size))
        have HR15 : Hid (RF w15 w14.heap.size (es.filter (outE ps))) := hid_in ⟨_, by rw [← HW15.out]; exact Row.new w14 [.slice p14 l14 c14] 43, Rf.FO.mono (HO14.out.below HD15.out) (Nat.zero_le _)⟩
        have HB15 := hid_in (HBW0.out.trans (HC15.out.mono HBW0.out.size))
        refine wp_world HW15.out ?_
        generalize w14.heap.size = gb at *
        clear HW15
        go_upto_region 30 with (go_at_call 76; refine (HWQ.out _ _ HR15.out HB15.out).mono ?_; rintro e w16 ⟨v16, rfl, ho16, hb16⟩; have HO16 := hid_in ho16; have HC16 := hid_in (HC15.out.trans (hb16.mono HC15.out.size)); clear ho16 hb16)
        rw [HBS.out] at HO16
        have HBR16 := hid_in (HBR.out.trans (HC16.out.mono HBR.out.size))
        have HFM16 := hid_in (HFM.out.below HC16.out)
        have HO16b := hid_in (Rf.FO.mono HO16.out (Nat.le_trans HBR.out.size HC15.out.size))
        obtain ⟨p16, l16, c16, rfl⟩ := fo_form HO16.out
        have HZ16 := hid_in HBR16.out.size
        go_wp2_with fail
        go_loopw [17, 18] (fun vl vi W => ∃ i : Nat, i ≤ N ∧ vi = .int .i64 (i : Int) ∧ Hid (FO W w9.heap.size vl ((insAll bs (mv.take i)).map Ent.fil) ∧ Below w16.heap.size w16 W)) (fun _ vi _ => N - (intOf vi).toNat)
        case atStart => exact ⟨0, by omega, rfl, HO16b.out, Below.refl _ _⟩
        case round =>
          obtain ⟨i, hi, rfl, hR⟩ := hrel
          have HFR := hid_in hR.out.1
          have HB17 := hid_in hR.out.2
          clear hR
          obtain ⟨p17, l17, c17, rfl⟩ := fo_form HFR.out
          by_cases hlt : i < N
          · obtain ⟨e, he⟩ : ∃ e, mv[i]? = some e := ⟨_, List.getElem?_eq_getElem (by rw [HMN9.out]; exact hlt)⟩
            have hfl := fls_at (HFM16.out.below HB17.out).fls (i := i) (f := e.fil) (by rw [List.getElem?_map, he]; rfl)
            simp only [Nat.zero_add] at hfl
            obtain ⟨d0, d1, d2⟩ := hfl
            have hge := HGM.out e (List.mem_of_getElem? he)
            have HGI := hid_in (insAll_gp HB0.out (fun x hx => HGM.out x (List.mem_of_mem_take hx)) : ∀ x ∈ insAll bs (mv.take i), Gp x.names)
            have HIN := hid_in (Rf.insert_any wr (.slice p17 l17 c17) ((insAll bs (mv.take i)).map Ent.fil) e.fil HFR.out.fls (by have h1 := (insAll_perm (mv.take i) bs).length_eq; rw [List.length_map, h1, List.length_append, List.length_take]; have := HBL0.out; have := HMN9.out; have := HML.out; have := HNN.out; omega) (by have := gp_size hge; show (B (showS e.names)).size ≤ _; omega) (fun g hg => by obtain ⟨x, hx, rfl⟩ := List.mem_map.1 hg; have := gp_size (HGI.out x hx); show (B (showS x.names)).size ≤ _; omega))
            have HIE := hid_in (ins_fil (insAll bs (mv.take i)) e HGI.out hge)
            rw [HIE.out, ← insAll_take he] at HIN
            simp only [Rf.Fil.val] at HIN
            have i0 : ¬ (i : Int) < 0 := by omega
            have i1 : 0 ≤ (i : Int) := by omega
            have hlt2 : (i : Int) < (N : Int) := by omega
            have HLT := hid_in hlt
            generalize e.fil.path = fp1 at *
            generalize e.fil.dir = fd1 at *
            generalize e.fil.data = fx1 at *
            have HZ17 := hid_in (Nat.le_trans HZ16.out HB17.out.size)
            clear hi hlt he hge HIE HGI
            go_wp2_with (go_at_call 37; refine HIN.out.mono ?_; rintro e w18 ⟨⟨u18, rfl, ho18⟩, hb18⟩; have HO18 := hid_in (Rf.FO.mono ho18 HZ17.out); have HB18 := hid_in (HB17.out.trans (hb18.mono HB17.out.size)); clear ho18 hb18)
            exact ⟨⟨i + 1, by have := HLT.out; omega, by go_num, HO18.out, HB18.out⟩, by have := HLT.out; simp [intOf]; omega⟩
          · obtain rfl : i = N := by omega
            have HFE : Hid (FO wr w9.heap.size (.slice p17 l17 c17) ((rnL es ps qs _).map Ent.fil)) := hid_in (by
              have h9 := HFR.out
              rw [show mv.take i = mv by rw [← HMN9.out, List.take_length]] at h9
              rw [HMX.out]
              exact h9)
            have HBE := hid_in (HBR16.out.trans (HB17.out.mono HBR16.out.size))
            have HCE := hid_in (HC9.out.trans (HBE.out.mono HC9.out.size))
            have HB5 := hid_in (bel2 HBA.out HCE.out)
            obtain ⟨u0, hrow, -⟩ := HRU.out.ex
            have hrw := hrow.below HB5.out hrow.lt
            have m0 := hrw.cell 0
            have z0 := hrw.frozen 0
            simp only [List.getElem?_cons_zero] at m0
            have HPU := hid_in (RF.put hrow HB5.out (Rf.FO.mono HFE.out HB9.out.size))
            have HRX : Hid (Row (wr.setCell ⟨r, 0, none⟩ (.slice p17 l17 c17)) (w.heap.size + 1) [.int .i64 0, .bool false, .int .i64 0, .string ⟨#[]⟩, .slice none 0 0] 37) := hid_in ((HRA.out.below HCE.out HRA.out.lt).set_other _ _ (by have := hrow.lt; simp; omega))
            clear hlt hi hrw hrow
            go_upto_region 35 with fail
            obtain ⟨w20, HW20⟩ : ∃ w20, Hid (wr.setCell ⟨r, 0, none⟩ (.slice p17 l17 c17) = w20) := ⟨_, hid_in rfl⟩
            rw [HW20.out] at HRX HPU
            refine wp_world HW20.out ?_
            clear m0 z0
            obtain ⟨⟨g0, g1, g2, g3, g4⟩, q0, q1, q2, q3, q4⟩ := res_cells HRX.out (Below.refl _ _)
            go_wp2_with fail
            exact post_Row 8 37 rfl (w.heap.size + 1) rfl 37 [.int .i64 0, .bool false, .int .i64 0, .string ⟨#[]⟩, .slice none 0 0] (((((HRX.out.set_same 0 _).set_same 1 _).set_same 2 _).set_same 3 _).set_same 4 _) _ Tryz.underlying37 rfl 5 info37 rfl rfl (RmP.yes HC0.out (HPU.out.1.set5 HRX.out _ _ _ _ _) (gr_set5 HPU.out.2 (by omega) _ _ _ _ _))
end Go.Proofs.YtngehkmdanhgpaaGreat.Pl
