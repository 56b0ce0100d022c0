/-
  The walk of the reference's Put.
-/
import Derived.Deep.CutRange
import Derived.Laws.CopyOwn
import Derived.Shelf.SlMaps.Clone
import Derived.Deep.RegionLaw
import Derived.Deep.DrawnRows
import Derived.Laws.Tables
import Derived.Test.YtglfeocfhlmloaaGreatY00
import Derived.Test.YtglfeocfhlmloaaGreatY01
import Derived.Test.YtglfeocfhlmloaaGreatY02
import Derived.Test.YtglfeocfhlmloaaGreatY03
import Derived.Test.YtglfeocfhlmloaaGreatY04
import Derived.Test.YtglfeocfhlmloaaGreatY05
import Derived.Test.YtglfeocfhlmloaaGreatY06
import Derived.Test.YtglfeocfhlmloaaGreatY07
import Derived.Test.YtglfeocfhlmloaaGreatY08
import Derived.Test.YtglfeocfhlmloaaGreatY09
import Derived.Test.YtglfeocfhlmloaaGreatY10
import Derived.Test.YtglfeocfhlmloaaGreatY11
import Derived.Test.YtglfeocfhlmloaaGreatY12
import Derived.Test.YtglfeocfhlmloaaGreatY13
import Derived.Test.YtglfeocfhlmloaaGreatY14
import Derived.Test.YtglfeocfhlmloaaGreatY15
import Derived.Test.YtglfeocfhlmloaaGreatY16
import Derived.Test.YtglfeocfhlmloaaGreatY17
import Derived.Test.YtglfeocfhlmloaaGreatY18
import Derived.Test.YtglfeocfhlmloaaGreatY19
import Derived.Test.YtglfeocfhlmloaaGreatY20
import Derived.Test.YtglfeocfhlmloaaGreatY21
import Derived.Test.YtglfeocfhlmloaaGreatY22
import Derived.Test.YtglfeocfhlmloaaGreatY23
import Derived.Test.YtglfeocfhlmloaaGreatY24
import Derived.Test.YtglfeocfhlmloaaGreatY25
import Derived.Test.YtglfeocfhlmloaaGreatY26
import Derived.Test.YtglfeocfhlmloaaGreatY27
import Derived.Test.YtglfeocfhlmloaaGreatY28
import Derived.Test.YtglfeocfhlmloaaGreatY29
import Derived.Test.YtglfeocfhlmloaaGreatY30
import Derived.Test.YtglfeocfhlmloaaGreatY31
import Derived.Test.YtglfeocfhlmloaaGreatY32
import Derived.Test.YtglfeocfhlmloaaGreatY33
import Derived.Test.YtglfeocfhlmloaaGreatY34
import Derived.Test.YtglfeocfhlmloaaGreatY35
import Derived.Test.YtglfeocfhlmloaaGreatY36
import Derived.Test.YtglfeocfhlmloaaGreatY37
import Derived.Test.YtglfeocfhlmloaaGreatY38
import Derived.Test.YtglfeocfhlmloaaGreatY39
import Derived.Test.YtglfeocfhlmloaaGreatY40
import Derived.Test.YtglfeocfhlmloaaGreatY41
import Derived.Test.YtglfeocfhlmloaaGreatY42
import Derived.Test.YtglfeocfhlmloaaGreatY43
namespace Go.Proofs.YtglfeocfhlmloaaGreat.Up
open Go.RowKit
open Vp (Str B bl Val cmpL parseS showS withinS IsPath checkS)
open Nd (Row wp_world post_Row post_Row2 grownBy_setCell below_of_grown)
theorem nms_grown {w w' : World} {b r : Nat} {v : Value} {xs : List Str} (h : Vp.Nms w b v xs) (hg : w.grownBy w' (some r)) (hr : r < b) : Vp.Nms w' b v xs := by
  obtain ⟨h1, h2 | ⟨g, cap, cur, hv, hB, hh, rest⟩⟩ := h
  · exact ⟨h1, .inl h2⟩
  · refine ⟨h1, .inr ⟨g, cap, cur, hv, hB, ?_, rest⟩⟩
    rw [hg.block g (Array.getElem?_eq_some_iff.1 hh).1 (fun e => by have := Option.some.inj e; omega)]
    exact hh
theorem fo_at {w : World} {b0 : Nat} {v : Value} {es : List Ent} (h : FO w b0 v (es.map Ent.fil)) : ∃ p cap b o, v = .slice p es.length cap ∧ es.length ≤ cap ∧ cap ≤ 9223372036854775807 ∧ ∀ W, Below w.heap.size w W → ∀ (i : Nat) e, es[i]? = some e → p = some ⟨b, o, none⟩ ∧ W.cell? ⟨b, o + i * 4, none⟩ = some (.string (B (showS e.names))) := by
  obtain ⟨p, cap, b, o, hv, h3, h4, h5, h6, _⟩ := h.fls
  rw [List.length_map] at hv h3
  subst hv
  refine ⟨p, cap, b, o, rfl, h3, h4, fun W hW i e hi => ?_⟩
  have hne : es.map Ent.fil ≠ [] := by
    intro hh
    rw [List.map_eq_nil_iff] at hh
    rw [hh] at hi
    simp at hi
  obtain ⟨hp, hb⟩ := h5 hne
  have hf : (es.map Ent.fil)[i]? = some e.fil := by rw [List.getElem?_map, hi]; rfl
  refine ⟨hp, ?_⟩
  rw [hW.cell (p := ⟨b, o + i * 4, none⟩) hb]
  exact h6 _ _ (fcells_at hf 0 _ rfl)
theorem fo_shape {w : World} {b0 : Nat} {v : Value} {fs : List Fil} (h : FO w b0 v fs) : ∃ p n c, v = .slice p n c := by
  obtain ⟨p, c, e⟩ := h.fls.form
  exact ⟨p, _, c, e⟩
theorem put_new {es : List Ent} {p : ByteArray} {k : Int} {q : Bool} {d : ByteArray} (hE : putEA es p k q d = 0) (hn : entAt es (nmsOf p) = none) : putO es p k q d = insE es ⟨nmsOf p, k, q, d⟩ := by
  unfold putO
  rw [if_pos hE, hn]
  rfl
theorem put_old {es : List Ent} {p : ByteArray} {k : Int} {q : Bool} {d : ByteArray} {e : Ent} (hE : putEA es p k q d = 0) (hn : entAt es (nmsOf p) = some e) : putO es p k q d = putA es ⟨nmsOf p, k, q, d⟩ := by
  unfold putO
  rw [if_pos hE, hn]
  rfl
set_option maxHeartbeats 16000000 in
set_option maxRecDepth 100000 in
theorem rput_any {w : World} {r : Nat} {N Z : Int} {es : List Ent} (h : RU w r N Z es) (hT : TreeA es) (p : ByteArray) (k : Int) (q : Bool) (d : ByteArray) (hs : p.size ≤ 9223372036854775807) :
    Calls Tryz.prog 20 #[.pointer (some ⟨r, 0, none⟩), .agg #[.string p, .int .i64 k, .bool q, .string d]] w fun e w' => PutP w r N Z es p k q d e w' := by
  have HRU := hid_in h
  have HT := hid_in hT
  have HGL : Hid (GoodL es) := hid_in (fun e he => ⟨(hT.good e he).1, (hT.good e he).2.1⟩)
  have HLN : Hid (es.length ≤ 100000) := hid_in (by have := hT.len; omega)
  obtain ⟨p0, cap0, b0, o0, hc1, hc2, hrow, hfo, -⟩ := h.at_
  have HROW := hid_in hrow
  have HFOW := hid_in hfo
  obtain ⟨W0, HW0⟩ : ∃ W0, Hid (w.alloc (.cells #[.string p, .int .i64 k, .bool q, .string d] 42) = W0) := ⟨_, hid_in rfl⟩
  have HB0 : Hid (Below w.heap.size w W0) := by rw [← HW0.out]; exact (Below.refl _ _).alloc (Nat.le_refl _) _
  have HR0 : Hid (Row W0 w.heap.size [.string p, .int .i64 k, .bool q, .string d] 42) := by rw [← HW0.out]; exact Row.new w [.string p, .int .i64 k, .bool q, .string d] 42
  have HS0 : Hid (w.heap.size < W0.heap.size) := hid_in HR0.out.lt
  have HPA := hid_in (Rf.rparse_n p hs W0)
  obtain ⟨n, HNM⟩ : ∃ n, Hid (nmsOf p = n) := ⟨_, hid_in rfl⟩
  obtain ⟨er, HERR⟩ : ∃ er, Hid (errOf p = er) := ⟨_, hid_in rfl⟩
  have HGN : Hid (Gp n) := hid_in (by rw [← HNM.out]; exact gp_nms p)
  rw [show Rf.nmsOf p = n from HNM.out, show Rf.errOf p = er from HERR.out] at HPA
  obtain ⟨nl, HNL⟩ : ∃ nl, Hid (n.length = nl) := ⟨_, hid_in rfl⟩
  obtain ⟨L, HL⟩ : ∃ L, Hid (es.length = L) := ⟨_, hid_in rfl⟩
  have hnl8 : (nl : Int) ≤ 8 := by have := HGN.out.2; have := HNL.out; omega
  have hL : (L : Int) ≤ 1024 := by have := hT.len; have := HL.out; omega
  rw [HL.out] at hc1 HROW HFOW
  have a0 : W0.cell? ⟨w.heap.size, 0, none⟩ = some (.string p) := HR0.out.cell 0
  clear h hT hs hrow hfo
  go_enter Tryz.func20, Tryz.ntmps20
  go_upto_region 1 with fail
  refine wp_world HW0.out ?_
  go_upto_region 2 with (go_at_call 46; refine HPA.out.mono ?_; rintro e w1 ⟨v1, rfl, hn1, hb1⟩; obtain ⟨pv, cv, rfl⟩ := Vp.Nms.shape hn1; rw [HNL.out] at hn1 ⊢; have HN1 := hid_in hn1; have HB1 := hid_in (HB0.out.trans (hb1.mono HB0.out.size)); have HR1 := hid_in (HR0.out.below hb1 HR0.out.lt); clear hn1 hb1)
  clear HPA a0 HR0
  by_cases herr : er = 0
  case neg =>
    have hb : (er != 0) = true := by simp [herr]
    have hb2 : (er == 0) = false := by simp [herr]
    have HE : Hid (putEA es p k q d = er ∧ er ≠ 0) := hid_in ⟨by unfold putEA; rw [HERR.out, if_pos herr], herr⟩
    clear herr
    go_wp2_with fail
    go_ret
    exact PutP.no HE.out.1 HE.out.2 HRU.out HB1.out
  subst herr
  have HER := HERR
  clear HERR
  by_cases hn0 : n = []
  · have HE : Hid (putEA es p k q d = 132) := hid_in (by unfold putEA; rw [HER.out, if_neg (by simp), if_pos (HNM.out.trans hn0)])
    obtain rfl : nl = 0 := by rw [← HNL.out, hn0]; rfl
    clear hn0
    go_wp2_with fail
    go_ret
    exact PutP.no HE.out (by decide) HRU.out HB1.out
  have HNE : Hid (nmsOf p ≠ []) := hid_in (by rw [HNM.out]; exact hn0)
  have hnlp : ((nl : Int) == 0) = false := by
    have := List.length_pos_iff.2 hn0
    have := HNL.out
    simp
    omega
  clear hn0
  have b1 := HR1.out.cell 1
  have b2 := HR1.out.cell 2
  have b3 := HR1.out.cell 3
  by_cases hk1 : k < 1
  · have HE : Hid (putEA es p k q d = 100) := hid_in (by rw [putEA_form HER.out HNE.out (by rw [form_kind (.inl hk1)]; decide), form_kind (.inl hk1)])
    go_wp2_with fail
    go_ret
    exact PutP.no HE.out (by decide) HRU.out HB1.out
  by_cases hk3 : 3 < k
  · have HE : Hid (putEA es p k q d = 100) := hid_in (by rw [putEA_form HER.out HNE.out (by rw [form_kind (.inr hk3)]; decide), form_kind (.inr hk3)])
    go_wp2_with fail
    go_ret
    exact PutP.no HE.out (by decide) HRU.out HB1.out
  go_upto_region 8 with fail
  have HK13 : Hid (1 ≤ k ∧ k ≤ 3) := hid_in (by omega)
  go_cut [48] from 32 to 48 (fun v W => v = .bool (badF k q d) ∧ Hid (Below w1.heap.size w1 W))
  case first =>
    have hdb : ∀ d : ByteArray, d ≠ ⟨#[]⟩ → (d == ⟨#[]⟩) = false ∧ d.toList.isEmpty = false ∧ (d.toList == []) = false := fun d hd => by
      have h1 : ¬ d.toList = [] := fun hh => hd (toL_inj (b := ⟨#[]⟩) (hh.trans (by rw [Lib.toList_data])))
      refine ⟨by rw [Bool.eq_false_iff]; exact fun hh => hd ((MapKept.bytes_beq d _).1 hh), by simpa using h1, by simpa using h1⟩
    rcases (show k = 1 ∨ k = 2 ∨ k = 3 by omega) with rfl | rfl | rfl
    all_goals
      clear hk1 hk3 HK13
      by_cases hd : d = ⟨#[]⟩
      · subst hd
        rcases q with _ | _
        all_goals
          go_wp2_with fail
          go_meet
          exact ⟨rfl, Below.refl _ _⟩
      · obtain ⟨d1, d2, d3⟩ := hdb d hd
        have HD := hid_in hd
        clear hd hdb
        rcases q with _ | _
        all_goals
          go_wp2_with fail
          go_meet
          exact ⟨by unfold badF; simp [HD.out], Below.refl _ _⟩
  case rest =>
    obtain ⟨rfl, hbc⟩ := hcut
    have HB2 := hid_in (HB1.out.trans (hbc.out.mono HB1.out.size))
    have HR2 := hid_in (HR1.out.below hbc.out HR1.out.lt)
    have HN2 := hid_in (Nd.own_belowK HN1.out hbc.out)
    obtain ⟨w2, hw2⟩ : ∃ w2, w2 = wc := ⟨_, rfl⟩
    subst hw2
    clear hbc HB1 HR1 HN1 b1 b2 b3 hk1 hk3
    have b1 := HR2.out.cell 1
    have b3 := HR2.out.cell 3
    by_cases hbad : badF k q d = true
    · rw [hbad]
      have HE : Hid (putEA es p k q d = 1) := hid_in (by rw [putEA_form HER.out HNE.out (by rw [form_bad HK13.out.1 HK13.out.2 hbad]; decide), form_bad HK13.out.1 HK13.out.2 hbad])
      clear hbad
      go_wp2_with fail
      go_ret
      exact PutP.no HE.out (by decide) HRU.out HB2.out
    have hbad : badF k q d = false := by simpa using hbad
    rw [hbad]
    have HFB := hid_in (form_big HK13.out.1 HK13.out.2 hbad)
    clear hbad
    by_cases hbig : 1024 < d.size
    · rw [if_pos hbig] at HFB
      have hbi : (1024 : Int) < (d.size : Int) := by omega
      have HE : Hid (putEA es p k q d = 134) := hid_in (by rw [putEA_form HER.out HNE.out (by rw [HFB.out]; decide), HFB.out])
      clear hbig
      go_wp2_with fail
      go_ret
      exact PutP.no HE.out (by decide) HRU.out HB2.out
    rw [if_neg hbig] at HFB
    have hbi : ¬ (1024 : Int) < (d.size : Int) := by omega
    have HFO := HFB
    clear hbig HFB
    by_cases hone : nl = 1
    · subst hone
      have HDI : Hid (dirA es n.dropLast = 0) := hid_in (dir_zero.2 (.inl (by
        have := HNL.out
        exact List.length_eq_zero_iff.1 (by rw [List.length_dropLast]; omega))))
      go_upto_region 18 with fail
      have wx := w2
      obtain ⟨wx, HWX⟩ : ∃ wx, Hid (w2 = wx) := ⟨_, hid_in rfl⟩
      rw [HWX.out] at HB2 HR2 HN2
      refine wp_world HWX.out ?_
      have HBX := HB2
      have HRX := HR2
      have HNX := HN2
      clear HB2 HR2 HN2 HWX b1 b3
      have HRU18 := hid_in (HRU.out.below HBX.out)
      have HVX : Hid (Val wx (.slice pv 1 cv) n) := hid_in (Vp.Nms.val HNX.out)
      have HHA := hid_in (rbelow_any HRU18.out HGL.out HLN.out HVX.out)
      obtain ⟨bn, HBN⟩ : ∃ bn, Hid ((es.filter (belowE n)).length = bn) := ⟨_, hid_in rfl⟩
      have HHS : Hid (hasA es n = decide (0 < bn)) := hid_in (by unfold hasA; rw [HBN.out])
      have b1 := HRX.out.cell 1
      go_cut [80] from 71 to 80 (fun v W => v = .bool (decide (k ≠ 2 ∧ 0 < bn)) ∧ Hid (Below wx.heap.size wx W))
      case first =>
        by_cases hk2 : k = 2
        · subst hk2
          go_wp2_with fail
          go_meet
          exact ⟨by simp, Below.refl _ _⟩
        · have hkb : (k != 2) = true := by simp [hk2]
          have hkc : (k == 2) = false := by simp [hk2]
          have HK2 := hid_in hk2
          clear hk2
          go_wp2_with (go_at_call 48; refine HHA.out.mono ?_; rintro e w2 ⟨v2, rfl, ho2, hb2⟩; have HB2 := hid_in hb2; obtain ⟨p2, c2, rfl⟩ := ho2.fls.form; rw [List.length_map, HBN.out]; clear ho2 hb2)
          go_meet
          refine ⟨?_, HB2.out⟩
          have := HK2.out
          simp [this]
      case rest =>
        obtain ⟨rfl, hbc⟩ := hcut
        have HBC := hid_in (HBX.out.trans (hbc.out.mono HBX.out.size))
        have HRC := hid_in (HRX.out.below hbc.out HRX.out.lt)
        have HNC := hid_in (Nd.own_belowK HNX.out hbc.out)
        clear hbc HHA b1 HBX HRX HNX HVX HRU18
        by_cases hbad : k ≠ 2 ∧ 0 < bn
        · rw [decide_eq_true hbad]
          have HE : Hid (putEA es p k q d = 130) := hid_in (by rw [putEA_place HER.out HNE.out HFO.out, HNM.out]; exact place_has HT.out (by rw [← HNM.out]; exact HNE.out) HDI.out hbad.1 (by rw [HHS.out]; exact decide_eq_true hbad.2))
          clear hbad
          go_wp2_with fail
          go_ret
          exact PutP.no HE.out (by decide) HRU.out HBC.out
        · rw [decide_eq_false hbad]
          have HOK : Hid (k = 2 ∨ hasA es n = false) := hid_in (by
            rw [HHS.out]
            by_cases hk : k = 2
            · exact .inl hk
            · exact .inr (decide_eq_false (fun h => hbad ⟨hk, h⟩)))
          have HSH := hid_in (Vp.rshow_v (Vp.Nms.val HNC.out) (by have := HGN.out.lens; omega))
          obtain ⟨T, HTT⟩ : ∃ T, Hid (B (showS n) = T) := ⟨_, hid_in rfl⟩
          rw [HTT.out] at HSH
          clear hbad HHS HBN
          go_upto_region 21 with (go_at_call 49; refine HSH.out.mono ?_; rintro e w3 ⟨rfl, hd3⟩; have HX3 : Hid (Below wc.heap.size wc w3) := hid_in (by obtain ⟨m, hm⟩ := hd3; rw [hm]; exact below_drewN (Below.refl _ _) m); have HB3 := hid_in (HBC.out.trans (HX3.out.mono HBC.out.size)); have HR3 := hid_in (HRC.out.below HX3.out HRC.out.lt); have HN3 := hid_in (Nd.own_belowK HNC.out HX3.out); have y0 := HR3.out.frozen 0; have x0 := HR3.out.cell 0; clear hd3)
          obtain ⟨w4, HW4⟩ : ∃ w4, Hid (w3.setCell ⟨w.heap.size, 0, none⟩ (.string T) = w4) := ⟨_, hid_in rfl⟩
          have HR4 : Hid (Row w4 w.heap.size [.string T, .int .i64 k, .bool q, .string d] 42) := hid_in (by rw [← HW4.out]; exact HR3.out.set_same 0 _)
          have HB4 : Hid (Below w.heap.size w w4) := hid_in (by rw [← HW4.out]; exact (set_below HB3.out (Nat.le_refl _) HB3.out.size _).1)
          have HN4 : Hid (Vp.Nms w4 W0.heap.size (.slice pv 1 cv) n) := hid_in (by rw [← HW4.out]; exact nms_grown HN3.out (grownBy_setCell _ _ _) HS0.out)
          refine wp_world HW4.out ?_
          clear HW4 HR3 HB3 HN3 HX3 HSH HBC HRC HNC y0 x0
          have HPL := hid_in (rplace_any (HRU.out.below HB4.out) HGL.out (Vp.Nms.val HN4.out) (by have := HGN.out.lens; omega))
          go_upto_region 22 with (go_at_call 50; refine HPL.out.mono ?_; rintro e w5 ⟨at5, rfl, hat5, hb5⟩; have HAT5 := hid_in hat5; have HB5 := hid_in (HB4.out.trans (hb5.mono HB4.out.size)); have HR5 := hid_in (HR4.out.below hb5 HR4.out.lt); have HN5 := hid_in (Nd.own_belowK HN4.out hb5); clear hat5 hb5)
          clear HPL HB4 HR4 HN4
          have q2 : w5.cell? ⟨r, 2, none⟩ = some (.slice p0 L cap0) := (HROW.out.below HB5.out HROW.out.lt).cell 2
          have HFO5 : Hid (FO w5 0 (.slice p0 L cap0) (es.map Ent.fil)) := hid_in (HFOW.out.below HB5.out)
          have HB6 : Hid (Below w5.heap.size w5 (w5.alloc (.cells #[] 42))) := hid_in ((Below.refl _ _).alloc (Nat.le_refl _) _)
          have q6 : (w5.alloc (.cells #[] 42)).cell? ⟨r, 2, none⟩ = some (.slice p0 L cap0) := (HROW.out.below (HB5.out.trans (HB6.out.mono HB5.out.size)) HROW.out.lt).cell 2
          have HFL6 := hid_in ((HFO5.out.below HB6.out).fls)
          have HO6 := hid_in (own36 w5)
          have HLX : Hid ((es.map Ent.fil).length ≤ 1024) := hid_in (by rw [List.length_map]; exact HT.out.len)
          rcases HAT5.out with ⟨rfl, hnone⟩ | ⟨i, eo, rfl, heo, hen⟩
          · have HNO := hid_in hnone
            clear hnone HAT5
            by_cases hmany : 1024 ≤ L
            · have hm2 : (1024 : Int) ≤ (L : Int) := by omega
              have HE : Hid (putEA es p k q d = 8) := hid_in (by rw [putEA_place HER.out HNE.out HFO.out, HNM.out, place_new HDI.out HNO.out, if_pos (by rw [HL.out]; exact hmany)])
              go_wp2_with fail
              go_ret
              exact PutP.no HE.out (by decide) HRU.out HB5.out
            · have hm2 : ¬ (1024 : Int) ≤ (L : Int) := by omega
              have HE : Hid (putEA es p k q d = 0) := hid_in (by rw [putEA_place HER.out HNE.out HFO.out, HNM.out, place_new HDI.out HNO.out, if_neg (by rw [HL.out]; exact hmany)])
              go_upto_region 25 with (at_builtin; refine wpList_app81 w5.heap.size rfl _ _ rfl _ [] (es.map Ent.fil) rfl HO6.out _ rfl HFL6.out (by have := HLX.out; simp only [List.length_nil]; omega) HB6.out.size ?_; intro v7 w7 ho7 hg7; rw [List.nil_append] at ho7; have HO7 := hid_in ho7; have HX7 := hid_in (HO6.out.step HB6.out HB6.out.size hg7); clear ho7 hg7)
              obtain ⟨p7, cap7, b7, o7, rfl, hc71, hc72, hat7⟩ := fo_at HO7.out
              rw [HL.out] at HO7 hc71 ⊢
              have HA7 := hid_in hat7
              have HB7 := hid_in (HB5.out.trans (HX7.out.mono HB5.out.size))
              have HR7 := hid_in (HR5.out.below HX7.out HR5.out.lt)
              have HN7 := hid_in (Nd.own_belowK HN5.out HX7.out)
              clear hat7 HB6 HFL6 HO6 HFO5 q2 q6 hmany hm2
              go_wp2_with fail
              go_loopw [9] (fun vi W => ∃ j : Nat, j ≤ L ∧ vi = .int .i64 (j : Int) ∧ Hid ((∀ (i : Nat) g, i < j → es[i]? = some g → cmpL g.names n < 0) ∧ Below w7.heap.size w7 W)) (fun vi _ => L - (intOf vi).toNat)
              case atStart => exact ⟨0, by omega, rfl, (fun i g h => by omega), Below.refl _ _⟩
              case round =>
                obtain ⟨j, hj, rfl, hjj⟩ := hrel
                have HJ := hid_in hjj.out.1
                have HBR := hid_in hjj.out.2
                have HJL := hid_in hj
                clear hjj
                by_cases hlt : j < L
                · have hlt2 : (j : Int) < (L : Int) := by omega
                  obtain ⟨g, hg⟩ : ∃ g, es[j]? = some g := ⟨_, List.getElem?_eq_getElem (by rw [HL.out]; exact hlt)⟩
                  obtain ⟨rfl, c0⟩ := HA7.out _ HBR.out j g hg
                  have HG := hid_in hg
                  have HNG := hid_in (fun W => names_e (HGL.out g (List.mem_of_getElem? hg)).1 W)
                  have HNR := hid_in (Vp.Nms.val (Nd.own_belowK HN7.out HBR.out))
                  obtain ⟨c, Hc⟩ : ∃ c, Hid (cmpL g.names n = c) := ⟨_, hid_in rfl⟩
                  clear hg hj
                  by_cases hcc : c < 0
                  · go_wp2_with (first | (go_at_call 45; refine (HNG.out _).mono ?_; rintro x x1 ⟨px, kx, rfl, hv1, hb1⟩; have HV1 := hid_in hv1; have HBR1 := hid_in (HBR.out.trans (hb1.mono HBR.out.size)); have HNR1 := hid_in (HNR.out.below hb1); clear hv1 hb1) | (go_at_call 51; refine (Vp.rcompare_v HV1.out HNR1.out).mono ?_; rintro x x2 ⟨rfl, hd2⟩; rw [Hc.out]; have HBR2 : Hid (Below w7.heap.size w7 x2) := hid_in (by obtain ⟨m, hm⟩ := hd2; rw [hm]; exact below_drewN HBR1.out m); clear hd2))
                    refine ⟨⟨j + 1, by omega, by go_num, (fun i x hi hx => ?_), HBR2.out⟩, by simp [intOf]; omega⟩
                    rcases (show i < j ∨ i = j by omega) with hi | rfl
                    · exact HJ.out i x hi hx
                    · obtain rfl : g = x := Option.some.inj (HG.out.symm.trans hx)
                      rw [Hc.out]
                      exact hcc
                  · have HIN : Hid (insE es ⟨nmsOf p, k, q, d⟩ = es.take j ++ [⟨nmsOf p, k, q, d⟩] ++ es.drop j) := hid_in (insE_at es ⟨nmsOf p, k, q, d⟩ j (by rw [HL.out]; exact HJL.out) (fun i x hi hx => by rw [HNM.out]; exact HJ.out i x hi hx) (fun x hx => by obtain rfl : g = x := Option.some.inj (HG.out.symm.trans hx); simp only; rw [HNM.out, Hc.out]; exact hcc))
                    have hgt := hid_in hlt2
                    go_upto_region 32 with (first | (go_at_call 45; refine (HNG.out _).mono ?_; rintro x x1 ⟨px, kx, rfl, hv1, hb1⟩; have HV1 := hid_in hv1; have HBR1 := hid_in (HBR.out.trans (hb1.mono HBR.out.size)); have HNR1 := hid_in (HNR.out.below hb1); clear hv1 hb1) | (go_at_call 51; refine (Vp.rcompare_v HV1.out HNR1.out).mono ?_; rintro x w8 ⟨rfl, hd2⟩; rw [Hc.out]; have HBR2 : Hid (Below w7.heap.size w7 w8) := hid_in (by obtain ⟨m, hm⟩ := hd2; rw [hm]; exact below_drewN HBR1.out m); clear hd2))
                    clear c0
                    have HBW8 := hid_in (HB7.out.trans (HBR2.out.mono HB7.out.size))
                    have HO8 := hid_in (HO7.out.below HBR2.out)
                    have HFL8 := hid_in HO8.out.fls
                    have HRB8 := hid_in (HR7.out.below HBR2.out HR7.out.lt)
                    have HB9 : Hid (Below w8.heap.size w8 (w8.alloc (.cells #[] 42))) := hid_in ((Below.refl _ _).alloc (Nat.le_refl _) _)
                    have HF9 := hid_in ((HFL8.out.below HB9.out).first j (by rw [List.length_map, HL.out]; exact HJL.out))
                    have HO9 := hid_in (own36 w8)
                    have hs1 := fun W => slice40_to (some ⟨b7, o7, none⟩) L cap7 j (by have := HJL.out; omega) W
                    obtain ⟨q9, hs2, hq9⟩ := HFL8.out.rest j (by rw [List.length_map, HL.out]; exact HJL.out)
                    rw [List.length_map, HL.out] at hs2 hq9
                    have HQ9 := hid_in hq9
                    have hjL : (j : Int) ≤ (L : Int) := by have := HJL.out; omega
                    clear hq9
                    go_upto_region 33 with (at_builtin; refine wpList_app81 w8.heap.size rfl _ _ rfl _ [] ((es.map Ent.fil).take j) rfl HO9.out _ rfl HF9.out.2.2 (by have := HLX.out; simp only [List.length_nil, List.length_take]; omega) HB9.out.size ?_; intro v10 w10 ho10 hg10; rw [List.nil_append] at ho10; have HX10 := hid_in (HO9.out.step HB9.out HB9.out.size hg10); have HO10 := hid_in ho10; clear ho10 hg10)
                    have HR10 := hid_in (HRB8.out.below HX10.out HRB8.out.lt)
                    have e0 := HR10.out.cell 0
                    have e1 := HR10.out.cell 1
                    have e2 := HR10.out.cell 2
                    have e3 := HR10.out.cell 3
                    have HB11 : Hid (Below w10.heap.size w10 (w10.alloc (.cells #[.string T, .int .i64 k, .bool q, .string d] 42))) := hid_in ((Below.refl _ _).alloc (Nat.le_refl _) _)
                    have HX11 := hid_in (HX10.out.trans (HB11.out.mono HX10.out.size))
                    have HO11 := hid_in (HO10.out.below HB11.out)
                    have HF11 := hid_in (fls_one w10 ⟨T, k, q, d⟩)
                    go_upto_region 34 with (at_builtin; refine wpList_app81 w8.heap.size rfl (.tmp 135) (.tmp 137) rfl v10 ((es.map Ent.fil).take j) [⟨T, k, q, d⟩] rfl HO11.out _ rfl HF11.out (by have := HLX.out; simp only [List.length_cons, List.length_nil, List.length_take]; omega) HX11.out.size ?_; intro v12 w12 ho12 hg12; have HX12 := hid_in (HO11.out.step HX11.out HX11.out.size hg12); have HO12 := hid_in ho12; clear ho12 hg12)
                    clear e0 e1 e2 e3
                    have HF12 := hid_in (HQ9.out.below HX12.out)
                    have HFIN : Hid ((putO es p k q d).map Ent.fil = (es.map Ent.fil).take j ++ [⟨T, k, q, d⟩] ++ (es.map Ent.fil).drop j) := hid_in (by
                      rw [put_new HE.out (by rw [HNM.out]; exact HNO.out), HIN.out]
                      simp only [List.map_append, List.map_take, List.map_drop, List.map_cons, List.map_nil]
                      congr 2
                      unfold Ent.fil
                      simp only [HNM.out, HTT.out])
                    go_wp2_with (at_builtin; refine wpList_app81 w8.heap.size rfl (.tmp 140) (.tmp 143) rfl v12 ((es.map Ent.fil).take j ++ [⟨T, k, q, d⟩]) ((es.map Ent.fil).drop j) rfl HO12.out (.slice q9 (L - j) (cap7 - j)) rfl HF12.out (by have := HLX.out; simp only [List.length_append, List.length_cons, List.length_nil, List.length_take, List.length_drop]; omega) HX12.out.size ?_; intro v14 w14 ho14 hg14; have HX14 := hid_in (HO12.out.step HX12.out HX12.out.size hg14); have HB14 := hid_in (HBW8.out.trans (HX14.out.mono HBW8.out.size)); have hfw : FO w14 w.heap.size v14 ((putO es p k q d).map Ent.fil) := (by rw [HFIN.out]; exact ho14.mono HBW8.out.size); obtain ⟨p14, n14, c14, rfl⟩ := fo_shape ho14; have HRP := hid_in (RU.put HROW.out HB14.out hfw); have z2 := (HROW.out.below HB14.out HROW.out.lt).frozen 2; have y2 := (HROW.out.below HB14.out HROW.out.lt).cell 2; clear ho14 hg14 hfw)
                    go_ret
                    exact ⟨by rw [HE.out]; rfl, HRP.out.1, HRP.out.2⟩
                · have hlt2 : ¬ (j : Int) < (L : Int) := by omega
                  have HIN : Hid (insE es ⟨nmsOf p, k, q, d⟩ = es.take j ++ [⟨nmsOf p, k, q, d⟩] ++ es.drop j) := hid_in (insE_at es ⟨nmsOf p, k, q, d⟩ j (by rw [HL.out]; exact HJL.out) (fun i x hi hx => by rw [HNM.out]; exact HJ.out i x hi hx) (fun x hx => by have h1 := (List.getElem?_eq_some_iff.1 hx).1; have := HL.out; omega))
                  clear hj
                  go_upto_region 32 with fail
                  obtain ⟨w8, HW8⟩ : ∃ w8, Hid (wr = w8) := ⟨_, hid_in rfl⟩
                  have HBR2 := HBR
                  rw [HW8.out] at HBR2
                  refine wp_world HW8.out ?_
                  have HBW8 := hid_in (HB7.out.trans (HBR2.out.mono HB7.out.size))
                  have HO8 := hid_in (HO7.out.below HBR2.out)
                  have HFL8 := hid_in HO8.out.fls
                  have HRB8 := hid_in (HR7.out.below HBR2.out HR7.out.lt)
                  have HB9 : Hid (Below w8.heap.size w8 (w8.alloc (.cells #[] 42))) := hid_in ((Below.refl _ _).alloc (Nat.le_refl _) _)
                  have HF9 := hid_in ((HFL8.out.below HB9.out).first j (by rw [List.length_map, HL.out]; exact HJL.out))
                  have HO9 := hid_in (own36 w8)
                  have hs1 := fun W => slice40_to p7 L cap7 j (by have := HJL.out; omega) W
                  obtain ⟨q9, hs2, hq9⟩ := HFL8.out.rest j (by rw [List.length_map, HL.out]; exact HJL.out)
                  rw [List.length_map, HL.out] at hs2 hq9
                  have HQ9 := hid_in hq9
                  have hjL : (j : Int) ≤ (L : Int) := by have := HJL.out; omega
                  clear hq9
                  go_upto_region 33 with (at_builtin; refine wpList_app81 w8.heap.size rfl _ _ rfl _ [] ((es.map Ent.fil).take j) rfl HO9.out _ rfl HF9.out.2.2 (by have := HLX.out; simp only [List.length_nil, List.length_take]; omega) HB9.out.size ?_; intro v10 w10 ho10 hg10; rw [List.nil_append] at ho10; have HX10 := hid_in (HO9.out.step HB9.out HB9.out.size hg10); have HO10 := hid_in ho10; clear ho10 hg10)
                  have HR10 := hid_in (HRB8.out.below HX10.out HRB8.out.lt)
                  have e0 := HR10.out.cell 0
                  have e1 := HR10.out.cell 1
                  have e2 := HR10.out.cell 2
                  have e3 := HR10.out.cell 3
                  have HB11 : Hid (Below w10.heap.size w10 (w10.alloc (.cells #[.string T, .int .i64 k, .bool q, .string d] 42))) := hid_in ((Below.refl _ _).alloc (Nat.le_refl _) _)
                  have HX11 := hid_in (HX10.out.trans (HB11.out.mono HX10.out.size))
                  have HO11 := hid_in (HO10.out.below HB11.out)
                  have HF11 := hid_in (fls_one w10 ⟨T, k, q, d⟩)
                  go_upto_region 34 with (at_builtin; refine wpList_app81 w8.heap.size rfl (.tmp 135) (.tmp 137) rfl v10 ((es.map Ent.fil).take j) [⟨T, k, q, d⟩] rfl HO11.out _ rfl HF11.out (by have := HLX.out; simp only [List.length_cons, List.length_nil, List.length_take]; omega) HX11.out.size ?_; intro v12 w12 ho12 hg12; have HX12 := hid_in (HO11.out.step HX11.out HX11.out.size hg12); have HO12 := hid_in ho12; clear ho12 hg12)
                  clear e0 e1 e2 e3
                  have HF12 := hid_in (HQ9.out.below HX12.out)
                  have HFIN : Hid ((putO es p k q d).map Ent.fil = (es.map Ent.fil).take j ++ [⟨T, k, q, d⟩] ++ (es.map Ent.fil).drop j) := hid_in (by
                    rw [put_new HE.out (by rw [HNM.out]; exact HNO.out), HIN.out]
                    simp only [List.map_append, List.map_take, List.map_drop, List.map_cons, List.map_nil]
                    congr 2
                    unfold Ent.fil
                    simp only [HNM.out, HTT.out])
                  go_wp2_with (at_builtin; refine wpList_app81 w8.heap.size rfl (.tmp 140) (.tmp 143) rfl v12 ((es.map Ent.fil).take j ++ [⟨T, k, q, d⟩]) ((es.map Ent.fil).drop j) rfl HO12.out (.slice q9 (L - j) (cap7 - j)) rfl HF12.out (by have := HLX.out; simp only [List.length_append, List.length_cons, List.length_nil, List.length_take, List.length_drop]; omega) HX12.out.size ?_; intro v14 w14 ho14 hg14; have HX14 := hid_in (HO12.out.step HX12.out HX12.out.size hg14); have HB14 := hid_in (HBW8.out.trans (HX14.out.mono HBW8.out.size)); have hfw : FO w14 w.heap.size v14 ((putO es p k q d).map Ent.fil) := (by rw [HFIN.out]; exact ho14.mono HBW8.out.size); obtain ⟨p14, n14, c14, rfl⟩ := fo_shape ho14; have HRP := hid_in (RU.put HROW.out HB14.out hfw); have z2 := (HROW.out.below HB14.out HROW.out.lt).frozen 2; have y2 := (HROW.out.below HB14.out HROW.out.lt).cell 2; clear ho14 hg14 hfw)
                  go_ret
                  exact ⟨by rw [HE.out]; rfl, HRP.out.1, HRP.out.2⟩
          · have HEO := hid_in (And.intro heo hen)
            have hiL : i < L := by rw [← HL.out]; exact (List.getElem?_eq_some_iff.1 heo).1
            have HAE : Hid (entAt es n = some eo) := hid_in (by rw [← hen]; exact at_mem HT.out.nd (List.mem_of_getElem? heo))
            have HE : Hid (putEA es p k q d = 0) := hid_in (by rw [putEA_place HER.out HNE.out HFO.out, HNM.out]; exact place_old HDI.out HOK.out HAE.out)
            have hi0 : ¬ (i : Int) < 0 := by omega
            have hi1 : (0 : Int) ≤ (i : Int) := by omega
            clear heo hen HAT5
            go_upto_region 25 with (at_builtin; refine wpList_app81 w5.heap.size rfl _ _ rfl _ [] (es.map Ent.fil) rfl HO6.out _ rfl HFL6.out (by have := HLX.out; simp only [List.length_nil]; omega) HB6.out.size ?_; intro v7 w7 ho7 hg7; rw [List.nil_append] at ho7; have HO7 := hid_in ho7; have HX7 := hid_in (HO6.out.step HB6.out HB6.out.size hg7); clear ho7 hg7)
            obtain ⟨p7, cap7, b7, o7, rfl, hc71, hc72, hat7⟩ := fo_at HO7.out
            rw [HL.out] at HO7 hc71 ⊢
            have HB7 := hid_in (HB5.out.trans (HX7.out.mono HB5.out.size))
            have HR7 := hid_in (HR5.out.below HX7.out HR5.out.lt)
            have hiI : (i : Int) < (L : Int) := by omega
            obtain ⟨gl, hgl⟩ : ∃ gl, p7 = some ⟨gl, 0, none⟩ ∧ w5.heap.size ≤ gl := by
              obtain ⟨_, ⟨h2, h3⟩ | ⟨g', cap', cur, hv, hB, _⟩⟩ := HO7.out
              · rw [List.length_map, HL.out] at h3
                omega
              · simp only [Value.slice.injEq] at hv
                exact ⟨g', hv.1, hB⟩
            obtain ⟨rfl, hgl5⟩ := hgl
            obtain ⟨vs0, hr0, hf0, hset⟩ := HO7.out.set (i := i) ⟨T, k, q, d⟩ (by rw [List.length_map, HL.out]; exact hiL)
            have HSET := hid_in hset
            clear hat7 HB6 HFL6 HO6 HFO5 q2 q6 hset
            have t0 := HR7.out.cell 0
            have t1 := HR7.out.cell 1
            have t2 := HR7.out.cell 2
            have t3 := HR7.out.cell 3
            have HV0 := hid_in hr0
            have hgn : w.heap.size < gl := Nat.lt_of_lt_of_le HR5.out.lt hgl5
            clear hr0
            go_upto_region 26 with fail
            go_upto_region 27 with (refine Nd.wpList_store_Row rfl 42 _ _ rfl gl (i * 4) [.string T, .int .i64 k, .bool q, .string d] rfl rfl 42 vs0 HV0.out 4 info36 rfl hf0 (store36 T k q d).out ?_; intro w8 hr8 hg8 hs8; have HO8 := hid_in (HSET.out w8 hr8); have HB8 := hid_in (HB7.out.grown hg8 HB7.out.size (fun j e => by obtain rfl := Option.some.inj e; omega)); clear hr8 hg8 hs8)
            have z2 := (HROW.out.below HB8.out HROW.out.lt).frozen 2
            have y2 := (HROW.out.below HB8.out HROW.out.lt).cell 2
            have HFIN : Hid ((putO es p k q d).map Ent.fil = (es.map Ent.fil).set i ⟨T, k, q, d⟩) := hid_in (by
              rw [put_old HE.out (by rw [HNM.out]; exact HAE.out), putA_set HT.out.nd HEO.out.1 (HEO.out.2.trans HNM.out.symm), List.map_set]
              unfold Ent.fil
              simp only [HNM.out, HTT.out])
            have HFW : Hid (FO w8 w.heap.size (.slice (some ⟨gl, 0, none⟩) L cap7) ((putO es p k q d).map Ent.fil)) := hid_in (by rw [HFIN.out]; exact HO8.out.mono HB5.out.size)
            have HRP := hid_in (RU.put HROW.out HB8.out HFW.out)
            go_wp2
            go_ret
            exact ⟨by rw [HE.out]; rfl, HRP.out.1, HRP.out.2⟩
    · have hpos : 0 < nl := by
        have h9 := hnlp
        simp at h9
        omega
      obtain ⟨m, HM⟩ : ∃ m, Hid (nl = m + 1) := ⟨nl - 1, hid_in (by omega)⟩
      have hgt : (1 : Int) < (nl : Int) := by omega
      have hsub : (nl : Int) - 1 = (m : Int) := by have := HM.out; omega
      have hv2 := Vp.Nms.val HN2.out
      have hcv : m ≤ cv := by
        obtain ⟨p', c', e', h1, _⟩ := hv2
        simp only [Value.slice.injEq] at e'
        have := HM.out
        have := HNL.out
        obtain ⟨_, _, rfl⟩ := e'
        omega
      have hsl := fun W => slice23_to pv nl cv m hcv W
      have hvd : Val w2 (.slice pv m cv) n.dropLast := by
        have h1 := val_take (p := pv) (xs := n) (c := cv) (w := w2) (by rw [HNL.out]; exact hv2) m (by have := HM.out; have := HNL.out; omega)
        rw [List.dropLast_eq_take, HNL.out, HM.out]
        exact h1
      have HGD := hid_in (rget_any (HRU.out.below HB2.out) HGL.out HT.out.nd hvd (by have := HGN.out.dropLast.lens; omega))
      clear hv2 hvd hcv
      cases hat : entAt es n.dropLast with
      | none =>
        have HE : Hid (putEA es p k q d = 4) := hid_in (by
          have hd4 : dirA es n.dropLast = 4 := by
            unfold dirA
            rw [if_neg (by intro e; have h1 := congrArg List.length e; have := HM.out; have := HNL.out; simp at h1; omega), hat]
          rw [putEA_place HER.out HNE.out HFO.out, HNM.out, place_dir (by rw [hd4]; decide), hd4])
        rw [hat] at HGD
        clear hat
        go_wp2_with (first | (go_at_call 47; refine HGD.out.mono ?_; rintro e w3 ⟨rfl, hb3⟩; have HB3 := hid_in (HB2.out.trans (hb3.mono HB2.out.size)); clear hb3) | (refine Nd.wpList_store_new rfl rfl 42 4 _ _ rfl _ [Value.string ⟨#[]⟩, .int .i64 0, .bool false, .string ⟨#[]⟩] info36 rfl (hid_in rfl) (store36 _ _ _ _) rfl rfl ?_; intro w4 hr4 hb4 hs4; have HB4 := hid_in (HB3.out.trans (hb4.mono HB3.out.size)); clear hr4 hb4 hs4))
        go_ret
        exact PutP.no HE.out (by decide) HRU.out HB4.out
      | some e0 =>
        have hdne : n.dropLast ≠ [] := by intro e; have h1 := congrArg List.length e; have := HM.out; have := HNL.out; simp at h1; omega
        have HDD : Hid (dirA es n.dropLast = if e0.kind = 2 then 0 else 70) := hid_in (by unfold dirA; rw [if_neg hdne, hat])
        rw [hat] at HGD
        clear hat hdne
        obtain ⟨ek, HEK⟩ : ∃ ek, Hid (e0.kind = ek) := ⟨_, hid_in rfl⟩
        rw [HEK.out] at HDD
        unfold inoA Ent.ino at HGD
        simp only [Option.isSome_some, HEK.out] at HGD
        by_cases hek : ek = 2
        · subst hek
          rw [if_pos rfl] at HDD
          have HDI := HDD
          clear HDD
          go_upto_region 18 with (first | (go_at_call 47; refine HGD.out.mono ?_; rintro e w3 ⟨rfl, hb3⟩; have HX3 := hid_in hb3; have HB3 := hid_in (HB2.out.trans (hb3.mono HB2.out.size)); clear hb3) | (refine Nd.wpList_store_new rfl rfl 42 4 _ _ rfl _ [Value.string (B (showS e0.names)), .int .i64 2, .bool e0.opq, .string e0.data] info36 rfl (hid_in rfl) (store36 _ _ _ _) rfl rfl ?_; intro w4 hr4 hb4 hs4; have HX4 := hid_in (HX3.out.trans (hb4.mono HX3.out.size)); have HB4 := hid_in (HB3.out.trans (hb4.mono HB3.out.size)); have c1 := hr4.cell 1; clear hr4 hb4 hs4))
          obtain ⟨wx, HWX⟩ : ∃ wx, Hid (w4 = wx) := ⟨_, hid_in rfl⟩
          have HBX := HB4
          have HRX := hid_in (HR2.out.below HX4.out HR2.out.lt)
          have HNX := hid_in (Nd.own_belowK HN2.out HX4.out)
          rw [HWX.out] at HBX HRX HNX
          refine wp_world HWX.out ?_
          clear HB2 HR2 HN2 HWX HX3 HX4 HB3 HB4 b1 b3 c1 HGD hsl hsub
          have HRU18 := hid_in (HRU.out.below HBX.out)
          have HVX : Hid (Val wx (.slice pv nl cv) n) := hid_in (Vp.Nms.val HNX.out)
          have HHA := hid_in (rbelow_any HRU18.out HGL.out HLN.out HVX.out)
          obtain ⟨bn, HBN⟩ : ∃ bn, Hid ((es.filter (belowE n)).length = bn) := ⟨_, hid_in rfl⟩
          have HHS : Hid (hasA es n = decide (0 < bn)) := hid_in (by unfold hasA; rw [HBN.out])
          have b1 := HRX.out.cell 1
          go_cut [80] from 71 to 80 (fun v W => v = .bool (decide (k ≠ 2 ∧ 0 < bn)) ∧ Hid (Below wx.heap.size wx W))
          case first =>
            by_cases hk2 : k = 2
            · subst hk2
              go_wp2_with fail
              go_meet
              exact ⟨by simp, Below.refl _ _⟩
            · have hkb : (k != 2) = true := by simp [hk2]
              have hkc : (k == 2) = false := by simp [hk2]
              have HK2 := hid_in hk2
              clear hk2
              go_wp2_with (go_at_call 48; refine HHA.out.mono ?_; rintro e w2 ⟨v2, rfl, ho2, hb2⟩; have HB2 := hid_in hb2; obtain ⟨p2, c2, rfl⟩ := ho2.fls.form; rw [List.length_map, HBN.out]; clear ho2 hb2)
              go_meet
              refine ⟨?_, HB2.out⟩
              have := HK2.out
              simp [this]
          case rest =>
            obtain ⟨rfl, hbc⟩ := hcut
            have HBC := hid_in (HBX.out.trans (hbc.out.mono HBX.out.size))
            have HRC := hid_in (HRX.out.below hbc.out HRX.out.lt)
            have HNC := hid_in (Nd.own_belowK HNX.out hbc.out)
            clear hbc HHA b1 HBX HRX HNX HVX HRU18
            by_cases hbad : k ≠ 2 ∧ 0 < bn
            · rw [decide_eq_true hbad]
              have HE : Hid (putEA es p k q d = 130) := hid_in (by rw [putEA_place HER.out HNE.out HFO.out, HNM.out]; exact place_has HT.out (by rw [← HNM.out]; exact HNE.out) HDI.out hbad.1 (by rw [HHS.out]; exact decide_eq_true hbad.2))
              clear hbad
              go_wp2_with fail
              go_ret
              exact PutP.no HE.out (by decide) HRU.out HBC.out
            · rw [decide_eq_false hbad]
              have HOK : Hid (k = 2 ∨ hasA es n = false) := hid_in (by
                rw [HHS.out]
                by_cases hk : k = 2
                · exact .inl hk
                · exact .inr (decide_eq_false (fun h => hbad ⟨hk, h⟩)))
              have HSH := hid_in (Vp.rshow_v (Vp.Nms.val HNC.out) (by have := HGN.out.lens; omega))
              obtain ⟨T, HTT⟩ : ∃ T, Hid (B (showS n) = T) := ⟨_, hid_in rfl⟩
              rw [HTT.out] at HSH
              clear hbad HHS HBN
              go_upto_region 21 with (go_at_call 49; refine HSH.out.mono ?_; rintro e w3 ⟨rfl, hd3⟩; have HX3 : Hid (Below wc.heap.size wc w3) := hid_in (by obtain ⟨m, hm⟩ := hd3; rw [hm]; exact below_drewN (Below.refl _ _) m); have HB3 := hid_in (HBC.out.trans (HX3.out.mono HBC.out.size)); have HR3 := hid_in (HRC.out.below HX3.out HRC.out.lt); have HN3 := hid_in (Nd.own_belowK HNC.out HX3.out); have y0 := HR3.out.frozen 0; have x0 := HR3.out.cell 0; clear hd3)
              obtain ⟨w4, HW4⟩ : ∃ w4, Hid (w3.setCell ⟨w.heap.size, 0, none⟩ (.string T) = w4) := ⟨_, hid_in rfl⟩
              have HR4 : Hid (Row w4 w.heap.size [.string T, .int .i64 k, .bool q, .string d] 42) := hid_in (by rw [← HW4.out]; exact HR3.out.set_same 0 _)
              have HB4 : Hid (Below w.heap.size w w4) := hid_in (by rw [← HW4.out]; exact (set_below HB3.out (Nat.le_refl _) HB3.out.size _).1)
              have HN4 : Hid (Vp.Nms w4 W0.heap.size (.slice pv nl cv) n) := hid_in (by rw [← HW4.out]; exact nms_grown HN3.out (grownBy_setCell _ _ _) HS0.out)
              refine wp_world HW4.out ?_
              clear HW4 HR3 HB3 HN3 HX3 HSH HBC HRC HNC y0 x0
              have HPL := hid_in (rplace_any (HRU.out.below HB4.out) HGL.out (Vp.Nms.val HN4.out) (by have := HGN.out.lens; omega))
              go_upto_region 22 with (go_at_call 50; refine HPL.out.mono ?_; rintro e w5 ⟨at5, rfl, hat5, hb5⟩; have HAT5 := hid_in hat5; have HB5 := hid_in (HB4.out.trans (hb5.mono HB4.out.size)); have HR5 := hid_in (HR4.out.below hb5 HR4.out.lt); have HN5 := hid_in (Nd.own_belowK HN4.out hb5); clear hat5 hb5)
              clear HPL HB4 HR4 HN4
              have q2 : w5.cell? ⟨r, 2, none⟩ = some (.slice p0 L cap0) := (HROW.out.below HB5.out HROW.out.lt).cell 2
              have HFO5 : Hid (FO w5 0 (.slice p0 L cap0) (es.map Ent.fil)) := hid_in (HFOW.out.below HB5.out)
              have HB6 : Hid (Below w5.heap.size w5 (w5.alloc (.cells #[] 42))) := hid_in ((Below.refl _ _).alloc (Nat.le_refl _) _)
              have q6 : (w5.alloc (.cells #[] 42)).cell? ⟨r, 2, none⟩ = some (.slice p0 L cap0) := (HROW.out.below (HB5.out.trans (HB6.out.mono HB5.out.size)) HROW.out.lt).cell 2
              have HFL6 := hid_in ((HFO5.out.below HB6.out).fls)
              have HO6 := hid_in (own36 w5)
              have HLX : Hid ((es.map Ent.fil).length ≤ 1024) := hid_in (by rw [List.length_map]; exact HT.out.len)
              rcases HAT5.out with ⟨rfl, hnone⟩ | ⟨i, eo, rfl, heo, hen⟩
              · have HNO := hid_in hnone
                clear hnone HAT5
                by_cases hmany : 1024 ≤ L
                · have hm2 : (1024 : Int) ≤ (L : Int) := by omega
                  have HE : Hid (putEA es p k q d = 8) := hid_in (by rw [putEA_place HER.out HNE.out HFO.out, HNM.out, place_new HDI.out HNO.out, if_pos (by rw [HL.out]; exact hmany)])
                  go_wp2_with fail
                  go_ret
                  exact PutP.no HE.out (by decide) HRU.out HB5.out
                · have hm2 : ¬ (1024 : Int) ≤ (L : Int) := by omega
                  have HE : Hid (putEA es p k q d = 0) := hid_in (by rw [putEA_place HER.out HNE.out HFO.out, HNM.out, place_new HDI.out HNO.out, if_neg (by rw [HL.out]; exact hmany)])
                  go_upto_region 25 with (at_builtin; refine wpList_app81 w5.heap.size rfl _ _ rfl _ [] (es.map Ent.fil) rfl HO6.out _ rfl HFL6.out (by have := HLX.out; simp only [List.length_nil]; omega) HB6.out.size ?_; intro v7 w7 ho7 hg7; rw [List.nil_append] at ho7; have HO7 := hid_in ho7; have HX7 := hid_in (HO6.out.step HB6.out HB6.out.size hg7); clear ho7 hg7)
                  obtain ⟨p7, cap7, b7, o7, rfl, hc71, hc72, hat7⟩ := fo_at HO7.out
                  rw [HL.out] at HO7 hc71 ⊢
                  have HA7 := hid_in hat7
                  have HB7 := hid_in (HB5.out.trans (HX7.out.mono HB5.out.size))
                  have HR7 := hid_in (HR5.out.below HX7.out HR5.out.lt)
                  have HN7 := hid_in (Nd.own_belowK HN5.out HX7.out)
                  clear hat7 HB6 HFL6 HO6 HFO5 q2 q6 hmany hm2
                  go_wp2_with fail
                  go_loopw [9] (fun vi W => ∃ j : Nat, j ≤ L ∧ vi = .int .i64 (j : Int) ∧ Hid ((∀ (i : Nat) g, i < j → es[i]? = some g → cmpL g.names n < 0) ∧ Below w7.heap.size w7 W)) (fun vi _ => L - (intOf vi).toNat)
                  case atStart => exact ⟨0, by omega, rfl, (fun i g h => by omega), Below.refl _ _⟩
                  case round =>
                    obtain ⟨j, hj, rfl, hjj⟩ := hrel
                    have HJ := hid_in hjj.out.1
                    have HBR := hid_in hjj.out.2
                    have HJL := hid_in hj
                    clear hjj
                    by_cases hlt : j < L
                    · have hlt2 : (j : Int) < (L : Int) := by omega
                      obtain ⟨g, hg⟩ : ∃ g, es[j]? = some g := ⟨_, List.getElem?_eq_getElem (by rw [HL.out]; exact hlt)⟩
                      obtain ⟨rfl, c0⟩ := HA7.out _ HBR.out j g hg
                      have HG := hid_in hg
                      have HNG := hid_in (fun W => names_e (HGL.out g (List.mem_of_getElem? hg)).1 W)
                      have HNR := hid_in (Vp.Nms.val (Nd.own_belowK HN7.out HBR.out))
                      obtain ⟨c, Hc⟩ : ∃ c, Hid (cmpL g.names n = c) := ⟨_, hid_in rfl⟩
                      clear hg hj
                      by_cases hcc : c < 0
                      · go_wp2_with (first | (go_at_call 45; refine (HNG.out _).mono ?_; rintro x x1 ⟨px, kx, rfl, hv1, hb1⟩; have HV1 := hid_in hv1; have HBR1 := hid_in (HBR.out.trans (hb1.mono HBR.out.size)); have HNR1 := hid_in (HNR.out.below hb1); clear hv1 hb1) | (go_at_call 51; refine (Vp.rcompare_v HV1.out HNR1.out).mono ?_; rintro x x2 ⟨rfl, hd2⟩; rw [Hc.out]; have HBR2 : Hid (Below w7.heap.size w7 x2) := hid_in (by obtain ⟨m, hm⟩ := hd2; rw [hm]; exact below_drewN HBR1.out m); clear hd2))
                        refine ⟨⟨j + 1, by omega, by go_num, (fun i x hi hx => ?_), HBR2.out⟩, by simp [intOf]; omega⟩
                        rcases (show i < j ∨ i = j by omega) with hi | rfl
                        · exact HJ.out i x hi hx
                        · obtain rfl : g = x := Option.some.inj (HG.out.symm.trans hx)
                          rw [Hc.out]
                          exact hcc
                      · have HIN : Hid (insE es ⟨nmsOf p, k, q, d⟩ = es.take j ++ [⟨nmsOf p, k, q, d⟩] ++ es.drop j) := hid_in (insE_at es ⟨nmsOf p, k, q, d⟩ j (by rw [HL.out]; exact HJL.out) (fun i x hi hx => by rw [HNM.out]; exact HJ.out i x hi hx) (fun x hx => by obtain rfl : g = x := Option.some.inj (HG.out.symm.trans hx); simp only; rw [HNM.out, Hc.out]; exact hcc))
                        have hgt := hid_in hlt2
                        go_upto_region 32 with (first | (go_at_call 45; refine (HNG.out _).mono ?_; rintro x x1 ⟨px, kx, rfl, hv1, hb1⟩; have HV1 := hid_in hv1; have HBR1 := hid_in (HBR.out.trans (hb1.mono HBR.out.size)); have HNR1 := hid_in (HNR.out.below hb1); clear hv1 hb1) | (go_at_call 51; refine (Vp.rcompare_v HV1.out HNR1.out).mono ?_; rintro x w8 ⟨rfl, hd2⟩; rw [Hc.out]; have HBR2 : Hid (Below w7.heap.size w7 w8) := hid_in (by obtain ⟨m, hm⟩ := hd2; rw [hm]; exact below_drewN HBR1.out m); clear hd2))
                        clear c0
                        have HBW8 := hid_in (HB7.out.trans (HBR2.out.mono HB7.out.size))
                        have HO8 := hid_in (HO7.out.below HBR2.out)
                        have HFL8 := hid_in HO8.out.fls
                        have HRB8 := hid_in (HR7.out.below HBR2.out HR7.out.lt)
                        have HB9 : Hid (Below w8.heap.size w8 (w8.alloc (.cells #[] 42))) := hid_in ((Below.refl _ _).alloc (Nat.le_refl _) _)
                        have HF9 := hid_in ((HFL8.out.below HB9.out).first j (by rw [List.length_map, HL.out]; exact HJL.out))
                        have HO9 := hid_in (own36 w8)
                        have hs1 := fun W => slice40_to (some ⟨b7, o7, none⟩) L cap7 j (by have := HJL.out; omega) W
                        obtain ⟨q9, hs2, hq9⟩ := HFL8.out.rest j (by rw [List.length_map, HL.out]; exact HJL.out)
                        rw [List.length_map, HL.out] at hs2 hq9
                        have HQ9 := hid_in hq9
                        have hjL : (j : Int) ≤ (L : Int) := by have := HJL.out; omega
                        clear hq9
                        go_upto_region 33 with (at_builtin; refine wpList_app81 w8.heap.size rfl _ _ rfl _ [] ((es.map Ent.fil).take j) rfl HO9.out _ rfl HF9.out.2.2 (by have := HLX.out; simp only [List.length_nil, List.length_take]; omega) HB9.out.size ?_; intro v10 w10 ho10 hg10; rw [List.nil_append] at ho10; have HX10 := hid_in (HO9.out.step HB9.out HB9.out.size hg10); have HO10 := hid_in ho10; clear ho10 hg10)
                        have HR10 := hid_in (HRB8.out.below HX10.out HRB8.out.lt)
                        have e0 := HR10.out.cell 0
                        have e1 := HR10.out.cell 1
                        have e2 := HR10.out.cell 2
                        have e3 := HR10.out.cell 3
                        have HB11 : Hid (Below w10.heap.size w10 (w10.alloc (.cells #[.string T, .int .i64 k, .bool q, .string d] 42))) := hid_in ((Below.refl _ _).alloc (Nat.le_refl _) _)
                        have HX11 := hid_in (HX10.out.trans (HB11.out.mono HX10.out.size))
                        have HO11 := hid_in (HO10.out.below HB11.out)
                        have HF11 := hid_in (fls_one w10 ⟨T, k, q, d⟩)
                        go_upto_region 34 with (at_builtin; refine wpList_app81 w8.heap.size rfl (.tmp 135) (.tmp 137) rfl v10 ((es.map Ent.fil).take j) [⟨T, k, q, d⟩] rfl HO11.out _ rfl HF11.out (by have := HLX.out; simp only [List.length_cons, List.length_nil, List.length_take]; omega) HX11.out.size ?_; intro v12 w12 ho12 hg12; have HX12 := hid_in (HO11.out.step HX11.out HX11.out.size hg12); have HO12 := hid_in ho12; clear ho12 hg12)
                        clear e0 e1 e2 e3
                        have HF12 := hid_in (HQ9.out.below HX12.out)
                        have HFIN : Hid ((putO es p k q d).map Ent.fil = (es.map Ent.fil).take j ++ [⟨T, k, q, d⟩] ++ (es.map Ent.fil).drop j) := hid_in (by
                          rw [put_new HE.out (by rw [HNM.out]; exact HNO.out), HIN.out]
                          simp only [List.map_append, List.map_take, List.map_drop, List.map_cons, List.map_nil]
                          congr 2
                          unfold Ent.fil
                          simp only [HNM.out, HTT.out])
                        go_wp2_with (at_builtin; refine wpList_app81 w8.heap.size rfl (.tmp 140) (.tmp 143) rfl v12 ((es.map Ent.fil).take j ++ [⟨T, k, q, d⟩]) ((es.map Ent.fil).drop j) rfl HO12.out (.slice q9 (L - j) (cap7 - j)) rfl HF12.out (by have := HLX.out; simp only [List.length_append, List.length_cons, List.length_nil, List.length_take, List.length_drop]; omega) HX12.out.size ?_; intro v14 w14 ho14 hg14; have HX14 := hid_in (HO12.out.step HX12.out HX12.out.size hg14); have HB14 := hid_in (HBW8.out.trans (HX14.out.mono HBW8.out.size)); have hfw : FO w14 w.heap.size v14 ((putO es p k q d).map Ent.fil) := (by rw [HFIN.out]; exact ho14.mono HBW8.out.size); obtain ⟨p14, n14, c14, rfl⟩ := fo_shape ho14; have HRP := hid_in (RU.put HROW.out HB14.out hfw); have z2 := (HROW.out.below HB14.out HROW.out.lt).frozen 2; have y2 := (HROW.out.below HB14.out HROW.out.lt).cell 2; clear ho14 hg14 hfw)
                        go_ret
                        exact ⟨by rw [HE.out]; rfl, HRP.out.1, HRP.out.2⟩
                    · have hlt2 : ¬ (j : Int) < (L : Int) := by omega
                      have HIN : Hid (insE es ⟨nmsOf p, k, q, d⟩ = es.take j ++ [⟨nmsOf p, k, q, d⟩] ++ es.drop j) := hid_in (insE_at es ⟨nmsOf p, k, q, d⟩ j (by rw [HL.out]; exact HJL.out) (fun i x hi hx => by rw [HNM.out]; exact HJ.out i x hi hx) (fun x hx => by have h1 := (List.getElem?_eq_some_iff.1 hx).1; have := HL.out; omega))
                      clear hj
                      go_upto_region 32 with fail
                      obtain ⟨w8, HW8⟩ : ∃ w8, Hid (wr = w8) := ⟨_, hid_in rfl⟩
                      have HBR2 := HBR
                      rw [HW8.out] at HBR2
                      refine wp_world HW8.out ?_
                      have HBW8 := hid_in (HB7.out.trans (HBR2.out.mono HB7.out.size))
                      have HO8 := hid_in (HO7.out.below HBR2.out)
                      have HFL8 := hid_in HO8.out.fls
                      have HRB8 := hid_in (HR7.out.below HBR2.out HR7.out.lt)
                      have HB9 : Hid (Below w8.heap.size w8 (w8.alloc (.cells #[] 42))) := hid_in ((Below.refl _ _).alloc (Nat.le_refl _) _)
                      have HF9 := hid_in ((HFL8.out.below HB9.out).first j (by rw [List.length_map, HL.out]; exact HJL.out))
                      have HO9 := hid_in (own36 w8)
                      have hs1 := fun W => slice40_to p7 L cap7 j (by have := HJL.out; omega) W
                      obtain ⟨q9, hs2, hq9⟩ := HFL8.out.rest j (by rw [List.length_map, HL.out]; exact HJL.out)
                      rw [List.length_map, HL.out] at hs2 hq9
                      have HQ9 := hid_in hq9
                      have hjL : (j : Int) ≤ (L : Int) := by have := HJL.out; omega
                      clear hq9
                      go_upto_region 33 with (at_builtin; refine wpList_app81 w8.heap.size rfl _ _ rfl _ [] ((es.map Ent.fil).take j) rfl HO9.out _ rfl HF9.out.2.2 (by have := HLX.out; simp only [List.length_nil, List.length_take]; omega) HB9.out.size ?_; intro v10 w10 ho10 hg10; rw [List.nil_append] at ho10; have HX10 := hid_in (HO9.out.step HB9.out HB9.out.size hg10); have HO10 := hid_in ho10; clear ho10 hg10)
                      have HR10 := hid_in (HRB8.out.below HX10.out HRB8.out.lt)
                      have e0 := HR10.out.cell 0
                      have e1 := HR10.out.cell 1
                      have e2 := HR10.out.cell 2
                      have e3 := HR10.out.cell 3
                      have HB11 : Hid (Below w10.heap.size w10 (w10.alloc (.cells #[.string T, .int .i64 k, .bool q, .string d] 42))) := hid_in ((Below.refl _ _).alloc (Nat.le_refl _) _)
                      have HX11 := hid_in (HX10.out.trans (HB11.out.mono HX10.out.size))
                      have HO11 := hid_in (HO10.out.below HB11.out)
                      have HF11 := hid_in (fls_one w10 ⟨T, k, q, d⟩)
                      go_upto_region 34 with (at_builtin; refine wpList_app81 w8.heap.size rfl (.tmp 135) (.tmp 137) rfl v10 ((es.map Ent.fil).take j) [⟨T, k, q, d⟩] rfl HO11.out _ rfl HF11.out (by have := HLX.out; simp only [List.length_cons, List.length_nil, List.length_take]; omega) HX11.out.size ?_; intro v12 w12 ho12 hg12; have HX12 := hid_in (HO11.out.step HX11.out HX11.out.size hg12); have HO12 := hid_in ho12; clear ho12 hg12)
                      clear e0 e1 e2 e3
                      have HF12 := hid_in (HQ9.out.below HX12.out)
                      have HFIN : Hid ((putO es p k q d).map Ent.fil = (es.map Ent.fil).take j ++ [⟨T, k, q, d⟩] ++ (es.map Ent.fil).drop j) := hid_in (by
                        rw [put_new HE.out (by rw [HNM.out]; exact HNO.out), HIN.out]
                        simp only [List.map_append, List.map_take, List.map_drop, List.map_cons, List.map_nil]
                        congr 2
                        unfold Ent.fil
                        simp only [HNM.out, HTT.out])
                      go_wp2_with (at_builtin; refine wpList_app81 w8.heap.size rfl (.tmp 140) (.tmp 143) rfl v12 ((es.map Ent.fil).take j ++ [⟨T, k, q, d⟩]) ((es.map Ent.fil).drop j) rfl HO12.out (.slice q9 (L - j) (cap7 - j)) rfl HF12.out (by have := HLX.out; simp only [List.length_append, List.length_cons, List.length_nil, List.length_take, List.length_drop]; omega) HX12.out.size ?_; intro v14 w14 ho14 hg14; have HX14 := hid_in (HO12.out.step HX12.out HX12.out.size hg14); have HB14 := hid_in (HBW8.out.trans (HX14.out.mono HBW8.out.size)); have hfw : FO w14 w.heap.size v14 ((putO es p k q d).map Ent.fil) := (by rw [HFIN.out]; exact ho14.mono HBW8.out.size); obtain ⟨p14, n14, c14, rfl⟩ := fo_shape ho14; have HRP := hid_in (RU.put HROW.out HB14.out hfw); have z2 := (HROW.out.below HB14.out HROW.out.lt).frozen 2; have y2 := (HROW.out.below HB14.out HROW.out.lt).cell 2; clear ho14 hg14 hfw)
                      go_ret
                      exact ⟨by rw [HE.out]; rfl, HRP.out.1, HRP.out.2⟩
              · have HEO := hid_in (And.intro heo hen)
                have hiL : i < L := by rw [← HL.out]; exact (List.getElem?_eq_some_iff.1 heo).1
                have HAE : Hid (entAt es n = some eo) := hid_in (by rw [← hen]; exact at_mem HT.out.nd (List.mem_of_getElem? heo))
                have HE : Hid (putEA es p k q d = 0) := hid_in (by rw [putEA_place HER.out HNE.out HFO.out, HNM.out]; exact place_old HDI.out HOK.out HAE.out)
                have hi0 : ¬ (i : Int) < 0 := by omega
                have hi1 : (0 : Int) ≤ (i : Int) := by omega
                clear heo hen HAT5
                go_upto_region 25 with (at_builtin; refine wpList_app81 w5.heap.size rfl _ _ rfl _ [] (es.map Ent.fil) rfl HO6.out _ rfl HFL6.out (by have := HLX.out; simp only [List.length_nil]; omega) HB6.out.size ?_; intro v7 w7 ho7 hg7; rw [List.nil_append] at ho7; have HO7 := hid_in ho7; have HX7 := hid_in (HO6.out.step HB6.out HB6.out.size hg7); clear ho7 hg7)
                obtain ⟨p7, cap7, b7, o7, rfl, hc71, hc72, hat7⟩ := fo_at HO7.out
                rw [HL.out] at HO7 hc71 ⊢
                have HB7 := hid_in (HB5.out.trans (HX7.out.mono HB5.out.size))
                have HR7 := hid_in (HR5.out.below HX7.out HR5.out.lt)
                have hiI : (i : Int) < (L : Int) := by omega
                obtain ⟨gl, hgl⟩ : ∃ gl, p7 = some ⟨gl, 0, none⟩ ∧ w5.heap.size ≤ gl := by
                  obtain ⟨_, ⟨h2, h3⟩ | ⟨g', cap', cur, hv, hB, _⟩⟩ := HO7.out
                  · rw [List.length_map, HL.out] at h3
                    omega
                  · simp only [Value.slice.injEq] at hv
                    exact ⟨g', hv.1, hB⟩
                obtain ⟨rfl, hgl5⟩ := hgl
                obtain ⟨vs0, hr0, hf0, hset⟩ := HO7.out.set (i := i) ⟨T, k, q, d⟩ (by rw [List.length_map, HL.out]; exact hiL)
                have HSET := hid_in hset
                clear hat7 HB6 HFL6 HO6 HFO5 q2 q6 hset
                have t0 := HR7.out.cell 0
                have t1 := HR7.out.cell 1
                have t2 := HR7.out.cell 2
                have t3 := HR7.out.cell 3
                have HV0 := hid_in hr0
                have hgn : w.heap.size < gl := Nat.lt_of_lt_of_le HR5.out.lt hgl5
                clear hr0
                go_upto_region 26 with fail
                go_upto_region 27 with (refine Nd.wpList_store_Row rfl 42 _ _ rfl gl (i * 4) [.string T, .int .i64 k, .bool q, .string d] rfl rfl 42 vs0 HV0.out 4 info36 rfl hf0 (store36 T k q d).out ?_; intro w8 hr8 hg8 hs8; have HO8 := hid_in (HSET.out w8 hr8); have HB8 := hid_in (HB7.out.grown hg8 HB7.out.size (fun j e => by obtain rfl := Option.some.inj e; omega)); clear hr8 hg8 hs8)
                have z2 := (HROW.out.below HB8.out HROW.out.lt).frozen 2
                have y2 := (HROW.out.below HB8.out HROW.out.lt).cell 2
                have HFIN : Hid ((putO es p k q d).map Ent.fil = (es.map Ent.fil).set i ⟨T, k, q, d⟩) := hid_in (by
                  rw [put_old HE.out (by rw [HNM.out]; exact HAE.out), putA_set HT.out.nd HEO.out.1 (HEO.out.2.trans HNM.out.symm), List.map_set]
                  unfold Ent.fil
                  simp only [HNM.out, HTT.out])
                have HFW : Hid (FO w8 w.heap.size (.slice (some ⟨gl, 0, none⟩) L cap7) ((putO es p k q d).map Ent.fil)) := hid_in (by rw [HFIN.out]; exact HO8.out.mono HB5.out.size)
                have HRP := hid_in (RU.put HROW.out HB8.out HFW.out)
                go_wp2
                go_ret
                exact ⟨by rw [HE.out]; rfl, HRP.out.1, HRP.out.2⟩
        · have hek1 : (ek != 2) = true := by simp [hek]
          have hek2 : (ek == 2) = false := by simp [hek]
          have HE : Hid (putEA es p k q d = 70) := hid_in (by
            rw [if_neg hek] at HDD
            rw [putEA_place HER.out HNE.out HFO.out, HNM.out, place_dir (by rw [HDD.out]; decide), HDD.out])
          clear hek HDD
          go_wp2_with (first | (go_at_call 47; refine HGD.out.mono ?_; rintro e w3 ⟨rfl, hb3⟩; have HX3 := hid_in hb3; have HB3 := hid_in (HB2.out.trans (hb3.mono HB2.out.size)); clear hb3) | (refine Nd.wpList_store_new rfl rfl 42 4 _ _ rfl _ [Value.string (B (showS e0.names)), .int .i64 ek, .bool e0.opq, .string e0.data] info36 rfl (hid_in rfl) (store36 _ _ _ _) rfl rfl ?_; intro w4 hr4 hb4 hs4; have HB4 := hid_in (HB3.out.trans (hb4.mono HB3.out.size)); have c1 := hr4.cell 1; clear hr4 hb4 hs4))
          go_ret
          exact PutP.no HE.out (by decide) HRU.out HB4.out
end Go.Proofs.YtglfeocfhlmloaaGreat.Up
