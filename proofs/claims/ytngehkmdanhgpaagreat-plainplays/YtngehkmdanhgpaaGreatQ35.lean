/-
  The reference's remove: unlink and rmdir.
-/
import Derived.Laws.CopyOwn
import Derived.Deep.RegionLaw
import Derived.Deep.DrawnRows
import Derived.Deep.CutRange
import Derived.Lib.SlBytesConst
import Derived.Lib.AppendZeros
import Derived.Laws.Tables
import Derived.Test.YtngehkmdanhgpaaGreatQ00
import Derived.Test.YtngehkmdanhgpaaGreatQ01
import Derived.Test.YtngehkmdanhgpaaGreatQ02
import Derived.Test.YtngehkmdanhgpaaGreatQ03
import Derived.Test.YtngehkmdanhgpaaGreatQ04
import Derived.Test.YtngehkmdanhgpaaGreatQ05
import Derived.Test.YtngehkmdanhgpaaGreatQ06
import Derived.Test.YtngehkmdanhgpaaGreatQ07
import Derived.Test.YtngehkmdanhgpaaGreatQ08
import Derived.Test.YtngehkmdanhgpaaGreatQ09
import Derived.Test.YtngehkmdanhgpaaGreatQ10
import Derived.Test.YtngehkmdanhgpaaGreatQ11
import Derived.Test.YtngehkmdanhgpaaGreatQ12
import Derived.Test.YtngehkmdanhgpaaGreatQ13
import Derived.Test.YtngehkmdanhgpaaGreatQ14
import Derived.Test.YtngehkmdanhgpaaGreatQ15
import Derived.Test.YtngehkmdanhgpaaGreatQ16
import Derived.Test.YtngehkmdanhgpaaGreatQ17
import Derived.Test.YtngehkmdanhgpaaGreatQ18
import Derived.Test.YtngehkmdanhgpaaGreatQ19
import Derived.Test.YtngehkmdanhgpaaGreatQ20
import Derived.Test.YtngehkmdanhgpaaGreatQ21
import Derived.Test.YtngehkmdanhgpaaGreatQ22
import Derived.Test.YtngehkmdanhgpaaGreatQ23
import Derived.Test.YtngehkmdanhgpaaGreatQ24
import Derived.Test.YtngehkmdanhgpaaGreatQ25
import Derived.Test.YtngehkmdanhgpaaGreatQ26
import Derived.Test.YtngehkmdanhgpaaGreatQ27
import Derived.Test.YtngehkmdanhgpaaGreatQ28
import Derived.Test.YtngehkmdanhgpaaGreatQ29
import Derived.Test.YtngehkmdanhgpaaGreatQ30
import Derived.Test.YtngehkmdanhgpaaGreatQ31
import Derived.Test.YtngehkmdanhgpaaGreatQ32
import Derived.Test.YtngehkmdanhgpaaGreatQ33
import Derived.Test.YtngehkmdanhgpaaGreatQ34
namespace Go.Proofs.YtngehkmdanhgpaaGreat.Pl
open Go.RowKit
open Vp (Str B bl Val cmpL parseS showS splitS withinS IsPath)
open Nd (Row wp_world post_Row post_Row2 grownBy_setCell below_of_grown)
open Rf (Fil Fls FO fcells)
/-- unlink's and rmdir's answers -/
def rmR (es : List Ent) (xs : List Str) (d : Bool) : Int :=
  if d = true ∧ xs.length = 0 then 132
  else if (lookR es xs).2 ≠ 0 then (lookR es xs).2
  else if (lookR es xs).1.dir = true ∧ d = false then 71
  else if (lookR es xs).1.dir = false ∧ d = true then 70
  else if 0 < (es.filter (belowE xs)).length then 130 else 0
theorem fo_grown {w w' : World} {B r : Nat} {v : Value} {fs : List Fil} (h : FO w B v fs) (hg : w.grownBy w' (some r)) (hr : r < B) : FO w' B v fs := by
  obtain ⟨h1, h2 | ⟨g, cap, cur, hv, hB, hh, rest⟩⟩ := h
  · exact ⟨h1, .inl h2⟩
  · refine ⟨h1, .inr ⟨g, cap, cur, hv, hB, ?_, rest⟩⟩
    rw [hg.block g (Array.getElem?_eq_some_iff.1 hh).1 (fun e => by have := Option.some.inj e; omega)]
    exact hh
theorem grown_bel {w W W' : World} {r : Nat} (hb : Below w.heap.size w W) (hg : W.grownBy W' (some r)) : w.grownBy W' (some r) :=
  ⟨hg.os.trans hb.os, hg.tape.trans hb.tape, hg.output.trans hb.output, Nat.le_trans hb.size hg.size, fun k hk hn => by rw [hg.block k (Nat.lt_of_lt_of_le hk hb.size) hn]; exact hb.block k hk⟩
/-- another list stands in the reference's file system -/
theorem RF.put {w W : World} {r : Nat} {es : List Ent} {v u : Value} (h : Row w r [u] 43) (hb : Below w.heap.size w W) (ho : FO W w.heap.size v (es.map Ent.fil)) : RF (W.setCell ⟨r, 0, none⟩ v) r es ∧ w.grownBy (W.setCell ⟨r, 0, none⟩ v) (some r) := by
  have hg := grownBy_setCell W ⟨r, 0, none⟩ v
  have hW := h.below hb h.lt
  exact ⟨⟨v, hW.set_same 0 v, Rf.FO.mono (fo_grown ho hg h.lt) (Nat.zero_le _)⟩, grown_bel hb hg⟩
/-- a result that is an error, or none, with what is there behind it -/
def RmP (w : World) (r : Nat) (es es' : List Ent) (c : Int) (e : Ending) (w' : World) : Prop := e = .returned (.agg #[.int .i64 c, .bool false, .int .i64 0, .string ⟨#[]⟩, .slice none 0 0]) ∧ RF w' r (if c = 0 then es' else es) ∧ w.grownBy w' (some r)
theorem RmP.no {w w' : World} {r : Nat} {es es' : List Ent} {c k : Int} (h : RF w r es) (hc : c = k) (hk : k ≠ 0) (hb : Below w.heap.size w w') : RmP w r es es' c (.returned (.agg #[.int .i64 k, .bool false, .int .i64 0, .string ⟨#[]⟩, .slice none 0 0])) w' := by
  subst hc
  refine ⟨rfl, ?_, below_but r hb⟩
  rw [if_neg hk]
  exact h.below hb
theorem RmP.yes {w w' : World} {r : Nat} {es es' : List Ent} {c : Int} (hc : c = 0) (h : RF w' r es') (hg : w.grownBy w' (some r)) : RmP w r es es' c (.returned (.agg #[.int .i64 0, .bool false, .int .i64 0, .string ⟨#[]⟩, .slice none 0 0])) w' := by
  subst hc
  exact ⟨rfl, by rw [if_pos rfl]; exact h, hg⟩
theorem fo_form {w : World} {B : Nat} {v : Value} {fs : List Fil} (h : FO w B v fs) : ∃ p l c, v = .slice p l c := by
  obtain ⟨p, c, e⟩ := h.fls.form
  exact ⟨p, _, c, e⟩
theorem RF.set {w : World} {r b : Nat} {es : List Ent} {vs : List Value} (h : RF w r es) (hr : Row w b vs 37) (j : Nat) (v : Value) : RF (w.setCell ⟨b, j, none⟩ v) r es := by
  have hg := grownBy_setCell w ⟨b, j, none⟩ v
  unfold Row at hr
  obtain ⟨u, h1, h2⟩ := h.ex
  refine ⟨u, ?_, ?_⟩
  · have hl := h1.lt
    unfold Row at h1 ⊢
    rw [hg.block r hl (fun e => by obtain rfl := Option.some.inj e; rw [h1] at hr; cases hr)]
    exact h1
  · obtain ⟨h0, ⟨rfl, h3⟩ | ⟨g, cap, cur, rfl, hB, hh, hn, hm, hs, ht⟩⟩ := h2
    · exact ⟨h0, .inl ⟨rfl, h3⟩⟩
    · exact ⟨h0, .inr ⟨g, cap, cur, rfl, hB, by rw [hg.block g (Array.getElem?_eq_some_iff.1 hh).1 (fun e => by obtain rfl := Option.some.inj e; rw [hh] at hr; cases hr)]; exact hh, hn, hm, hs, ht⟩⟩
theorem RF.set5 {w : World} {r b : Nat} {es : List Ent} {vs : List Value} (h : RF w r es) (hr : Row w b vs 37) (v0 v1 v2 v3 v4 : Value) : RF (((((w.setCell ⟨b, 0, none⟩ v0).setCell ⟨b, 1, none⟩ v1).setCell ⟨b, 2, none⟩ v2).setCell ⟨b, 3, none⟩ v3).setCell ⟨b, 4, none⟩ v4) r es :=
  ((((h.set hr 0 v0).set (hr.set_same 0 v0) 1 v1).set ((hr.set_same 0 v0).set_same 1 v1) 2 v2).set (((hr.set_same 0 v0).set_same 1 v1).set_same 2 v2) 3 v3).set ((((hr.set_same 0 v0).set_same 1 v1).set_same 2 v2).set_same 3 v3) 4 v4
theorem gr_set {w W : World} {r b : Nat} (h : w.grownBy W (some r)) (hb : w.heap.size ≤ b) (j : Nat) (v : Value) : w.grownBy (W.setCell ⟨b, j, none⟩ v) (some r) := by
  have hg := grownBy_setCell W ⟨b, j, none⟩ v
  refine ⟨hg.os.trans h.os, hg.tape.trans h.tape, hg.output.trans h.output, Nat.le_trans h.size hg.size, fun k hk hn => ?_⟩
  rw [hg.block k (Nat.lt_of_lt_of_le hk h.size) (fun e => by have e2 : k = b := Option.some.inj e; omega)]
  exact h.block k hk hn
theorem gr_set5 {w W : World} {r b : Nat} (h : w.grownBy W (some r)) (hb : w.heap.size ≤ b) (v0 v1 v2 v3 v4 : Value) : w.grownBy (((((W.setCell ⟨b, 0, none⟩ v0).setCell ⟨b, 1, none⟩ v1).setCell ⟨b, 2, none⟩ v2).setCell ⟨b, 3, none⟩ v3).setCell ⟨b, 4, none⟩ v4) (some r) :=
  gr_set (gr_set (gr_set (gr_set (gr_set h hb 0 v0) hb 1 v1) hb 2 v2) hb 3 v3) hb 4 v4
set_option maxHeartbeats 4000000 in
set_option maxRecDepth 100000 in
theorem rremove_any {w : World} {r : Nat} {es : List Ent} (h : RF w r es) (hg : GoodL es) (hnd : (es.map (·.names)).Nodup) (hn : es.length ≤ 100000) {nv : Value} {xs : List Str} (hv : Val w nv xs) (hx : Gp xs) (dd : Bool) (a z : Int) (p t d : ByteArray) :
    Calls Tryz.prog 39 #[.pointer (some ⟨r, 0, none⟩), .agg #[.int .i64 (if dd then 6 else 5), .string p, .string t, .string d, .int .i64 a, .int .i64 z], nv] w fun e w' => RmP w r es (es.filter (outE xs)) (rmR es xs dd) e w' := by
  obtain ⟨np, nc, rfl⟩ : ∃ p c, nv = .slice p xs.length c := by obtain ⟨p, c, e, _⟩ := hv; exact ⟨p, c, e⟩
  obtain ⟨WA, HWA, HRO, HRA, HBA⟩ := op_box w (if dd then 6 else 5) a z p t d
  have HRU := hid_in h
  have HLK := hid_in (fun W (k : Below w.heap.size w W) => rlook_any (h.below k) hg hnd (hv.below k) hx)
  have HBE := hid_in (fun W (k : Below w.heap.size w W) => rbelow_any (h.below k) hg hn (hv.below k))
  have HWO := hid_in (fun W (k : Below w.heap.size w W) => rwithout_any (h.below k) hg hn (hv.below k))
  obtain ⟨c0, c1, c2, c3, c4, c5⟩ := op_cells HRO.out (Below.refl _ WA)
  have h8 : (xs.length : Int) ≤ 8 := by have := hx.2; omega
  obtain ⟨C, HC⟩ : ∃ C, Hid (rmR es xs dd = C) := ⟨_, hid_in rfl⟩
  have HC2 := hid_in (show rmR es xs dd = if dd = true ∧ xs.length = 0 then 132 else if (lookR es xs).2 ≠ 0 then (lookR es xs).2 else if (lookR es xs).1.dir = true ∧ dd = false then 71 else if (lookR es xs).1.dir = false ∧ dd = true then 70 else if 0 < (es.filter (belowE xs)).length then 130 else 0 from rfl)
  rw [HC.out]
  rw [HC.out] at HC2
  obtain ⟨u0, hrow, hfo⟩ := h.ex
  have HROW := hid_in hrow
  generalize lookR es xs = L at *
  obtain ⟨⟨sn, sd, sx⟩, k⟩ := L
  simp only at HC2 HLK
  generalize hfl : (es.filter (belowE xs)).length = fl at *
  generalize xs.length = nl at *
  have HFL := hid_in hfl
  clear h hg hnd hn hv hx hrow hfo hfl HC
  by_cases h1 : dd = true ∧ nl = 0
  · obtain ⟨rfl, rfl⟩ := h1
    have HCO : Hid (C = 132) := hid_in (HC2.out.trans (if_pos ⟨rfl, rfl⟩))
    simp only [if_true] at HWA c0
    clear HC2 HLK HBE HWO
    go_enter Tryz.func39, Tryz.ntmps39
    go_upto_region 1 with fail
    refine wp_world HWA.out ?_
    go_wp2_with (first | (go_at_call 34; refine (rfail_any _ _).mono ?_; rintro e w5 ⟨rfl, hb5⟩; have hc5 := hb5; obtain ⟨⟨g0, g1, g2, g3, g4⟩, q0, q1, q2, q3, q4⟩ := res_cells HRA.out hc5; have HR5 := hid_in (HRA.out.below hc5 HRA.out.lt); have HB5 := hid_in (HBA.out.trans (hc5.mono HBA.out.size)); clear hb5 hc5))
    exact post_Row 6 37 rfl (w.heap.size + 1) rfl 37 [.int .i64 132, .bool false, .int .i64 0, .string ⟨#[]⟩, .slice none 0 0] (((((HR5.out.set_same 0 _).set_same 1 _).set_same 2 _).set_same 3 _).set_same 4 _) _ Tryz.underlying37 rfl 5 info37 rfl rfl (RmP.no HRU.out HCO.out (by decide) (s5_below HB5.out (by omega) _ _ _ _ _))
  · rw [if_neg h1] at HC2
    by_cases hk : k = 0
    · subst hk
      rw [if_neg (by simp)] at HC2
      unfold lkV at HLK
      rw [if_pos rfl] at HLK
      simp only at HLK
      generalize B (showS sn) = sp at *
      cases dd with
      | false =>
        simp only [Bool.false_eq_true, if_false] at HWA c0
        cases sd with
        | true =>
          have HCO : Hid (C = 71) := hid_in (HC2.out.trans (if_pos ⟨rfl, rfl⟩))
          clear HC2 HBE HWO h1
          go_enter Tryz.func39, Tryz.ntmps39
          go_upto_region 1 with fail
          refine wp_world HWA.out ?_
          go_wp2_with (first | (go_at_call 74; refine (HLK.out _ HBA.out).mono ?_; rintro e w2 ⟨rfl, hb2⟩; have HC2 := hid_in hb2; clear hb2) | (go_at_call 34; refine (rfail_any _ _).mono ?_; rintro e w5 ⟨rfl, hb5⟩; have hc5 := (HC2.out.alloc HC2.out.size _).trans (hb5.mono (HC2.out.alloc HC2.out.size _).size); obtain ⟨⟨g0, g1, g2, g3, g4⟩, q0, q1, q2, q3, q4⟩ := res_cells HRA.out hc5; have HR5 := hid_in (HRA.out.below hc5 HRA.out.lt); have HB5 := hid_in (HBA.out.trans (hc5.mono HBA.out.size)); clear hb5 hc5))
          exact post_Row 6 37 rfl (w.heap.size + 1) rfl 37 [.int .i64 71, .bool false, .int .i64 0, .string ⟨#[]⟩, .slice none 0 0] (((((HR5.out.set_same 0 _).set_same 1 _).set_same 2 _).set_same 3 _).set_same 4 _) _ Tryz.underlying37 rfl 5 info37 rfl rfl (RmP.no HRU.out HCO.out (by decide) (s5_below HB5.out (by omega) _ _ _ _ _))
        | false =>
          rw [if_neg (by simp), if_neg (by simp)] at HC2
          by_cases hf : 0 < fl
          · have hf2 : 0 < (fl : Int) := by omega
            have HCO : Hid (C = 130) := hid_in (HC2.out.trans (if_pos hf))
            clear HC2 HWO hf h1
            go_enter Tryz.func39, Tryz.ntmps39
            go_upto_region 1 with fail
            refine wp_world HWA.out ?_
            go_wp2_with (first | (go_at_call 74; refine (HLK.out _ HBA.out).mono ?_; rintro e w2 ⟨rfl, hb2⟩; have HC2 := hid_in hb2; have HB3c : Hid (Below WA.heap.size WA (w2.alloc (.cells #[.string sp, .bool false, .string sx] 48))) := hid_in (HC2.out.alloc HC2.out.size _); have HB3 := hid_in (HBA.out.trans (HB3c.out.mono HBA.out.size)); clear hb2) | (go_at_call 75; refine (HBE.out _ HB3.out).mono ?_; rintro e w3 ⟨v3, rfl, ho3, hb3⟩; obtain ⟨p3, k3, hv3⟩ := ho3.fls.form; rw [List.length_map, HFL.out] at hv3; subst hv3; have HC3 := hid_in (HB3c.out.trans (hb3.mono HB3c.out.size)); have HB4 := hid_in (HB3.out.trans (hb3.mono HB3.out.size)); clear ho3 hb3) | (go_at_call 34; refine (rfail_any _ _).mono ?_; rintro e w5 ⟨rfl, hb5⟩; have hc5 := HC3.out.trans (hb5.mono HC3.out.size); obtain ⟨⟨g0, g1, g2, g3, g4⟩, q0, q1, q2, q3, q4⟩ := res_cells HRA.out hc5; have HR5 := hid_in (HRA.out.below hc5 HRA.out.lt); have HB5 := hid_in (HBA.out.trans (hc5.mono HBA.out.size)); clear hb5 hc5))
            exact post_Row 6 37 rfl (w.heap.size + 1) rfl 37 [.int .i64 130, .bool false, .int .i64 0, .string ⟨#[]⟩, .slice none 0 0] (((((HR5.out.set_same 0 _).set_same 1 _).set_same 2 _).set_same 3 _).set_same 4 _) _ Tryz.underlying37 rfl 5 info37 rfl rfl (RmP.no HRU.out HCO.out (by decide) (s5_below HB5.out (by omega) _ _ _ _ _))
          · have hf2 : ¬ 0 < (fl : Int) := by omega
            have HCO : Hid (C = 0) := hid_in (HC2.out.trans (if_neg hf))
            clear HC2 hf h1
            go_enter Tryz.func39, Tryz.ntmps39
            go_upto_region 1 with fail
            refine wp_world HWA.out ?_
            go_upto_region 13 with (first | (go_at_call 74; refine (HLK.out _ HBA.out).mono ?_; rintro e w2 ⟨rfl, hb2⟩; have HC2 := hid_in hb2; have HB3c : Hid (Below WA.heap.size WA (w2.alloc (.cells #[.string sp, .bool false, .string sx] 48))) := hid_in (HC2.out.alloc HC2.out.size _); have HB3 := hid_in (HBA.out.trans (HB3c.out.mono HBA.out.size)); clear hb2) | (go_at_call 75; refine (HBE.out _ HB3.out).mono ?_; rintro e w3 ⟨v3, rfl, ho3, hb3⟩; obtain ⟨p3, k3, hv3⟩ := ho3.fls.form; rw [List.length_map, HFL.out] at hv3; subst hv3; have HC3 := hid_in (HB3c.out.trans (hb3.mono HB3c.out.size)); have HB4 := hid_in (HB3.out.trans (hb3.mono HB3.out.size)); clear ho3 hb3))
            go_upto_region 14 with (first | (go_at_call 76; refine (HWO.out _ HB4.out).mono ?_; rintro e w4 ⟨v4, rfl, ho4, hb4⟩; obtain ⟨p4, l4, k4, rfl⟩ := fo_form ho4; have hc4 := HC3.out.trans (hb4.mono HC3.out.size); obtain ⟨⟨g0, g1, g2, g3, g4⟩, q0, q1, q2, q3, q4⟩ := res_cells HRA.out hc4; have HR5 := hid_in (HRA.out.below hc4 HRA.out.lt); have HB5 := hid_in (HBA.out.trans (hc4.mono HBA.out.size)); have hrw := HROW.out.below HB5.out HROW.out.lt; have m0 := hrw.cell 0; have z0 := hrw.frozen 0; simp only [List.getElem?_cons_zero] at m0; have HPU := hid_in (RF.put HROW.out HB5.out (Rf.FO.mono ho4 HB4.out.size)); clear ho4 hb4 hc4 hrw))
            have HRX : Hid (Row (w4.setCell ⟨r, 0, none⟩ (.slice p4 l4 k4)) (w.heap.size + 1) [.int .i64 0, .bool false, .int .i64 0, .string ⟨#[]⟩, .slice none 0 0] 37) := hid_in (HR5.out.set_other _ _ (by have := HROW.out.lt; simp; omega))
            obtain ⟨w6, HW6⟩ : ∃ w6, Hid (w4.setCell ⟨r, 0, none⟩ (.slice p4 l4 k4) = w6) := ⟨_, hid_in rfl⟩
            rw [HW6.out] at HRX HPU
            refine wp_world HW6.out ?_
            clear g0 g1 g2 g3 g4 q0 q1 q2 q3 q4 m0 z0
            obtain ⟨⟨g0, g1, g2, g3, g4⟩, q0, q1, q2, q3, q4⟩ := res_cells HRX.out (Below.refl _ _)
            go_wp2_with fail
            exact post_Row 6 37 rfl (w.heap.size + 1) rfl 37 [.int .i64 0, .bool false, .int .i64 0, .string ⟨#[]⟩, .slice none 0 0] (((((HRX.out.set_same 0 _).set_same 1 _).set_same 2 _).set_same 3 _).set_same 4 _) _ Tryz.underlying37 rfl 5 info37 rfl rfl (RmP.yes HCO.out (HPU.out.1.set5 HRX.out _ _ _ _ _) (gr_set5 HPU.out.2 (by omega) _ _ _ _ _))
      | true =>
        have hnl : ¬ (nl : Int) = 0 := fun e => h1 ⟨rfl, by omega⟩
        have hnl2 : ((nl : Int) == 0) = false := by rw [beq_eq_false_iff_ne]; exact hnl
        simp only [if_true] at HWA c0
        cases sd with
        | false =>
          have HCO : Hid (C = 70) := hid_in (HC2.out.trans ((if_neg (by simp)).trans (if_pos ⟨rfl, rfl⟩)))
          clear HC2 HBE HWO h1
          go_enter Tryz.func39, Tryz.ntmps39
          go_upto_region 1 with fail
          refine wp_world HWA.out ?_
          go_wp2_with (first | (go_at_call 74; refine (HLK.out _ HBA.out).mono ?_; rintro e w2 ⟨rfl, hb2⟩; have HC2 := hid_in hb2; clear hb2) | (go_at_call 34; refine (rfail_any _ _).mono ?_; rintro e w5 ⟨rfl, hb5⟩; have hc5 := (HC2.out.alloc HC2.out.size _).trans (hb5.mono (HC2.out.alloc HC2.out.size _).size); obtain ⟨⟨g0, g1, g2, g3, g4⟩, q0, q1, q2, q3, q4⟩ := res_cells HRA.out hc5; have HR5 := hid_in (HRA.out.below hc5 HRA.out.lt); have HB5 := hid_in (HBA.out.trans (hc5.mono HBA.out.size)); clear hb5 hc5))
          exact post_Row 6 37 rfl (w.heap.size + 1) rfl 37 [.int .i64 70, .bool false, .int .i64 0, .string ⟨#[]⟩, .slice none 0 0] (((((HR5.out.set_same 0 _).set_same 1 _).set_same 2 _).set_same 3 _).set_same 4 _) _ Tryz.underlying37 rfl 5 info37 rfl rfl (RmP.no HRU.out HCO.out (by decide) (s5_below HB5.out (by omega) _ _ _ _ _))
        | true =>
          rw [if_neg (by simp), if_neg (by simp)] at HC2
          by_cases hf : 0 < fl
          · have hf2 : 0 < (fl : Int) := by omega
            have HCO : Hid (C = 130) := hid_in (HC2.out.trans (if_pos hf))
            clear HC2 HWO hf h1
            go_enter Tryz.func39, Tryz.ntmps39
            go_upto_region 1 with fail
            refine wp_world HWA.out ?_
            go_wp2_with (first | (go_at_call 74; refine (HLK.out _ HBA.out).mono ?_; rintro e w2 ⟨rfl, hb2⟩; have HC2 := hid_in hb2; have HB3c : Hid (Below WA.heap.size WA (w2.alloc (.cells #[.string sp, .bool true, .string sx] 48))) := hid_in (HC2.out.alloc HC2.out.size _); have HB3 := hid_in (HBA.out.trans (HB3c.out.mono HBA.out.size)); clear hb2) | (go_at_call 75; refine (HBE.out _ HB3.out).mono ?_; rintro e w3 ⟨v3, rfl, ho3, hb3⟩; obtain ⟨p3, k3, hv3⟩ := ho3.fls.form; rw [List.length_map, HFL.out] at hv3; subst hv3; have HC3 := hid_in (HB3c.out.trans (hb3.mono HB3c.out.size)); have HB4 := hid_in (HB3.out.trans (hb3.mono HB3.out.size)); clear ho3 hb3) | (go_at_call 34; refine (rfail_any _ _).mono ?_; rintro e w5 ⟨rfl, hb5⟩; have hc5 := HC3.out.trans (hb5.mono HC3.out.size); obtain ⟨⟨g0, g1, g2, g3, g4⟩, q0, q1, q2, q3, q4⟩ := res_cells HRA.out hc5; have HR5 := hid_in (HRA.out.below hc5 HRA.out.lt); have HB5 := hid_in (HBA.out.trans (hc5.mono HBA.out.size)); clear hb5 hc5))
            exact post_Row 6 37 rfl (w.heap.size + 1) rfl 37 [.int .i64 130, .bool false, .int .i64 0, .string ⟨#[]⟩, .slice none 0 0] (((((HR5.out.set_same 0 _).set_same 1 _).set_same 2 _).set_same 3 _).set_same 4 _) _ Tryz.underlying37 rfl 5 info37 rfl rfl (RmP.no HRU.out HCO.out (by decide) (s5_below HB5.out (by omega) _ _ _ _ _))
          · have hf2 : ¬ 0 < (fl : Int) := by omega
            have HCO : Hid (C = 0) := hid_in (HC2.out.trans (if_neg hf))
            clear HC2 hf h1
            go_enter Tryz.func39, Tryz.ntmps39
            go_upto_region 1 with fail
            refine wp_world HWA.out ?_
            go_upto_region 13 with (first | (go_at_call 74; refine (HLK.out _ HBA.out).mono ?_; rintro e w2 ⟨rfl, hb2⟩; have HC2 := hid_in hb2; have HB3c : Hid (Below WA.heap.size WA (w2.alloc (.cells #[.string sp, .bool true, .string sx] 48))) := hid_in (HC2.out.alloc HC2.out.size _); have HB3 := hid_in (HBA.out.trans (HB3c.out.mono HBA.out.size)); clear hb2) | (go_at_call 75; refine (HBE.out _ HB3.out).mono ?_; rintro e w3 ⟨v3, rfl, ho3, hb3⟩; obtain ⟨p3, k3, hv3⟩ := ho3.fls.form; rw [List.length_map, HFL.out] at hv3; subst hv3; have HC3 := hid_in (HB3c.out.trans (hb3.mono HB3c.out.size)); have HB4 := hid_in (HB3.out.trans (hb3.mono HB3.out.size)); clear ho3 hb3))
            go_upto_region 14 with (first | (go_at_call 76; refine (HWO.out _ HB4.out).mono ?_; rintro e w4 ⟨v4, rfl, ho4, hb4⟩; obtain ⟨p4, l4, k4, rfl⟩ := fo_form ho4; have hc4 := HC3.out.trans (hb4.mono HC3.out.size); obtain ⟨⟨g0, g1, g2, g3, g4⟩, q0, q1, q2, q3, q4⟩ := res_cells HRA.out hc4; have HR5 := hid_in (HRA.out.below hc4 HRA.out.lt); have HB5 := hid_in (HBA.out.trans (hc4.mono HBA.out.size)); have hrw := HROW.out.below HB5.out HROW.out.lt; have m0 := hrw.cell 0; have z0 := hrw.frozen 0; simp only [List.getElem?_cons_zero] at m0; have HPU := hid_in (RF.put HROW.out HB5.out (Rf.FO.mono ho4 HB4.out.size)); clear ho4 hb4 hc4 hrw))
            have HRX : Hid (Row (w4.setCell ⟨r, 0, none⟩ (.slice p4 l4 k4)) (w.heap.size + 1) [.int .i64 0, .bool false, .int .i64 0, .string ⟨#[]⟩, .slice none 0 0] 37) := hid_in (HR5.out.set_other _ _ (by have := HROW.out.lt; simp; omega))
            obtain ⟨w6, HW6⟩ : ∃ w6, Hid (w4.setCell ⟨r, 0, none⟩ (.slice p4 l4 k4) = w6) := ⟨_, hid_in rfl⟩
            rw [HW6.out] at HRX HPU
            refine wp_world HW6.out ?_
            clear g0 g1 g2 g3 g4 q0 q1 q2 q3 q4 m0 z0
            obtain ⟨⟨g0, g1, g2, g3, g4⟩, q0, q1, q2, q3, q4⟩ := res_cells HRX.out (Below.refl _ _)
            go_wp2_with fail
            exact post_Row 6 37 rfl (w.heap.size + 1) rfl 37 [.int .i64 0, .bool false, .int .i64 0, .string ⟨#[]⟩, .slice none 0 0] (((((HRX.out.set_same 0 _).set_same 1 _).set_same 2 _).set_same 3 _).set_same 4 _) _ Tryz.underlying37 rfl 5 info37 rfl rfl (RmP.yes HCO.out (HPU.out.1.set5 HRX.out _ _ _ _ _) (gr_set5 HPU.out.2 (by omega) _ _ _ _ _))
    · have hk2 : (k != 0) = true := by simpa using hk
      rw [if_pos hk] at HC2
      have HCO : Hid (C = k) := HC2
      have HKN := hid_in hk
      unfold lkV at HLK
      rw [if_neg hk] at HLK
      clear HC2 HBE HWO hk
      cases dd with
      | false =>
        simp only [Bool.false_eq_true, if_false] at HWA c0
        clear h1
        go_enter Tryz.func39, Tryz.ntmps39
        go_upto_region 1 with fail
        refine wp_world HWA.out ?_
        go_wp2_with (first | (go_at_call 74; refine (HLK.out _ HBA.out).mono ?_; rintro e w2 ⟨rfl, hb2⟩; have HC2 := hid_in hb2; clear hb2) | (go_at_call 34; refine (rfail_any _ _).mono ?_; rintro e w5 ⟨rfl, hb5⟩; have hc5 := (HC2.out.alloc HC2.out.size _).trans (hb5.mono (HC2.out.alloc HC2.out.size _).size); obtain ⟨⟨g0, g1, g2, g3, g4⟩, q0, q1, q2, q3, q4⟩ := res_cells HRA.out hc5; have HR5 := hid_in (HRA.out.below hc5 HRA.out.lt); have HB5 := hid_in (HBA.out.trans (hc5.mono HBA.out.size)); clear hb5 hc5))
        exact post_Row 6 37 rfl (w.heap.size + 1) rfl 37 [.int .i64 k, .bool false, .int .i64 0, .string ⟨#[]⟩, .slice none 0 0] (((((HR5.out.set_same 0 _).set_same 1 _).set_same 2 _).set_same 3 _).set_same 4 _) _ Tryz.underlying37 rfl 5 info37 rfl rfl (RmP.no HRU.out HCO.out HKN.out (s5_below HB5.out (by omega) _ _ _ _ _))
      | true =>
        have hnl : ¬ (nl : Int) = 0 := fun e => h1 ⟨rfl, by omega⟩
        have hnl2 : ((nl : Int) == 0) = false := by rw [beq_eq_false_iff_ne]; exact hnl
        simp only [if_true] at HWA c0
        clear h1 hnl
        go_enter Tryz.func39, Tryz.ntmps39
        go_upto_region 1 with fail
        refine wp_world HWA.out ?_
        go_wp2_with (first | (go_at_call 74; refine (HLK.out _ HBA.out).mono ?_; rintro e w2 ⟨rfl, hb2⟩; have HC2 := hid_in hb2; clear hb2) | (go_at_call 34; refine (rfail_any _ _).mono ?_; rintro e w5 ⟨rfl, hb5⟩; have hc5 := (HC2.out.alloc HC2.out.size _).trans (hb5.mono (HC2.out.alloc HC2.out.size _).size); obtain ⟨⟨g0, g1, g2, g3, g4⟩, q0, q1, q2, q3, q4⟩ := res_cells HRA.out hc5; have HR5 := hid_in (HRA.out.below hc5 HRA.out.lt); have HB5 := hid_in (HBA.out.trans (hc5.mono HBA.out.size)); clear hb5 hc5))
        exact post_Row 6 37 rfl (w.heap.size + 1) rfl 37 [.int .i64 k, .bool false, .int .i64 0, .string ⟨#[]⟩, .slice none 0 0] (((((HR5.out.set_same 0 _).set_same 1 _).set_same 2 _).set_same 3 _).set_same 4 _) _ Tryz.underlying37 rfl 5 info37 rfl rfl (RmP.no HRU.out HCO.out HKN.out (s5_below HB5.out (by omega) _ _ _ _ _))
end Go.Proofs.YtngehkmdanhgpaaGreat.Pl
