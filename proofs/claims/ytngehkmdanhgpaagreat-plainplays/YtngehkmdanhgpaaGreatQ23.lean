/-
  The walks of stat, unlink, mkdir, forget. The walks of checkEnds, checkCover, checkMove.
-/
import Derived.Lib.SlBytesConst
import Derived.Laws.CopyOwn
import Derived.Deep.RegionLaw
import Derived.Deep.DrawnRows
import Derived.Lib.AppendZeros
import Derived.Laws.Tables
import Derived.Test.YtngehkmdanhgpaaGreatQ00
import Derived.Test.YtngehkmdanhgpaaGreatQ01
import Derived.Test.YtngehkmdanhgpaaGreatQ02
import Derived.Test.YtngehkmdanhgpaaGreatQ03
import Derived.Test.YtngehkmdanhgpaaGreatQ04
import Derived.Test.YtngehkmdanhgpaaGreatQ05
import Derived.Test.YtngehkmdanhgpaaGreatQ06
import Derived.Test.YtngehkmdanhgpaaGreatQ07
import Derived.Test.YtngehkmdanhgpaaGreatQ08
import Derived.Test.YtngehkmdanhgpaaGreatQ09
import Derived.Test.YtngehkmdanhgpaaGreatQ10
import Derived.Test.YtngehkmdanhgpaaGreatQ11
import Derived.Test.YtngehkmdanhgpaaGreatQ12
import Derived.Test.YtngehkmdanhgpaaGreatQ13
import Derived.Test.YtngehkmdanhgpaaGreatQ14
import Derived.Test.YtngehkmdanhgpaaGreatQ15
import Derived.Test.YtngehkmdanhgpaaGreatQ16
import Derived.Test.YtngehkmdanhgpaaGreatQ17
import Derived.Test.YtngehkmdanhgpaaGreatQ18
import Derived.Test.YtngehkmdanhgpaaGreatQ19
import Derived.Test.YtngehkmdanhgpaaGreatQ21
import Derived.Test.YtngehkmdanhgpaaGreatQ22
namespace Go.Proofs.YtngehkmdanhgpaaGreat.Pl
open Go.RowKit
open Vp (Str B bl Val cmpL parseS showS splitS withinS IsPath)
open Nd (Row wp_world post_Row post_Row2 grownBy_setCell below_of_grown)
def kidE (xs : List Str) (e : Ent) : Bool := decide (e.names.length = xs.length + 1)
def kidsA (A : List Ent) (xs : List Str) : List Ent := (A.filter (belowE xs)).filter (kidE xs)
theorem kids_ent (L : List Spot) (xs : List Str) : ((L.filter (belowB xs)).filter (kidB xs)).map Spot.ent = kidsA (L.map Spot.ent) xs := by
  unfold kidsA
  rw [← belowB_ent, List.filter_map]
  rfl
theorem findP_ok {L : List Spot} {xs : List Str} {t : Spot} (h : findP L xs = (t, 0)) : spotAt L xs = some t ∧ t.names = xs := by
  have h1 := findP_at h
  have h2 := List.find?_some h1
  exact ⟨h1, of_decide_eq_true h2⟩
def stE (A : List Ent) (xs : List Str) : Int := (findA A xs).2
def stD (A : List Ent) (xs : List Str) : Bool := if stE A xs = 0 then (findA A xs).1.dir else false
def stS (A : List Ent) (xs : List Str) : Int := if stE A xs = 0 then (if (findA A xs).1.dir then ((kidsA A xs).length : Int) else ((findA A xs).1.data.size : Int)) else 0
set_option maxHeartbeats 4000000 in
set_option maxRecDepth 100000 in
theorem stat_any {w : World} {g m : Nat} {L : List Spot} (h : Fs w g m L) (hn : L.length ≤ 100000) (k a z : Int) (p t d : ByteArray) (hp : p.size ≤ 9223372036854775807) :
    Calls Tryz.prog 72 #[.pointer (some ⟨g, 0, none⟩), .agg #[.int .i64 k, .string p, .string t, .string d, .int .i64 a, .int .i64 z]] w fun e w' => e = .returned (Res.val ⟨stE (L.map Spot.ent) (nmsOf p), stD (L.map Spot.ent) (nmsOf p), stS (L.map Spot.ent) (nmsOf p), ⟨#[]⟩, .slice none 0 0⟩) ∧ Fs w' g m L ∧ Below w.heap.size w w' := by
  obtain ⟨WA, HWA, HRO, HRA, HBA⟩ := op_box w k a z p t d
  have H := hid_in h
  have HNO := hid_in (fun W => namesOf_any p hp W)
  have HF := hid_in (fun W (kb : Below w.heap.size w W) v (kv : Val W v (nmsOf p)) => find_any (h.below kb) kv (gp_nms p))
  have HKI := hid_in (fun W (kb : Below w.heap.size w W) v (kv : Val W v (nmsOf p)) => kids_any (h.below kb) kv hn (by have := (gp_nms p).2; omega))
  have c1 : WA.cell? ⟨w.heap.size, 1, none⟩ = some (.string p) := HRO.out.cell 1
  obtain ⟨qp, qn, qc, hsv⟩ := findP_sf h.map (nmsOf p)
  obtain ⟨hfe, hfx⟩ := findP_ent L (nmsOf p)
  have HE : Hid (stE (L.map Spot.ent) (nmsOf p) = (findP L (nmsOf p)).2) := by show _ = _; unfold stE; rw [← hfe]
  have HD : Hid (stD (L.map Spot.ent) (nmsOf p) = if stE (L.map Spot.ent) (nmsOf p) = 0 then (findP L (nmsOf p)).1.dir else false) := by
    show _ = _
    unfold stD
    rw [← hfx]; rfl
  have HS : Hid (stS (L.map Spot.ent) (nmsOf p) = if stE (L.map Spot.ent) (nmsOf p) = 0 then (if (findP L (nmsOf p)).1.dir then (((L.filter (belowB (nmsOf p))).filter (kidB (nmsOf p))).length : Int) else ((findP L (nmsOf p)).1.data.size : Int)) else 0) := by
    show _ = _
    unfold stS
    rw [← hfx, ← kids_ent, List.length_map]; rfl
  have HOK := hid_in (fun t (e : findP L (nmsOf p) = (t, 0)) => findP_ok e)
  generalize stE (L.map Spot.ent) (nmsOf p) = E at *
  generalize stD (L.map Spot.ent) (nmsOf p) = DD at *
  generalize stS (L.map Spot.ent) (nmsOf p) = S at *
  generalize findP L (nmsOf p) = r at *
  obtain ⟨⟨sv, sn, sp, sd, sx⟩, e0⟩ := r
  simp only at hsv HE HS HD
  subst hsv
  simp only [Spot.val, Res.val] at HF ⊢
  have HC4 : Hid ([Value.slice qp qn qc, .string sp, .bool sd, .string sx].length = 4) := rfl
  have HO4 : Hid (∀ v ∈ [Value.slice qp qn qc, .string sp, .bool sd, .string sx], v.oneCell' = true) := by
    intro v hv
    simp only [List.mem_cons, List.not_mem_nil, or_false] at hv
    rcases hv with rfl | rfl | rfl | rfl <;> rfl
  have HREF := hid_in (fun k W => refuse_any k W)
  simp only [Res.err, Res.val] at HREF
  generalize nmsOf p = xs at *
  clear h hfe hfx hn
  go_enter Tryz.func72, Tryz.ntmps72
  go_upto_region 1 with fail
  refine wp_world HWA.out ?_
  go_upto_region 2 with (first | (go_at_call 92; refine (HNO.out _).mono ?_; rintro e w1 ⟨v1, rfl, hv1, hb1⟩; have HV1 := hid_in hv1.val; have HC1 := hid_in hb1; have HB1 := hid_in (HBA.out.trans (hb1.mono HBA.out.size)); clear hv1 hb1) | (go_at_call 102; refine (HF.out _ HB1.out _ HV1.out).mono ?_; rintro e w2 ⟨rfl, hb2⟩; have HC2 := hid_in (HC1.out.trans (hb2.mono HC1.out.size)); clear hb2) | (refine Nd.wpList_store_new rfl rfl 63 4 _ _ rfl _ [Value.slice qp qn qc, .string sp, .bool sd, .string sx] info63 rfl HC4 HO4 rfl rfl ?_; intro w3 hr3 hb3 hs3; have HR3 := hid_in hr3; have HC3 := hid_in (HC2.out.trans (hb3.mono HC2.out.size)); clear hr3 hb3 hs3))
  have HB3 := hid_in (HBA.out.trans (HC3.out.mono HBA.out.size))
  have HRA3 := hid_in (HRA.out.below HC3.out HRA.out.lt)
  obtain ⟨⟨s0, s1, s2, s3⟩, -⟩ := spot_cells HR3.out (Below.refl _ w3)
  have HERR := hid_in (fun W (kb : Below w3.heap.size w3 W) => And.intro (res_cells HRA3.out kb) (And.intro (HRA3.out.below kb HRA3.out.lt) (HB3.out.trans (kb.mono HB3.out.size))))
  by_cases hk : e0 = 0
  · subst hk
    obtain ⟨hok, hnm⟩ := HOK.out _ rfl
    simp only at hnm
    have HNM := hid_in (H.out.map.nms _ (List.mem_of_find?_eq_some hok))
    simp only at HNM
    rw [hnm] at HNM
    clear hok hnm HOK
    cases sd with
    | true =>
      have HK4 := hid_in (HKI.out _ HB3.out _ (HNM.out.below HB3.out).val)
      go_wp2_with (first | (go_at_call 100; refine HK4.out.mono ?_; rintro e w4 ⟨v4, ps, rfl, hs4, hp4, hb4⟩; obtain ⟨p4, c4, rfl⟩ := hs4.form; have HPL := hid_in hp4.length_eq; obtain ⟨⟨⟨g0, g1, g2, g3, g4⟩, q0, q1, q2, q3, q4⟩, hr5, hb5'⟩ := HERR.out _ hb4; have HR5 := hid_in hr5; have HB5 := hid_in hb5'; clear hs4 hp4 hb4 hr5 hb5'))
      refine post_res H.out HR5.out HB5.out 0 (ps.length : Int) true ⟨#[]⟩ (.slice none 0 0) _ rfl rfl rfl fun W' _ hf hb => ⟨?_, hf, hb⟩
      rw [HS.out, HD.out, HE.out, HPL.out, if_pos rfl, if_pos rfl]; rfl
    | false =>
      obtain ⟨⟨⟨g0, g1, g2, g3, g4⟩, q0, q1, q2, q3, q4⟩, _, _⟩ := HERR.out _ (Below.refl _ w3)
      go_wp2
      refine post_res H.out HRA3.out HB3.out 0 (sx.size : Int) false ⟨#[]⟩ (.slice none 0 0) _ rfl rfl rfl fun W' _ hf hb => ⟨?_, hf, hb⟩
      rw [HS.out, HD.out, HE.out, if_pos rfl, if_pos rfl]; rfl
  · have hk2 : (e0 != 0) = true := by simpa using hk
    have HK0 := hid_in hk
    clear hk
    go_wp2_with (first | (go_at_call 30; refine (HREF.out _ _).mono ?_; rintro e w5 ⟨rfl, hb5⟩; obtain ⟨⟨⟨g0, g1, g2, g3, g4⟩, q0, q1, q2, q3, q4⟩, hr5, hb5'⟩ := HERR.out _ hb5; have HR5 := hid_in hr5; have HB5 := hid_in hb5'; clear hb5 hr5 hb5'))
    refine post_res H.out HR5.out HB5.out e0 0 false ⟨#[]⟩ (.slice none 0 0) _ rfl rfl rfl fun W' _ hf hb => ⟨?_, hf, hb⟩
    rw [HS.out, HD.out, HE.out, if_neg HK0.out, if_neg HK0.out]; rfl
set_option maxHeartbeats 4000000 in
set_option maxRecDepth 100000 in
theorem mkdir_any {w : World} {g m : Nat} {L : List Spot} (h : Fs w g m L) (k a z : Int) (p t d : ByteArray) (hp : p.size ≤ 9223372036854775807) :
    Calls Tryz.prog 63 #[.pointer (some ⟨g, 0, none⟩), .agg #[.int .i64 k, .string p, .string t, .string d, .int .i64 a, .int .i64 z]] w fun e w' => e = .returned (Res.err (addE (L.map Spot.ent) (nmsOf p))).val ∧ (∃ L', Fs w' g m L' ∧ L'.map Spot.ent = addA (L.map Spot.ent) (nmsOf p) true) ∧ w.grownBy w' (some m) := by
  obtain ⟨WA, HWA, HRO, HRA, HBA⟩ := op_box w k a z p t d
  have H := hid_in h
  have HG := hid_in h.ne1
  have HNO := hid_in (fun W => namesOf_any p hp W)
  have HADD := hid_in (fun W (kb : Below w.heap.size w W) v (hv : Rf.Nm W v (nmsOf p)) => add_any (h.below kb) hv (gp_nms p) true)
  have c1 : WA.cell? ⟨w.heap.size, 1, none⟩ = some (.string p) := HRO.out.cell 1
  generalize addE (L.map Spot.ent) (nmsOf p) = E at *
  generalize addA (L.map Spot.ent) (nmsOf p) true = A' at *
  simp only [Res.err, Res.val] at HADD ⊢
  clear h
  go_enter Tryz.func63, Tryz.ntmps63
  go_upto_region 1 with fail
  refine wp_world HWA.out ?_
  go_wp2_with (first | (go_at_call 92; refine (HNO.out _).mono ?_; rintro e w1 ⟨v1, rfl, hv1, hb1⟩; have HV1 := hid_in hv1; have HC1 := hid_in hb1; have HB1 := hid_in (HBA.out.trans (hb1.mono HBA.out.size)); clear hv1 hb1) | (go_at_call 91; refine (HADD.out _ HB1.out _ HV1.out).mono ?_; rintro e w2 ⟨rfl, ⟨L2, hf2, ha2⟩, hg2⟩; have hr2 := Row.map (HRA.out.below HC1.out HRA.out.lt) (H.out.below HB1.out).map hg2; obtain ⟨⟨g0, g1, g2, g3, g4⟩, q0, q1, q2, q3, q4⟩ := res_cells hr2 (Below.refl _ w2); have HR2 := hid_in hr2; have HF2 := hid_in hf2; have HA2 := hid_in ha2; have HG2 := hid_in (grown_plus HB1.out hg2); clear hf2 ha2 hg2 hr2))
  exact post_Row 4 37 rfl (w.heap.size + 1) rfl 37 [.int .i64 E, .bool false, .int .i64 0, .string ⟨#[]⟩, .slice none 0 0] (set5_row HR2.out rfl _ _ _ _ _) _ Tryz.underlying37 rfl 5 info37 rfl rfl ⟨rfl, ⟨_, HF2.out.set5 HR2.out (by decide) HG.out _ _ _ _ _, HA2.out⟩, grown_set5 HG2.out (Nat.le_succ _) _ _ _ _ _⟩
def ulE (A : List Ent) (xs : List Str) : Int := (findFA A xs).2
def ulA (A : List Ent) (xs : List Str) : List Ent := if ulE A xs = 0 then cutA A xs else A
set_option maxHeartbeats 4000000 in
set_option maxRecDepth 100000 in
theorem unlink_any {w : World} {g m : Nat} {L : List Spot} (h : Fs w g m L) (k a z : Int) (p t d : ByteArray) (hp : p.size ≤ 9223372036854775807) :
    Calls Tryz.prog 67 #[.pointer (some ⟨g, 0, none⟩), .agg #[.int .i64 k, .string p, .string t, .string d, .int .i64 a, .int .i64 z]] w fun e w' => e = .returned (Res.err (ulE (L.map Spot.ent) (nmsOf p))).val ∧ (∃ L', Fs w' g m L' ∧ L'.map Spot.ent = ulA (L.map Spot.ent) (nmsOf p)) ∧ w.grownBy w' (some m) := by
  obtain ⟨WA, HWA, HRO, HRA, HBA⟩ := op_box w k a z p t d
  have H := hid_in h
  have HFF := hid_in (fun W (kb : Below w.heap.size w W) => findFile_any (h.below kb) p hp)
  have HDR := hid_in (fun W (kb : Below w.heap.size w W) v (kv : Val W v (nmsOf p)) => drop_any (h.below kb) kv (gp_nms p))
  have c1 : WA.cell? ⟨w.heap.size, 1, none⟩ = some (.string p) := HRO.out.cell 1
  obtain ⟨qp, qn, qc, hsv⟩ := findF_sf h.map (nmsOf p)
  obtain ⟨hfe, -⟩ := findF_ent L (nmsOf p)
  have HE : Hid (ulE (L.map Spot.ent) (nmsOf p) = (findF L (nmsOf p)).2) := by show _ = _; unfold ulE; rw [← hfe]
  have HA : Hid (ulA (L.map Spot.ent) (nmsOf p) = if ulE (L.map Spot.ent) (nmsOf p) = 0 then cutA (L.map Spot.ent) (nmsOf p) else L.map Spot.ent) := rfl
  have HOK := hid_in (fun t (e : findF L (nmsOf p) = (t, 0)) => findF_ok e)
  generalize ulE (L.map Spot.ent) (nmsOf p) = E at *
  generalize ulA (L.map Spot.ent) (nmsOf p) = A' at *
  generalize findF L (nmsOf p) = r at *
  obtain ⟨⟨sv, sn, sp, sd, sx⟩, e0⟩ := r
  simp only at hsv HE
  subst hsv
  simp only [Spot.val] at HFF
  have HC4 : Hid ([Value.slice qp qn qc, .string sp, .bool sd, .string sx].length = 4) := rfl
  have HO4 : Hid (∀ v ∈ [Value.slice qp qn qc, .string sp, .bool sd, .string sx], v.oneCell' = true) := by
    intro v hv
    simp only [List.mem_cons, List.not_mem_nil, or_false] at hv
    rcases hv with rfl | rfl | rfl | rfl <;> rfl
  have HREF := hid_in (fun k W => refuse_any k W)
  simp only [Res.err, Res.val] at HREF
  generalize nmsOf p = xs at *
  clear h hfe
  go_enter Tryz.func67, Tryz.ntmps67
  go_upto_region 1 with fail
  refine wp_world HWA.out ?_
  go_upto_region 2 with (first | (go_at_call 93; refine (HFF.out _ HBA.out).mono ?_; rintro e w2 ⟨rfl, hb2⟩; have HC2 := hid_in hb2; clear hb2) | (refine Nd.wpList_store_new rfl rfl 63 4 _ _ rfl _ [Value.slice qp qn qc, .string sp, .bool sd, .string sx] info63 rfl HC4 HO4 rfl rfl ?_; intro w3 hr3 hb3 hs3; have HR3 := hid_in hr3; have HC3 := hid_in (HC2.out.trans (hb3.mono HC2.out.size)); clear hr3 hb3 hs3))
  have HB3 := hid_in (HBA.out.trans (HC3.out.mono HBA.out.size))
  have HRA3 := hid_in (HRA.out.below HC3.out HRA.out.lt)
  obtain ⟨⟨s0, s1, s2, s3⟩, -⟩ := spot_cells HR3.out (Below.refl _ w3)
  have HERR := hid_in (fun W (kb : Below w3.heap.size w3 W) => And.intro (res_cells HRA3.out kb) (And.intro (HRA3.out.below kb HRA3.out.lt) (HB3.out.trans (kb.mono HB3.out.size))))
  by_cases hk : e0 = 0
  · subst hk
    obtain ⟨hok, hnm, _⟩ := HOK.out _ rfl
    simp only at hnm
    have HNM := hid_in (H.out.map.nms _ (List.mem_of_find?_eq_some hok))
    simp only at HNM
    rw [hnm] at HNM
    clear hok hnm HOK
    go_wp2_with (first | (go_at_call 95; refine (HDR.out _ HB3.out _ (HNM.out.below HB3.out).val).mono ?_; rintro e w6 ⟨rfl, hf6, hg6⟩; have hr6 := Row.map HRA3.out (H.out.below HB3.out).map hg6; obtain ⟨⟨g0, g1, g2, g3, g4⟩, q0, q1, q2, q3, q4⟩ := res_cells hr6 (Below.refl _ w6); have HR6 := hid_in hr6; have HF6 := hid_in hf6; have HG6 := hid_in (grown_plus HB3.out hg6); clear hf6 hg6 hr6))
    refine post_Row 4 37 rfl (w.heap.size + 1) rfl 37 [.int .i64 0, .bool false, .int .i64 0, .string ⟨#[]⟩, .slice none 0 0] (set5_row HR6.out rfl _ _ _ _ _) _ Tryz.underlying37 rfl 5 info37 rfl rfl ⟨by rw [HE.out]; rfl, ⟨_, HF6.out.set5 HR6.out (by decide) H.out.ne1 _ _ _ _ _, ?_⟩, grown_set5 HG6.out (Nat.le_succ _) _ _ _ _ _⟩
    rw [HA.out, HE.out, if_pos rfl, cutP_ent]
  · have hk2 : (e0 != 0) = true := by simpa using hk
    have HK0 := hid_in hk
    clear hk
    go_wp2_with (first | (go_at_call 30; refine (HREF.out _ _).mono ?_; rintro e w5 ⟨rfl, hb5⟩; obtain ⟨⟨⟨g0, g1, g2, g3, g4⟩, q0, q1, q2, q3, q4⟩, hr5, hb5'⟩ := HERR.out _ hb5; have HR5 := hid_in hr5; have HB5 := hid_in hb5'; clear hb5 hr5 hb5'))
    refine post_err H.out HR5.out HB5.out e0 _ rfl rfl rfl fun W' hf hg => ⟨by rw [HE.out], ⟨L, hf, ?_⟩, hg⟩
    rw [HA.out, HE.out, if_neg HK0.out]
set_option maxHeartbeats 4000000 in
set_option maxRecDepth 100000 in
theorem forget_any {w : World} {g m : Nat} {L : List Spot} (h : Fs w g m L) (k a z : Int) (p t d : ByteArray) :
    Calls Tryz.prog 73 #[.pointer (some ⟨g, 0, none⟩), .agg #[.int .i64 k, .string p, .string t, .string d, .int .i64 a, .int .i64 z]] w fun e w' => e = .returned (Res.err 0).val ∧ Fs w' g m L ∧ Below w.heap.size w w' := by
  obtain ⟨WA, HWA, HRO, HRA, HBA⟩ := op_box w k a z p t d
  have H := hid_in h
  obtain ⟨⟨g0, g1, g2, g3, g4⟩, q0, q1, q2, q3, q4⟩ := res_cells HRA.out (Below.refl _ WA)
  clear h
  go_enter Tryz.func73, Tryz.ntmps73
  go_upto_region 1 with fail
  refine wp_world HWA.out ?_
  go_wp2
  exact post_res H.out HRA.out HBA.out 0 0 false ⟨#[]⟩ (.slice none 0 0) _ rfl rfl rfl fun W' _ hf hb => ⟨rfl, hf, hb⟩
end Go.Proofs.YtngehkmdanhgpaaGreat.Pl
namespace Go.Proofs.YtngehkmdanhgpaaGreat.Pl
open Go.RowKit
open Vp (Str B bl Val cmpL parseS showS splitS withinS IsPath)
open Nd (Row wp_world post_Row post_Row2 grownBy_setCell below_of_grown)
theorem spot_one (p : Option Addr) (n c : Nat) (t x : ByteArray) (d : Bool) : Hid (∀ v ∈ [Value.slice p n c, .string t, .bool d, .string x], v.oneCell' = true) := by
  intro v hv
  simp only [List.mem_cons, List.not_mem_nil, or_false] at hv
  rcases hv with rfl | rfl | rfl | rfl <;> rfl
def endsE (A : List Ent) (p q : List Str) : Int := if p = [] ∨ q = [] then 132 else if (findA A p).2 ≠ 0 then (findA A p).2 else (findDA A q.dropLast).2
set_option maxHeartbeats 4000000 in
set_option maxRecDepth 100000 in
theorem checkEnds_any {w : World} {g m : Nat} {L : List Spot} (h : Fs w g m L) {pv qv : Value} {p q : List Str} (hp : Val w pv p) (hq : Val w qv q) (gp : Gp p) (gq : Gp q) :
    Calls Tryz.prog 97 #[.pointer (some ⟨g, 0, none⟩), pv, qv] w fun e w' => e = .returned (.int .i64 (endsE (L.map Spot.ent) p q)) ∧ Below w.heap.size w w' := by
  have HP := hid_in hp
  have HQ := hid_in hq
  obtain ⟨pp, pc, rfl⟩ : ∃ a c, pv = .slice a p.length c := by obtain ⟨a, c, e, _⟩ := hp; exact ⟨a, c, e⟩
  obtain ⟨qp, qc, rfl⟩ : ∃ a c, qv = .slice a q.length c := by obtain ⟨a, c, e, _⟩ := hq; exact ⟨a, c, e⟩
  have H := hid_in h
  have HFI := hid_in (find_any h hp gp)
  have HDO := hid_in (fun W (k : Below w.heap.size w W) => dirOf_any (hq.below k) gq)
  have HFD := hid_in (fun W (k : Below w.heap.size w W) v (kv : Val W v q.dropLast) => findDir_any (h.below k) kv gq.dropLast)
  have HE : Hid (endsE (L.map Spot.ent) p q = if p.length = 0 ∨ q.length = 0 then 132 else if (findP L p).2 ≠ 0 then (findP L p).2 else (findD L q.dropLast).2) := by
    show _ = _
    unfold endsE
    rw [← (findP_ent L p).1, ← (findD_ent L q.dropLast).1]
    simp only [List.length_eq_zero_iff]
  obtain ⟨fp, fn, fc, hfv⟩ := findP_sf h.map p
  obtain ⟨dp, dn, dc, hdv⟩ := findD_sf h.map q.dropLast
  generalize endsE (L.map Spot.ent) p q = E at *
  generalize findP L p = r at *
  obtain ⟨⟨fv, fnm, ft, fd, fx⟩, e1⟩ := r
  generalize findD L q.dropLast = r at *
  obtain ⟨⟨dv, dnm, dt, dd, dx⟩, e2⟩ := r
  simp only at hfv hdv HE
  subst hfv hdv
  simp only [Spot.val] at HFI HFD
  generalize p.length = pl at *
  generalize q.length = ql at *
  clear h hp hq
  by_cases k1 : pl = 0
  · subst k1
    have HEK : Hid (E = 132) := by show _ = _; rw [HE.out, if_pos (.inl rfl)]
    go_enter Tryz.func97, Tryz.ntmps97
    go_wp2
    go_ret
    exact ⟨by rw [HEK.out]; rfl, Below.refl _ _⟩
  have k1' : ((pl : Int) == 0) = false := beq_eq_false_iff_ne.2 (by omega)
  by_cases k2 : ql = 0
  · subst k2
    have HEK : Hid (E = 132) := by show _ = _; rw [HE.out, if_pos (.inr rfl)]
    go_enter Tryz.func97, Tryz.ntmps97
    go_wp2
    go_ret
    exact ⟨by rw [HEK.out]; rfl, Below.refl _ _⟩
  have k2' : ((ql : Int) == 0) = false := beq_eq_false_iff_ne.2 (by omega)
  have HE2 : Hid (E = if e1 ≠ 0 then e1 else e2) := by show _ = _; rw [HE.out, if_neg (by omega)]
  clear HE k1 k2
  go_enter Tryz.func97, Tryz.ntmps97
  go_upto_region 4 with (first | (go_at_call 102; refine HFI.out.mono ?_; rintro e w1 ⟨rfl, hb1⟩; have HB1 := hid_in hb1; clear hb1) | (refine Nd.wpList_store_new rfl rfl 63 4 _ _ rfl _ [Value.slice fp fn fc, .string ft, .bool fd, .string fx] info63 rfl (hid_in rfl) (spot_one _ _ _ _ _ _) rfl rfl ?_; intro w2 hr2 hb2 hs2; have HB2 := hid_in (HB1.out.trans (hb2.mono HB1.out.size)); clear hr2 hb2 hs2))
  by_cases k3 : e1 = 0
  · subst k3
    have HEK : Hid (E = e2) := by show _ = _; rw [HE2.out, if_neg (by simp)]
    go_wp2_with (first | (go_at_call 54; refine (HDO.out _ HB2.out).mono ?_; rintro e w3 ⟨v3, rfl, hv3, hb3⟩; have HV3 := hid_in hv3; have HB3 := hid_in (HB2.out.trans (hb3.mono HB2.out.size)); clear hv3 hb3) | (go_at_call 96; refine (HFD.out _ HB3.out _ HV3.out).mono ?_; rintro e w4 ⟨rfl, hb4⟩; have HB4 := hid_in (HB3.out.trans (hb4.mono HB3.out.size)); clear hb4) | (refine Nd.wpList_store_new rfl rfl 63 4 _ _ rfl _ [Value.slice dp dn dc, .string dt, .bool dd, .string dx] info63 rfl (hid_in rfl) (spot_one _ _ _ _ _ _) rfl rfl ?_; intro w5 hr5 hb5 hs5; have HB5 := hid_in (HB4.out.trans (hb5.mono HB4.out.size)); clear hr5 hb5 hs5))
    go_ret
    exact ⟨by rw [HEK.out]; rfl, HB5.out⟩
  · have k3' : (e1 != 0) = true := by simpa using k3
    have HEK : Hid (E = e1) := by show _ = _; rw [HE2.out, if_pos k3]
    clear k3
    go_wp2
    go_ret
    exact ⟨by rw [HEK.out]; rfl, HB2.out⟩
/-- whether one may come in the place of another -/
def covE (A : List Ent) (fd od : Bool) (q : List Str) : Int := if fd = false ∧ od = true then 71 else if fd = true ∧ od = false then 70 else if 0 < (A.filter (belowE q)).length then 130 else 0
set_option maxHeartbeats 4000000 in
set_option maxRecDepth 100000 in
theorem checkCover_any {w : World} {g m : Nat} {L : List Spot} (h : Fs w g m L) (hn : L.length ≤ 100000) (f o : Spot) (hf : Sf f) (ho : Val w o.v o.names) :
    Calls Tryz.prog 126 #[.pointer (some ⟨g, 0, none⟩), f.val, o.val] w fun e w' => e = .returned (.int .i64 (covE (L.map Spot.ent) f.dir o.dir o.names)) ∧ Below w.heap.size w w' := by
  obtain ⟨fv, fnm, ft, fd, fx⟩ := f
  obtain ⟨fp, fn, fc, hfv⟩ := hf
  simp only at hfv
  subst hfv
  obtain ⟨ov, onm, ot, od, ox⟩ := o
  simp only at ho
  obtain ⟨op, oc, rfl⟩ : ∃ a c, ov = .slice a onm.length c := by obtain ⟨a, c, e, _⟩ := ho; exact ⟨a, c, e⟩
  simp only [Spot.val]
  obtain ⟨WA, HWA⟩ : ∃ WA, Hid ((w.alloc (.cells #[.slice fp fn fc, .string ft, .bool fd, .string fx] 63)).alloc (.cells #[.slice op onm.length oc, .string ot, .bool od, .string ox] 63) = WA) := ⟨_, hid_in rfl⟩
  have HBA : Hid (Below w.heap.size w WA) := by rw [← HWA.out]; exact ((Below.refl _ _).alloc (Nat.le_refl _) _).alloc (by simp) _
  have hr1 : Row WA w.heap.size [.slice fp fn fc, .string ft, .bool fd, .string fx] 63 := by rw [← HWA.out]; exact (Row.new w [.slice fp fn fc, .string ft, .bool fd, .string fx] 63).alloc _
  have hr2 : Row WA (w.heap.size + 1) [.slice op onm.length oc, .string ot, .bool od, .string ox] 63 := by rw [← HWA.out]; exact Row.newAt (w.alloc _) (w.heap.size + 1) [.slice op onm.length oc, .string ot, .bool od, .string ox] 63 (by simp)
  obtain ⟨⟨a0, a1, a2, a3⟩, -⟩ := spot_cells hr1 (Below.refl _ WA)
  obtain ⟨⟨b0, b1, b2, b3⟩, -⟩ := spot_cells hr2 (Below.refl _ WA)
  have HBL := hid_in (below_any (h.below HBA.out) (ho.below HBA.out) hn)
  have HE : Hid (covE (L.map Spot.ent) fd od onm = if fd = false ∧ od = true then 71 else if fd = true ∧ od = false then 70 else if 0 < (L.filter (belowB onm)).length then 130 else 0) := by
    show _ = _
    unfold covE
    rw [← belowB_ent, List.length_map]
  generalize covE (L.map Spot.ent) fd od onm = E at *
  generalize onm.length = nl at *
  generalize L.filter (belowB onm) = F at *
  clear h ho hr1 hr2
  cases fd <;> cases od
  case false.true =>
    go_enter Tryz.func126, Tryz.ntmps126
    go_upto_region 1 with fail
    refine wp_world HWA.out ?_
    go_wp2
    go_ret
    exact ⟨by rw [HE.out]; rfl, HBA.out⟩
  case true.false =>
    go_enter Tryz.func126, Tryz.ntmps126
    go_upto_region 1 with fail
    refine wp_world HWA.out ?_
    go_wp2
    go_ret
    exact ⟨by rw [HE.out]; rfl, HBA.out⟩
  all_goals
    go_enter Tryz.func126, Tryz.ntmps126
    go_upto_region 1 with fail
    refine wp_world HWA.out ?_
    by_cases hpos : 0 < F.length
    · have HEK : Hid (E = 130) := by show _ = _; rw [HE.out, if_neg (by simp), if_neg (by simp), if_pos hpos]
      have HPOS := hid_in hpos
      clear hpos
      go_wp2_with (first | (go_at_call 42; refine HBL.out.mono ?_; rintro e w4 ⟨v4, ps, rfl, hs4, hp4, hb4⟩; obtain ⟨p4, c4, rfl⟩ := hs4.form; have HB4 := hid_in (HBA.out.trans (hb4.mono HBA.out.size)); have jp : (0 : Int) < (ps.length : Int) := (by rw [hp4.length_eq]; have := HPOS.out; omega); clear hs4 hp4 hb4))
      go_ret
      exact ⟨by rw [HEK.out]; rfl, HB4.out⟩
    · have HEK : Hid (E = 0) := by show _ = _; rw [HE.out, if_neg (by simp), if_neg (by simp), if_neg hpos]
      have HPOS := hid_in hpos
      clear hpos
      go_wp2_with (first | (go_at_call 42; refine HBL.out.mono ?_; rintro e w4 ⟨v4, ps, rfl, hs4, hp4, hb4⟩; obtain ⟨p4, c4, rfl⟩ := hs4.form; have HB4 := hid_in (HBA.out.trans (hb4.mono HBA.out.size)); have jp : ¬ ((0 : Int) < (ps.length : Int)) := (by rw [hp4.length_eq]; have := HPOS.out; omega); clear hs4 hp4 hb4))
      go_ret
      exact ⟨by rw [HEK.out]; rfl, HB4.out⟩
end Go.Proofs.YtngehkmdanhgpaaGreat.Pl
