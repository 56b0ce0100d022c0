/-
  The walks of mkdir, create; write. The walk of read.
-/
import Derived.Lib.SlBytesConst
import Derived.Laws.CopyOwn
import Derived.Deep.RegionLaw
import Derived.Deep.DrawnRows
import Derived.Lib.AppendZeros
import Derived.Laws.Tables
import Derived.Test.YtngehkmdanhgpaaGreatQ00
import Derived.Test.YtngehkmdanhgpaaGreatQ01
import Derived.Test.YtngehkmdanhgpaaGreatQ02
import Derived.Test.YtngehkmdanhgpaaGreatQ03
import Derived.Test.YtngehkmdanhgpaaGreatQ04
import Derived.Test.YtngehkmdanhgpaaGreatQ05
import Derived.Test.YtngehkmdanhgpaaGreatQ06
import Derived.Test.YtngehkmdanhgpaaGreatQ07
import Derived.Test.YtngehkmdanhgpaaGreatQ08
import Derived.Test.YtngehkmdanhgpaaGreatQ09
import Derived.Test.YtngehkmdanhgpaaGreatQ10
import Derived.Test.YtngehkmdanhgpaaGreatQ11
import Derived.Test.YtngehkmdanhgpaaGreatQ12
import Derived.Test.YtngehkmdanhgpaaGreatQ13
import Derived.Test.YtngehkmdanhgpaaGreatQ14
import Derived.Test.YtngehkmdanhgpaaGreatQ15
import Derived.Test.YtngehkmdanhgpaaGreatQ16
import Derived.Test.YtngehkmdanhgpaaGreatQ17
namespace Go.Proofs.YtngehkmdanhgpaaGreat.Pl
open Go.RowKit
open Vp (Str B bl Val cmpL parseS showS splitS withinS IsPath)
open Nd (Row wp_world post_Row post_Row2 grownBy_setCell below_of_grown)
/-- the operation in its box, and a result without anything -/
theorem op_box (w : World) (k a z : Int) (p t d : ByteArray) : ∃ w2, Hid ((w.alloc (.cells #[.int .i64 k, .string p, .string t, .string d, .int .i64 a, .int .i64 z] 40)).alloc (.cells #[.int .i64 0, .bool false, .int .i64 0, .string ⟨#[]⟩, .slice none 0 0] 37) = w2) ∧ Hid (Row w2 w.heap.size [.int .i64 k, .string p, .string t, .string d, .int .i64 a, .int .i64 z] 40) ∧ Hid (Row w2 (w.heap.size + 1) [.int .i64 0, .bool false, .int .i64 0, .string ⟨#[]⟩, .slice none 0 0] 37) ∧ Hid (Below w.heap.size w w2) :=
  ⟨_, rfl, (Row.new w [.int .i64 k, .string p, .string t, .string d, .int .i64 a, .int .i64 z] 40).alloc _, Row.newAt (w.alloc _) (w.heap.size + 1) [.int .i64 0, .bool false, .int .i64 0, .string ⟨#[]⟩, .slice none 0 0] 37 (by simp), ((Below.refl _ _).alloc (Nat.le_refl _) _).alloc (by simp) _⟩
theorem Fs.ne1 {w : World} {g m : Nat} {L : List Spot} (h : Fs w g m L) : w.heap.size + 1 ≠ g := by have := h.row.lt; omega
set_option maxHeartbeats 4000000 in
set_option maxRecDepth 100000 in
theorem create_any {w : World} {g m : Nat} {L : List Spot} (h : Fs w g m L) (k a z : Int) (p t d : ByteArray) (hp : p.size ≤ 9223372036854775807) :
    Calls Tryz.prog 64 #[.pointer (some ⟨g, 0, none⟩), .agg #[.int .i64 k, .string p, .string t, .string d, .int .i64 a, .int .i64 z]] w fun e w' => e = .returned (Res.err (addE (L.map Spot.ent) (nmsOf p))).val ∧ (∃ L', Fs w' g m L' ∧ L'.map Spot.ent = addA (L.map Spot.ent) (nmsOf p) false) ∧ w.grownBy w' (some m) := by
  obtain ⟨WA, HWA, HRO, HRA, HBA⟩ := op_box w k a z p t d
  have H := hid_in h
  have HG := hid_in h.ne1
  have HNO := hid_in (fun W => namesOf_any p hp W)
  have HADD := hid_in (fun W (kb : Below w.heap.size w W) v (hv : Rf.Nm W v (nmsOf p)) => add_any (h.below kb) hv (gp_nms p) false)
  have c1 : WA.cell? ⟨w.heap.size, 1, none⟩ = some (.string p) := HRO.out.cell 1
  generalize addE (L.map Spot.ent) (nmsOf p) = E at *
  generalize addA (L.map Spot.ent) (nmsOf p) false = A' at *
  simp only [Res.err, Res.val] at HADD ⊢
  clear h
  go_enter Tryz.func64, Tryz.ntmps64
  go_upto_region 1 with fail
  refine wp_world HWA.out ?_
  go_wp2_with (first | (go_at_call 92; refine (HNO.out _).mono ?_; rintro e w1 ⟨v1, rfl, hv1, hb1⟩; have HV1 := hid_in hv1; have HC1 := hid_in hb1; have HB1 := hid_in (HBA.out.trans (hb1.mono HBA.out.size)); clear hv1 hb1) | (go_at_call 91; refine (HADD.out _ HB1.out _ HV1.out).mono ?_; rintro e w2 ⟨rfl, ⟨L2, hf2, ha2⟩, hg2⟩; have hr2 := Row.map (HRA.out.below HC1.out HRA.out.lt) (H.out.below HB1.out).map hg2; obtain ⟨⟨g0, g1, g2, g3, g4⟩, q0, q1, q2, q3, q4⟩ := res_cells hr2 (Below.refl _ w2); have HR2 := hid_in hr2; have HF2 := hid_in hf2; have HA2 := hid_in ha2; have HG2 := hid_in (grown_plus HB1.out hg2); clear hf2 ha2 hg2 hr2))
  exact post_Row 4 37 rfl (w.heap.size + 1) rfl 37 [.int .i64 E, .bool false, .int .i64 0, .string ⟨#[]⟩, .slice none 0 0] (set5_row HR2.out rfl _ _ _ _ _) _ Tryz.underlying37 rfl 5 info37 rfl rfl ⟨rfl, ⟨_, HF2.out.set5 HR2.out (by decide) HG.out _ _ _ _ _, HA2.out⟩, grown_set5 HG2.out (Nat.le_succ _) _ _ _ _ _⟩
def Small (A : List Ent) : Prop := ∀ e ∈ A, e.data.size ≤ 1024
theorem findF_ok {L : List Spot} {xs : List Str} {t : Spot} (h : findF L xs = (t, 0)) : spotAt L xs = some t ∧ t.names = xs ∧ t.dir = false := by
  unfold findF at h
  split at h
  · cases h
  · rename_i hc
    have h1 := findP_at h
    refine ⟨h1, ?_, ?_⟩
    · have := List.find?_some h1
      exact of_decide_eq_true this
    · rw [h] at hc
      simpa using hc
theorem spot_small {L : List Spot} (hs : Small (L.map Spot.ent)) {xs : List Str} {t : Spot} (h : spotAt L xs = some t) : t.data.size ≤ 1024 := hs t.ent (List.mem_map.2 ⟨t, List.mem_of_find?_eq_some h, rfl⟩)
def wrD (old d : ByteArray) (a : Nat) : ByteArray := old.extract 0 a ++ d ++ old.extract (min (a + d.size) old.size) old.size
theorem wrD_size (old d : ByteArray) (a : Nat) (h : a ≤ old.size) : (wrD old d a).size = max (a + d.size) old.size := by
  unfold wrD
  simp only [ByteArray.size_append, ByteArray.size_extract]
  omega
def wrE (A : List Ent) (xs : List Str) (a : Nat) (d : ByteArray) : Int := if (findFA A xs).2 ≠ 0 then (findFA A xs).2 else if (findFA A xs).1.data.size < a then 133 else if 1024 < a + d.size then 134 else 0
def wrS (A : List Ent) (xs : List Str) (a : Nat) (d : ByteArray) : Int := if wrE A xs a d = 0 then ((wrD (findFA A xs).1.data d a).size : Int) else 0
def wrA (A : List Ent) (xs : List Str) (a : Nat) (d : ByteArray) : List Ent := if wrE A xs a d = 0 then putA A ⟨xs, false, wrD (findFA A xs).1.data d a⟩ else A
/-- an error is answered -/
theorem post_err {w W : World} {g m : Nat} {L : List Spot} {fn : Func} {a : Act} (H : Fs w g m L) (hr : Row W (w.heap.size + 1) [.int .i64 0, .bool false, .int .i64 0, .string ⟨#[]⟩, .slice none 0 0] 37) (hB : Below w.heap.size w W) (k : Int) (R : Ending → World → Prop) (hf : fn.results = #[.cell 4 37]) (hp : a.tmps.getD 4 undef = .pointer (some ⟨w.heap.size + 1, 0, none⟩)) (hdf : a.defers = [])
    (h : ∀ W', Fs W' g m L → w.grownBy W' (some m) → R (.returned (Res.err k).val) W') :
    bodyPost Tryz.prog fn R .ret a (((((W.setCell ⟨w.heap.size + 1, 0, none⟩ (.int .i64 k)).setCell ⟨w.heap.size + 1, 1, none⟩ (.bool false)).setCell ⟨w.heap.size + 1, 2, none⟩ (.int .i64 0)).setCell ⟨w.heap.size + 1, 3, none⟩ (.string ⟨#[]⟩)).setCell ⟨w.heap.size + 1, 4, none⟩ (.slice none 0 0)) :=
  post_Row 4 37 hf (w.heap.size + 1) hp 37 [.int .i64 k, .bool false, .int .i64 0, .string ⟨#[]⟩, .slice none 0 0] (set5_row hr rfl _ _ _ _ _) _ Tryz.underlying37 rfl 5 info37 rfl hdf (h _ ((H.below hB).set5 hr (by decide) H.ne1 _ _ _ _ _) (grown_set5 (below_but m hB) (Nat.le_succ _) _ _ _ _ _))
set_option maxHeartbeats 4000000 in
set_option maxRecDepth 100000 in
theorem write_any {w : World} {g m : Nat} {L : List Spot} (h : Fs w g m L) (hsm : Small (L.map Spot.ent)) (k z : Int) (a : Nat) (p t d : ByteArray) (hp : p.size ≤ 9223372036854775807) (ha : a ≤ 1024) (hd : d.size ≤ 1024) :
    Calls Tryz.prog 65 #[.pointer (some ⟨g, 0, none⟩), .agg #[.int .i64 k, .string p, .string t, .string d, .int .i64 (a : Int), .int .i64 z]] w fun e w' => e = .returned (Res.val ⟨wrE (L.map Spot.ent) (nmsOf p) a d, false, wrS (L.map Spot.ent) (nmsOf p) a d, ⟨#[]⟩, .slice none 0 0⟩) ∧ (∃ L', Fs w' g m L' ∧ L'.map Spot.ent = wrA (L.map Spot.ent) (nmsOf p) a d) ∧ w.grownBy w' (some m) := by
  obtain ⟨WA, HWA, HRO, HRA, HBA⟩ := op_box w k a z p t d
  have H := hid_in h
  have HG := hid_in h.ne1
  have HFF := hid_in (fun W (kb : Below w.heap.size w W) => findFile_any (h.below kb) p hp)
  have c1 : WA.cell? ⟨w.heap.size, 1, none⟩ = some (.string p) := HRO.out.cell 1
  obtain ⟨qp, qn, qc, hsv⟩ := findF_sf h.map (nmsOf p)
  obtain ⟨hfe, hfx⟩ := findF_ent L (nmsOf p)
  have HE : Hid (wrE (L.map Spot.ent) (nmsOf p) a d = if (findF L (nmsOf p)).2 ≠ 0 then (findF L (nmsOf p)).2 else if (findF L (nmsOf p)).1.data.size < a then 133 else if 1024 < a + d.size then 134 else 0) := by
    show _ = _
    unfold wrE
    rw [← hfe, ← hfx]; rfl
  have HS : Hid (wrS (L.map Spot.ent) (nmsOf p) a d = if wrE (L.map Spot.ent) (nmsOf p) a d = 0 then ((wrD (findF L (nmsOf p)).1.data d a).size : Int) else 0) := by
    show _ = _
    unfold wrS
    rw [← hfx]; rfl
  have HA : Hid (wrA (L.map Spot.ent) (nmsOf p) a d = if wrE (L.map Spot.ent) (nmsOf p) a d = 0 then putA (L.map Spot.ent) ⟨nmsOf p, false, wrD (findF L (nmsOf p)).1.data d a⟩ else L.map Spot.ent) := by
    show _ = _
    unfold wrA
    rw [← hfx]; rfl
  have HOK := hid_in (fun t (e : findF L (nmsOf p) = (t, 0)) => findF_ok e)
  have HSM := hid_in hsm
  generalize wrE (L.map Spot.ent) (nmsOf p) a d = E at *
  generalize wrS (L.map Spot.ent) (nmsOf p) a d = S at *
  generalize wrA (L.map Spot.ent) (nmsOf p) a d = A' at *
  generalize findF L (nmsOf p) = r at *
  obtain ⟨⟨sv, sn, sp, sd, sx⟩, e0⟩ := r
  simp only at hsv HE HS HA
  subst hsv
  simp only [Spot.val, Res.val] at HFF ⊢
  have HC4 : Hid ([Value.slice qp qn qc, .string sp, .bool sd, .string sx].length = 4) := rfl
  have HO4 : Hid (∀ v ∈ [Value.slice qp qn qc, .string sp, .bool sd, .string sx], v.oneCell' = true) := by
    intro v hv
    simp only [List.mem_cons, List.not_mem_nil, or_false] at hv
    rcases hv with rfl | rfl | rfl | rfl <;> rfl
  have HREF := hid_in (fun k W => refuse_any k W)
  simp only [Res.err, Res.val] at HREF
  clear h hfe hfx hsm
  go_enter Tryz.func65, Tryz.ntmps65
  go_upto_region 1 with fail
  refine wp_world HWA.out ?_
  go_upto_region 2 with (first | (go_at_call 93; refine (HFF.out _ HBA.out).mono ?_; rintro e w2 ⟨rfl, hb2⟩; have HC2 := hid_in hb2; clear hb2) | (refine Nd.wpList_store_new rfl rfl 63 4 _ _ rfl _ [Value.slice qp qn qc, .string sp, .bool sd, .string sx] info63 rfl HC4 HO4 rfl rfl ?_; intro w3 hr3 hb3 hs3; have HR3 := hid_in hr3; have HC3 := hid_in (HC2.out.trans (hb3.mono HC2.out.size)); clear hr3 hb3 hs3))
  have HB3 := hid_in (HBA.out.trans (HC3.out.mono HBA.out.size))
  have HRO3 := hid_in (HRO.out.below HC3.out HRO.out.lt)
  have HRA3 := hid_in (HRA.out.below HC3.out HRA.out.lt)
  obtain ⟨⟨s0, s1, s2, s3⟩, -⟩ := spot_cells HR3.out (Below.refl _ w3)
  have o1 : w3.cell? ⟨w.heap.size, 1, none⟩ = some (.string p) := HRO3.out.cell 1
  have o3 : w3.cell? ⟨w.heap.size, 3, none⟩ = some (.string d) := HRO3.out.cell 3
  have o4 : w3.cell? ⟨w.heap.size, 4, none⟩ = some (.int .i64 (a : Int)) := HRO3.out.cell 4
  have HERR := hid_in (fun W (kb : Below w3.heap.size w3 W) => And.intro (res_cells HRA3.out kb) (And.intro (HRA3.out.below kb HRA3.out.lt) (HB3.out.trans (kb.mono HB3.out.size))))
  by_cases hk : e0 = 0
  · subst hk
    obtain ⟨hok, hnm, hdr⟩ := HOK.out _ rfl
    simp only at hnm hdr
    have hsz : sx.size ≤ 1024 := spot_small HSM.out hok
    have HNM := hid_in (H.out.map.nms _ (List.mem_of_find?_eq_some hok))
    simp only at HNM
    rw [hnm] at HNM
    clear hok hnm HOK
    by_cases h1 : a ≤ sx.size
    · have j1 : ¬ ((sx.size : Int) < (a : Int)) := by omega
      by_cases h2 : a + d.size ≤ 1024
      · have j2 : ¬ ((1024 : Int) < (a : Int) + (d.size : Int)) := by omega
        have HEK : Hid (E = 0) := by show _ = _; rw [HE.out, if_neg (by simp), if_neg (by omega), if_neg (by omega)]
        have HX2 : Hid ((wrD sx d a).size = max (a + d.size) sx.size) := wrD_size sx d a h1
        have hA1 := str_add (sx.extract 0 a) d (by rw [ByteArray.size_extract]; omega)
        by_cases h3 : a + d.size ≤ sx.size
        · have hm1 := min_le ((a : Int) + (d.size : Int)) (sx.size : Int) (by omega) 3
          have hs1 := str_from sx ((a : Int) + (d.size : Int)) (by omega) (by omega)
          have ht : ((a : Int) + (d.size : Int)).toNat = a + d.size := by omega
          rw [ht] at hs1
          have hA2 := str_add (sx.extract 0 a ++ d) (sx.extract (a + d.size) sx.size) (by simp only [ByteArray.size_append, ByteArray.size_extract]; omega)
          have HWD : Hid (sx.extract 0 a ++ d ++ sx.extract (a + d.size) sx.size = wrD sx d a) := by
            show _ = _
            unfold wrD
            rw [Nat.min_eq_left h3]
          rw [HWD.out] at hA2
          have HPUT := hid_in (fun W (k : Below w.heap.size w W) => put_any (H.out.below k) (HNM.out.below k) (gp_nms p) false (wrD sx d a))
          clear ht
          go_wp2
          go_quiet (fail)
          go_wp2
          go_quiet (fail)
          rw [HWD.out]
          obtain ⟨D, HD⟩ : ∃ D, Hid (wrD sx d a = D) := ⟨_, hid_in rfl⟩
          rw [HD.out] at HPUT HX2 HS HA ⊢
          clear hA2 hA1 HWD hs1 hm1
          go_wp2_with (first | (go_at_call 25; refine (HPUT.out _ (below_drewN HB3.out _)).mono ?_; rintro e w5 ⟨rfl, hf5, hg5⟩; have hr5 := Row.map (show Row (w3.drewN _) (w.heap.size + 1) _ 37 from HRA3.out) (H.out.below (below_drewN HB3.out _)).map hg5; obtain ⟨⟨g0, g1, g2, g3, g4⟩, q0, q1, q2, q3, q4⟩ := res_cells hr5 (Below.refl _ w5); have HR5 := hid_in hr5; have HF5 := hid_in hf5; have HG5 := hid_in (grown_plus (below_drewN HB3.out _) hg5); clear hf5 hg5 hr5))
          refine post_Row 4 37 rfl (w.heap.size + 1) rfl 37 [.int .i64 0, .bool false, .int .i64 (D.size : Int), .string ⟨#[]⟩, .slice none 0 0] (set5_row HR5.out rfl _ _ _ _ _) _ Tryz.underlying37 rfl 5 info37 rfl rfl ⟨?_, ⟨_, HF5.out.set5 HR5.out (by decide) HG.out _ _ _ _ _, ?_⟩, grown_set5 HG5.out (Nat.le_succ _) _ _ _ _ _⟩
          · rw [HS.out, HEK.out, if_pos rfl]
          · rw [HA.out, HEK.out, if_pos rfl, putP_ent]; rfl
        · have hm1 := min_gt ((a : Int) + (d.size : Int)) (sx.size : Int) (by omega) 3
          have hs1 := str_from sx (sx.size : Int) (by omega) (by omega)
          have ht : (sx.size : Int).toNat = sx.size := by omega
          rw [ht] at hs1
          have hA2 := str_add (sx.extract 0 a ++ d) (sx.extract sx.size sx.size) (by simp only [ByteArray.size_append, ByteArray.size_extract]; omega)
          have HWD : Hid (sx.extract 0 a ++ d = wrD sx d a) := by
            show _ = _
            unfold wrD
            rw [Nat.min_eq_right (by omega)]
            simp
          have HPUT := hid_in (fun W (k : Below w.heap.size w W) => put_any (H.out.below k) (HNM.out.below k) (gp_nms p) false (wrD sx d a))
          clear ht
          go_wp2
          go_quiet (fail)
          go_wp2
          go_quiet (fail)
          rw [HWD.out]
          obtain ⟨D, HD⟩ : ∃ D, Hid (wrD sx d a = D) := ⟨_, hid_in rfl⟩
          rw [HD.out] at HPUT HX2 HS HA ⊢
          clear hA2 hA1 HWD hs1 hm1
          go_wp2_with (first | (go_at_call 25; refine (HPUT.out _ (below_drewN HB3.out _)).mono ?_; rintro e w5 ⟨rfl, hf5, hg5⟩; have hr5 := Row.map (show Row (w3.drewN _) (w.heap.size + 1) _ 37 from HRA3.out) (H.out.below (below_drewN HB3.out _)).map hg5; obtain ⟨⟨g0, g1, g2, g3, g4⟩, q0, q1, q2, q3, q4⟩ := res_cells hr5 (Below.refl _ w5); have HR5 := hid_in hr5; have HF5 := hid_in hf5; have HG5 := hid_in (grown_plus (below_drewN HB3.out _) hg5); clear hf5 hg5 hr5))
          refine post_Row 4 37 rfl (w.heap.size + 1) rfl 37 [.int .i64 0, .bool false, .int .i64 (D.size : Int), .string ⟨#[]⟩, .slice none 0 0] (set5_row HR5.out rfl _ _ _ _ _) _ Tryz.underlying37 rfl 5 info37 rfl rfl ⟨?_, ⟨_, HF5.out.set5 HR5.out (by decide) HG.out _ _ _ _ _, ?_⟩, grown_set5 HG5.out (Nat.le_succ _) _ _ _ _ _⟩
          · rw [HS.out, HEK.out, if_pos rfl]
          · rw [HA.out, HEK.out, if_pos rfl, putP_ent]; rfl
      · have j2 : (1024 : Int) < (a : Int) + (d.size : Int) := by omega
        have HEK : Hid (E = 134) := by show _ = _; rw [HE.out, if_neg (by simp), if_neg (by omega), if_pos (by omega)]
        go_wp2
        go_quiet (fail)
        go_wp2_with (first | (go_at_call 30; refine (HREF.out _ _).mono ?_; rintro e w5 ⟨rfl, hb5⟩; obtain ⟨⟨⟨g0, g1, g2, g3, g4⟩, q0, q1, q2, q3, q4⟩, hr5, hb5'⟩ := HERR.out _ ((below_drewN (Below.refl _ w3) nq).trans hb5); have HR5 := hid_in hr5; have HB5 := hid_in hb5'; clear hb5 hr5 hb5'))
        refine post_err H.out HR5.out HB5.out 134 _ rfl rfl rfl fun W' hf hg => ⟨?_, ⟨L, hf, ?_⟩, hg⟩
        · rw [HS.out, HEK.out, if_neg (by decide)]; rfl
        · rw [HA.out, HEK.out, if_neg (by decide)]
    · have j1 : (sx.size : Int) < (a : Int) := by omega
      have HEK : Hid (E = 133) := by show _ = _; rw [HE.out, if_neg (by simp), if_pos (by omega)]
      go_wp2
      go_quiet (fail)
      go_wp2_with (first | (go_at_call 30; refine (HREF.out _ _).mono ?_; rintro e w5 ⟨rfl, hb5⟩; obtain ⟨⟨⟨g0, g1, g2, g3, g4⟩, q0, q1, q2, q3, q4⟩, hr5, hb5'⟩ := HERR.out _ ((below_drewN (Below.refl _ w3) nq).trans hb5); have HR5 := hid_in hr5; have HB5 := hid_in hb5'; clear hb5 hr5 hb5'))
      refine post_err H.out HR5.out HB5.out 133 _ rfl rfl rfl fun W' hf hg => ⟨?_, ⟨L, hf, ?_⟩, hg⟩
      · rw [HS.out, HEK.out, if_neg (by decide)]; rfl
      · rw [HA.out, HEK.out, if_neg (by decide)]
  · have hk2 : (e0 != 0) = true := by simpa using hk
    have HEK : Hid (E = e0) := by show _ = _; rw [HE.out, if_pos hk]
    have HK0 := hid_in hk
    clear hk
    go_wp2_with (first | (go_at_call 30; refine (HREF.out _ _).mono ?_; rintro e w5 ⟨rfl, hb5⟩; obtain ⟨⟨⟨g0, g1, g2, g3, g4⟩, q0, q1, q2, q3, q4⟩, hr5, hb5'⟩ := HERR.out _ hb5; have HR5 := hid_in hr5; have HB5 := hid_in hb5'; clear hb5 hr5 hb5'))
    refine post_err H.out HR5.out HB5.out e0 _ rfl rfl rfl fun W' hf hg => ⟨?_, ⟨L, hf, ?_⟩, hg⟩
    · rw [HS.out, HEK.out, if_neg HK0.out]; rfl
    · rw [HA.out, HEK.out, if_neg HK0.out]
end Go.Proofs.YtngehkmdanhgpaaGreat.Pl
namespace Go.Proofs.YtngehkmdanhgpaaGreat.Pl
open Go.RowKit
open Vp (Str B bl Val cmpL parseS showS splitS withinS IsPath)
open Nd (Row wp_world post_Row post_Row2 grownBy_setCell below_of_grown)
def rdD (old : ByteArray) (a z : Nat) : ByteArray := old.extract a (min (a + z) old.size)
def rdE (A : List Ent) (xs : List Str) (a : Nat) : Int := if (findFA A xs).2 ≠ 0 then (findFA A xs).2 else if (findFA A xs).1.data.size < a then 133 else 0
def rdS (A : List Ent) (xs : List Str) (a : Nat) : Int := if rdE A xs a = 0 then ((findFA A xs).1.data.size : Int) else 0
def rdB (A : List Ent) (xs : List Str) (a z : Nat) : ByteArray := if rdE A xs a = 0 then rdD (findFA A xs).1.data a z else ⟨#[]⟩
/-- a result is answered -/
theorem post_res {w W : World} {g m : Nat} {L : List Spot} {fn : Func} {a : Act} (H : Fs w g m L) (hr : Row W (w.heap.size + 1) [.int .i64 0, .bool false, .int .i64 0, .string ⟨#[]⟩, .slice none 0 0] 37) (hB : Below w.heap.size w W) (k z : Int) (b : Bool) (x : ByteArray) (v : Value) (R : Ending → World → Prop) (hf : fn.results = #[.cell 4 37]) (hp : a.tmps.getD 4 undef = .pointer (some ⟨w.heap.size + 1, 0, none⟩)) (hdf : a.defers = [])
    (h : ∀ W', W' = ((((W.setCell ⟨w.heap.size + 1, 0, none⟩ (.int .i64 k)).setCell ⟨w.heap.size + 1, 1, none⟩ (.bool b)).setCell ⟨w.heap.size + 1, 2, none⟩ (.int .i64 z)).setCell ⟨w.heap.size + 1, 3, none⟩ (.string x)).setCell ⟨w.heap.size + 1, 4, none⟩ v → Fs W' g m L → Below w.heap.size w W' → R (.returned (Res.val ⟨k, b, z, x, v⟩)) W') :
    bodyPost Tryz.prog fn R .ret a (((((W.setCell ⟨w.heap.size + 1, 0, none⟩ (.int .i64 k)).setCell ⟨w.heap.size + 1, 1, none⟩ (.bool b)).setCell ⟨w.heap.size + 1, 2, none⟩ (.int .i64 z)).setCell ⟨w.heap.size + 1, 3, none⟩ (.string x)).setCell ⟨w.heap.size + 1, 4, none⟩ v) :=
  post_Row 4 37 hf (w.heap.size + 1) hp 37 [.int .i64 k, .bool b, .int .i64 z, .string x, v] (set5_row hr rfl _ _ _ _ _) _ Tryz.underlying37 rfl 5 info37 rfl hdf (h _ rfl ((H.below hB).set5 hr (by decide) H.ne1 _ _ _ _ _) (set5_below hB (Nat.le_succ _) _ _ _ _ _))
set_option maxHeartbeats 4000000 in
set_option maxRecDepth 100000 in
theorem read_any {w : World} {g m : Nat} {L : List Spot} (h : Fs w g m L) (k : Int) (a z : Nat) (p t d : ByteArray) (hp : p.size ≤ 9223372036854775807) (ha : a ≤ 1024) (hz : z ≤ 1024) :
    Calls Tryz.prog 70 #[.pointer (some ⟨g, 0, none⟩), .agg #[.int .i64 k, .string p, .string t, .string d, .int .i64 (a : Int), .int .i64 (z : Int)]] w fun e w' => e = .returned (Res.val ⟨rdE (L.map Spot.ent) (nmsOf p) a, false, rdS (L.map Spot.ent) (nmsOf p) a, rdB (L.map Spot.ent) (nmsOf p) a z, .slice none 0 0⟩) ∧ Fs w' g m L ∧ Below w.heap.size w w' := by
  obtain ⟨WA, HWA, HRO, HRA, HBA⟩ := op_box w k a z p t d
  have H := hid_in h
  have HFF := hid_in (fun W (kb : Below w.heap.size w W) => findFile_any (h.below kb) p hp)
  have c1 : WA.cell? ⟨w.heap.size, 1, none⟩ = some (.string p) := HRO.out.cell 1
  obtain ⟨qp, qn, qc, hsv⟩ := findF_sf h.map (nmsOf p)
  obtain ⟨hfe, hfx⟩ := findF_ent L (nmsOf p)
  have HE : Hid (rdE (L.map Spot.ent) (nmsOf p) a = if (findF L (nmsOf p)).2 ≠ 0 then (findF L (nmsOf p)).2 else if (findF L (nmsOf p)).1.data.size < a then 133 else 0) := by
    show _ = _
    unfold rdE
    rw [← hfe, ← hfx]; rfl
  have HS : Hid (rdS (L.map Spot.ent) (nmsOf p) a = if rdE (L.map Spot.ent) (nmsOf p) a = 0 then ((findF L (nmsOf p)).1.data.size : Int) else 0) := by
    show _ = _
    unfold rdS
    rw [← hfx]; rfl
  have HD : Hid (rdB (L.map Spot.ent) (nmsOf p) a z = if rdE (L.map Spot.ent) (nmsOf p) a = 0 then rdD (findF L (nmsOf p)).1.data a z else ⟨#[]⟩) := by
    show _ = _
    unfold rdB
    rw [← hfx]; rfl
  generalize rdE (L.map Spot.ent) (nmsOf p) a = E at *
  generalize rdS (L.map Spot.ent) (nmsOf p) a = S at *
  generalize rdB (L.map Spot.ent) (nmsOf p) a z = D at *
  generalize findF L (nmsOf p) = r at *
  obtain ⟨⟨sv, sn, sp, sd, sx⟩, e0⟩ := r
  simp only at hsv HE HS HD
  subst hsv
  simp only [Spot.val, Res.val] at HFF ⊢
  have HC4 : Hid ([Value.slice qp qn qc, .string sp, .bool sd, .string sx].length = 4) := rfl
  have HO4 : Hid (∀ v ∈ [Value.slice qp qn qc, .string sp, .bool sd, .string sx], v.oneCell' = true) := by
    intro v hv
    simp only [List.mem_cons, List.not_mem_nil, or_false] at hv
    rcases hv with rfl | rfl | rfl | rfl <;> rfl
  have HREF := hid_in (fun k W => refuse_any k W)
  simp only [Res.err, Res.val] at HREF
  clear h hfe hfx
  go_enter Tryz.func70, Tryz.ntmps70
  go_upto_region 1 with fail
  refine wp_world HWA.out ?_
  go_upto_region 2 with (first | (go_at_call 93; refine (HFF.out _ HBA.out).mono ?_; rintro e w2 ⟨rfl, hb2⟩; have HC2 := hid_in hb2; clear hb2) | (refine Nd.wpList_store_new rfl rfl 63 4 _ _ rfl _ [Value.slice qp qn qc, .string sp, .bool sd, .string sx] info63 rfl HC4 HO4 rfl rfl ?_; intro w3 hr3 hb3 hs3; have HR3 := hid_in hr3; have HC3 := hid_in (HC2.out.trans (hb3.mono HC2.out.size)); clear hr3 hb3 hs3))
  have HB3 := hid_in (HBA.out.trans (HC3.out.mono HBA.out.size))
  have HRO3 := hid_in (HRO.out.below HC3.out HRO.out.lt)
  have HRA3 := hid_in (HRA.out.below HC3.out HRA.out.lt)
  obtain ⟨⟨s0, s1, s2, s3⟩, -⟩ := spot_cells HR3.out (Below.refl _ w3)
  have o4 : w3.cell? ⟨w.heap.size, 4, none⟩ = some (.int .i64 (a : Int)) := HRO3.out.cell 4
  have o5 : w3.cell? ⟨w.heap.size, 5, none⟩ = some (.int .i64 (z : Int)) := HRO3.out.cell 5
  have HERR := hid_in (fun W (kb : Below w3.heap.size w3 W) => And.intro (res_cells HRA3.out kb) (And.intro (HRA3.out.below kb HRA3.out.lt) (HB3.out.trans (kb.mono HB3.out.size))))
  by_cases hk : e0 = 0
  · subst hk
    by_cases h1 : a ≤ sx.size
    · have j1 : ¬ ((sx.size : Int) < (a : Int)) := by omega
      have HEK : Hid (E = 0) := by show _ = _; rw [HE.out, if_neg (by simp), if_neg (by omega)]
      obtain ⟨⟨g0, g1, g2, g3, g4⟩, q0, q1, q2, q3, q4⟩ := res_cells HRA3.out (Below.refl _ w3)
      by_cases h3 : a + z ≤ sx.size
      · have hm1 := min_le ((a : Int) + (z : Int)) (sx.size : Int) (by omega) 3
        have hs1 := str_mid sx (a : Int) ((a : Int) + (z : Int)) (by omega) (by omega) (by omega)
        have ht : ((a : Int) + (z : Int)).toNat = a + z := by omega
        have ht2 : ((a : Int)).toNat = a := by omega
        rw [ht, ht2] at hs1
        have HWD : Hid (sx.extract a (a + z) = D) := by
          show _ = _
          rw [HD.out, HEK.out, if_pos rfl]
          unfold rdD
          rw [Nat.min_eq_left h3]
        rw [HWD.out] at hs1
        clear ht ht2
        go_wp2
        refine post_res H.out HRA3.out HB3.out 0 (sx.size : Int) false D (.slice none 0 0) _ rfl rfl rfl fun W' _ hf hb => ⟨?_, hf, hb⟩
        rw [HS.out, HEK.out, if_pos rfl]; rfl
      · have hm1 := min_gt ((a : Int) + (z : Int)) (sx.size : Int) (by omega) 3
        have hs1 := str_mid sx (a : Int) (sx.size : Int) (by omega) (by omega) (by omega)
        have ht : ((sx.size : Int)).toNat = sx.size := by omega
        have ht2 : ((a : Int)).toNat = a := by omega
        rw [ht, ht2] at hs1
        have HWD : Hid (sx.extract a sx.size = D) := by
          show _ = _
          rw [HD.out, HEK.out, if_pos rfl]
          unfold rdD
          rw [Nat.min_eq_right (by omega)]
        rw [HWD.out] at hs1
        clear ht ht2
        go_wp2
        refine post_res H.out HRA3.out HB3.out 0 (sx.size : Int) false D (.slice none 0 0) _ rfl rfl rfl fun W' _ hf hb => ⟨?_, hf, hb⟩
        rw [HS.out, HEK.out, if_pos rfl]; rfl
    · have j1 : (sx.size : Int) < (a : Int) := by omega
      have HEK : Hid (E = 133) := by show _ = _; rw [HE.out, if_neg (by simp), if_pos (by omega)]
      go_wp2_with (first | (go_at_call 30; refine (HREF.out _ _).mono ?_; rintro e w5 ⟨rfl, hb5⟩; obtain ⟨⟨⟨g0, g1, g2, g3, g4⟩, q0, q1, q2, q3, q4⟩, hr5, hb5'⟩ := HERR.out _ hb5; have HR5 := hid_in hr5; have HB5 := hid_in hb5'; clear hb5 hr5 hb5'))
      refine post_res H.out HR5.out HB5.out 133 0 false ⟨#[]⟩ (.slice none 0 0) _ rfl rfl rfl fun W' _ hf hb => ⟨?_, hf, hb⟩
      rw [HS.out, HD.out, HEK.out, if_neg (by decide), if_neg (by decide)]; rfl
  · have hk2 : (e0 != 0) = true := by simpa using hk
    have HEK : Hid (E = e0) := by show _ = _; rw [HE.out, if_pos hk]
    have HK0 := hid_in hk
    clear hk
    go_wp2_with (first | (go_at_call 30; refine (HREF.out _ _).mono ?_; rintro e w5 ⟨rfl, hb5⟩; obtain ⟨⟨⟨g0, g1, g2, g3, g4⟩, q0, q1, q2, q3, q4⟩, hr5, hb5'⟩ := HERR.out _ hb5; have HR5 := hid_in hr5; have HB5 := hid_in hb5'; clear hb5 hr5 hb5'))
    refine post_res H.out HR5.out HB5.out e0 0 false ⟨#[]⟩ (.slice none 0 0) _ rfl rfl rfl fun W' _ hf hb => ⟨?_, hf, hb⟩
    rw [HS.out, HD.out, HEK.out, if_neg HK0.out, if_neg HK0.out]; rfl
end Go.Proofs.YtngehkmdanhgpaaGreat.Pl
