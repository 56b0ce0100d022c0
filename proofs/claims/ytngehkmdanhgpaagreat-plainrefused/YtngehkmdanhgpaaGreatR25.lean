/-
  The walk of read. The walk of rmdir.
-/
import Derived.Deep.RegionLaw
import Derived.Deep.DrawnRows
import Derived.Laws.Tables
import Derived.Lib.SlBytesConst
import Derived.Laws.CopyOwn
import Derived.Lib.AppendZeros
import Derived.Test.YtngehkmdanhgpaaGreatR00
import Derived.Test.YtngehkmdanhgpaaGreatR01
import Derived.Test.YtngehkmdanhgpaaGreatR02
import Derived.Test.YtngehkmdanhgpaaGreatR03
import Derived.Test.YtngehkmdanhgpaaGreatR04
import Derived.Test.YtngehkmdanhgpaaGreatR05
import Derived.Test.YtngehkmdanhgpaaGreatR06
import Derived.Test.YtngehkmdanhgpaaGreatR07
import Derived.Test.YtngehkmdanhgpaaGreatR08
import Derived.Test.YtngehkmdanhgpaaGreatR09
import Derived.Test.YtngehkmdanhgpaaGreatR10
import Derived.Test.YtngehkmdanhgpaaGreatR11
import Derived.Test.YtngehkmdanhgpaaGreatR12
import Derived.Test.YtngehkmdanhgpaaGreatR13
import Derived.Test.YtngehkmdanhgpaaGreatR14
import Derived.Test.YtngehkmdanhgpaaGreatR15
import Derived.Test.YtngehkmdanhgpaaGreatR16
import Derived.Test.YtngehkmdanhgpaaGreatR17
import Derived.Test.YtngehkmdanhgpaaGreatR18
import Derived.Test.YtngehkmdanhgpaaGreatR20
import Derived.Test.YtngehkmdanhgpaaGreatR21
import Derived.Test.YtngehkmdanhgpaaGreatR22
import Derived.Test.YtngehkmdanhgpaaGreatR23
import Derived.Test.YtngehkmdanhgpaaGreatR24
namespace Go.Proofs.YtngehkmdanhgpaaGreat.Pl
open Go.RowKit
open Vp (Str B bl Val cmpL parseS showS splitS withinS IsPath)
open Nd (Row wp_world post_Row post_Row2 grownBy_setCell below_of_grown)
def rdD (old : ByteArray) (a z : Nat) : ByteArray := old.extract a (min (a + z) old.size)
def rdE (A : List Ent) (xs : List Str) (a : Nat) : Int := if (findFA A xs).2 ≠ 0 then (findFA A xs).2 else if (findFA A xs).1.data.size < a then 133 else 0
def rdS (A : List Ent) (xs : List Str) (a : Nat) : Int := if rdE A xs a = 0 then ((findFA A xs).1.data.size : Int) else 0
def rdB (A : List Ent) (xs : List Str) (a z : Nat) : ByteArray := if rdE A xs a = 0 then rdD (findFA A xs).1.data a z else ⟨#[]⟩
/-- a result is answered -/
theorem post_res {w W : World} {g m : Nat} {L : List Spot} {fn : Func} {a : Act} (H : Fs w g m L) (hr : Row W (w.heap.size + 1) [.int .i64 0, .bool false, .int .i64 0, .string ⟨#[]⟩, .slice none 0 0] 37) (hB : Below w.heap.size w W) (k z : Int) (b : Bool) (x : ByteArray) (v : Value) (R : Ending → World → Prop) (hf : fn.results = #[.cell 4 37]) (hp : a.tmps.getD 4 undef = .pointer (some ⟨w.heap.size + 1, 0, none⟩)) (hdf : a.defers = [])
    (h : ∀ W', W' = ((((W.setCell ⟨w.heap.size + 1, 0, none⟩ (.int .i64 k)).setCell ⟨w.heap.size + 1, 1, none⟩ (.bool b)).setCell ⟨w.heap.size + 1, 2, none⟩ (.int .i64 z)).setCell ⟨w.heap.size + 1, 3, none⟩ (.string x)).setCell ⟨w.heap.size + 1, 4, none⟩ v → Fs W' g m L → Below w.heap.size w W' → R (.returned (Res.val ⟨k, b, z, x, v⟩)) W') :
    bodyPost Tryz.prog fn R .ret a (((((W.setCell ⟨w.heap.size + 1, 0, none⟩ (.int .i64 k)).setCell ⟨w.heap.size + 1, 1, none⟩ (.bool b)).setCell ⟨w.heap.size + 1, 2, none⟩ (.int .i64 z)).setCell ⟨w.heap.size + 1, 3, none⟩ (.string x)).setCell ⟨w.heap.size + 1, 4, none⟩ v) :=
  post_Row 4 37 hf (w.heap.size + 1) hp 37 [.int .i64 k, .bool b, .int .i64 z, .string x, v] (set5_row hr rfl _ _ _ _ _) _ Tryz.underlying37 rfl 5 info37 rfl hdf (h _ rfl ((H.below hB).set5 hr (by decide) H.ne1 _ _ _ _ _) (set5_below hB (Nat.le_succ _) _ _ _ _ _))
set_option maxHeartbeats 4000000 in
set_option maxRecDepth 100000 in
theorem read_any {w : World} {g m : Nat} {L : List Spot} (h : Fs w g m L) (k : Int) (a z : Nat) (p t d : ByteArray) (hp : p.size ≤ 9223372036854775807) (ha : a ≤ 1024) (hz : z ≤ 1024) :
    Calls Tryz.prog 70 #[.pointer (some ⟨g, 0, none⟩), .agg #[.int .i64 k, .string p, .string t, .string d, .int .i64 (a : Int), .int .i64 (z : Int)]] w fun e w' => e = .returned (Res.val ⟨rdE (L.map Spot.ent) (nmsOf p) a, false, rdS (L.map Spot.ent) (nmsOf p) a, rdB (L.map Spot.ent) (nmsOf p) a z, .slice none 0 0⟩) ∧ Fs w' g m L ∧ Below w.heap.size w w' := by
  obtain ⟨WA, HWA, HRO, HRA, HBA⟩ := op_box w k a z p t d
  have H := hid_in h
  have HFF := hid_in (fun W (kb : Below w.heap.size w W) => findFile_any (h.below kb) p hp)
  have c1 : WA.cell? ⟨w.heap.size, 1, none⟩ = some (.string p) := HRO.out.cell 1
  obtain ⟨qp, qn, qc, hsv⟩ := findF_sf h.map (nmsOf p)
  obtain ⟨hfe, hfx⟩ := findF_ent L (nmsOf p)
  have HE : Hid (rdE (L.map Spot.ent) (nmsOf p) a = if (findF L (nmsOf p)).2 ≠ 0 then (findF L (nmsOf p)).2 else if (findF L (nmsOf p)).1.data.size < a then 133 else 0) := by
    show _ = _
    unfold rdE
    rw [← hfe, ← hfx]; rfl
  have HS : Hid (rdS (L.map Spot.ent) (nmsOf p) a = if rdE (L.map Spot.ent) (nmsOf p) a = 0 then ((findF L (nmsOf p)).1.data.size : Int) else 0) := by
    show _ = _
    unfold rdS
    rw [← hfx]; rfl
  have HD : Hid (rdB (L.map Spot.ent) (nmsOf p) a z = if rdE (L.map Spot.ent) (nmsOf p) a = 0 then rdD (findF L (nmsOf p)).1.data a z else ⟨#[]⟩) := by
    show _ = _
    unfold rdB
    rw [← hfx]; rfl
  generalize rdE (L.map Spot.ent) (nmsOf p) a = E at *
  generalize rdS (L.map Spot.ent) (nmsOf p) a = S at *
  generalize rdB (L.map Spot.ent) (nmsOf p) a z = D at *
  generalize findF L (nmsOf p) = r at *
  obtain ⟨⟨sv, sn, sp, sd, sx⟩, e0⟩ := r
  simp only at hsv HE HS HD
  subst hsv
  simp only [Spot.val, Res.val] at HFF ⊢
  have HC4 : Hid ([Value.slice qp qn qc, .string sp, .bool sd, .string sx].length = 4) := rfl
  have HO4 : Hid (∀ v ∈ [Value.slice qp qn qc, .string sp, .bool sd, .string sx], v.oneCell' = true) := by
    intro v hv
    simp only [List.mem_cons, List.not_mem_nil, or_false] at hv
    rcases hv with rfl | rfl | rfl | rfl <;> rfl
  have HREF := hid_in (fun k W => refuse_any k W)
  simp only [Res.err, Res.val] at HREF
  clear h hfe hfx
  go_enter Tryz.func70, Tryz.ntmps70
  go_upto_region 1 with fail
  refine wp_world HWA.out ?_
  go_upto_region 2 with (first | (go_at_call 93; refine (HFF.out _ HBA.out).mono ?_; rintro e w2 ⟨rfl, hb2⟩; have HC2 := hid_in hb2; clear hb2) | (refine Nd.wpList_store_new rfl rfl 63 4 _ _ rfl _ [Value.slice qp qn qc, .string sp, .bool sd, .string sx] info63 rfl HC4 HO4 rfl rfl ?_; intro w3 hr3 hb3 hs3; have HR3 := hid_in hr3; have HC3 := hid_in (HC2.out.trans (hb3.mono HC2.out.size)); clear hr3 hb3 hs3))
  have HB3 := hid_in (HBA.out.trans (HC3.out.mono HBA.out.size))
  have HRO3 := hid_in (HRO.out.below HC3.out HRO.out.lt)
  have HRA3 := hid_in (HRA.out.below HC3.out HRA.out.lt)
  obtain ⟨⟨s0, s1, s2, s3⟩, -⟩ := spot_cells HR3.out (Below.refl _ w3)
  have o4 : w3.cell? ⟨w.heap.size, 4, none⟩ = some (.int .i64 (a : Int)) := HRO3.out.cell 4
  have o5 : w3.cell? ⟨w.heap.size, 5, none⟩ = some (.int .i64 (z : Int)) := HRO3.out.cell 5
  have HERR := hid_in (fun W (kb : Below w3.heap.size w3 W) => And.intro (res_cells HRA3.out kb) (And.intro (HRA3.out.below kb HRA3.out.lt) (HB3.out.trans (kb.mono HB3.out.size))))
  by_cases hk : e0 = 0
  · subst hk
    by_cases h1 : a ≤ sx.size
    · have j1 : ¬ ((sx.size : Int) < (a : Int)) := by omega
      have HEK : Hid (E = 0) := by show _ = _; rw [HE.out, if_neg (by simp), if_neg (by omega)]
      obtain ⟨⟨g0, g1, g2, g3, g4⟩, q0, q1, q2, q3, q4⟩ := res_cells HRA3.out (Below.refl _ w3)
      by_cases h3 : a + z ≤ sx.size
      · have hm1 := min_le ((a : Int) + (z : Int)) (sx.size : Int) (by omega) 3
        have hs1 := str_mid sx (a : Int) ((a : Int) + (z : Int)) (by omega) (by omega) (by omega)
        have ht : ((a : Int) + (z : Int)).toNat = a + z := by omega
        have ht2 : ((a : Int)).toNat = a := by omega
        rw [ht, ht2] at hs1
        have HWD : Hid (sx.extract a (a + z) = D) := by
          show _ = _
          rw [HD.out, HEK.out, if_pos rfl]
          unfold rdD
          rw [Nat.min_eq_left h3]
        rw [HWD.out] at hs1
        clear ht ht2
        go_wp2
        refine post_res H.out HRA3.out HB3.out 0 (sx.size : Int) false D (.slice none 0 0) _ rfl rfl rfl fun W' _ hf hb => ⟨?_, hf, hb⟩
        rw [HS.out, HEK.out, if_pos rfl]; rfl
      · have hm1 := min_gt ((a : Int) + (z : Int)) (sx.size : Int) (by omega) 3
        have hs1 := str_mid sx (a : Int) (sx.size : Int) (by omega) (by omega) (by omega)
        have ht : ((sx.size : Int)).toNat = sx.size := by omega
        have ht2 : ((a : Int)).toNat = a := by omega
        rw [ht, ht2] at hs1
        have HWD : Hid (sx.extract a sx.size = D) := by
          show _ = _
          rw [HD.out, HEK.out, if_pos rfl]
          unfold rdD
          rw [Nat.min_eq_right (by omega)]
        rw [HWD.out] at hs1
        clear ht ht2
        go_wp2
        refine post_res H.out HRA3.out HB3.out 0 (sx.size : Int) false D (.slice none 0 0) _ rfl rfl rfl fun W' _ hf hb => ⟨?_, hf, hb⟩
        rw [HS.out, HEK.out, if_pos rfl]; rfl
    · have j1 : (sx.size : Int) < (a : Int) := by omega
      have HEK : Hid (E = 133) := by show _ = _; rw [HE.out, if_neg (by simp), if_pos (by omega)]
      go_wp2_with (first | (go_at_call 30; refine (HREF.out _ _).mono ?_; rintro e w5 ⟨rfl, hb5⟩; obtain ⟨⟨⟨g0, g1, g2, g3, g4⟩, q0, q1, q2, q3, q4⟩, hr5, hb5'⟩ := HERR.out _ hb5; have HR5 := hid_in hr5; have HB5 := hid_in hb5'; clear hb5 hr5 hb5'))
      refine post_res H.out HR5.out HB5.out 133 0 false ⟨#[]⟩ (.slice none 0 0) _ rfl rfl rfl fun W' _ hf hb => ⟨?_, hf, hb⟩
      rw [HS.out, HD.out, HEK.out, if_neg (by decide), if_neg (by decide)]; rfl
  · have hk2 : (e0 != 0) = true := by simpa using hk
    have HEK : Hid (E = e0) := by show _ = _; rw [HE.out, if_pos hk]
    have HK0 := hid_in hk
    clear hk
    go_wp2_with (first | (go_at_call 30; refine (HREF.out _ _).mono ?_; rintro e w5 ⟨rfl, hb5⟩; obtain ⟨⟨⟨g0, g1, g2, g3, g4⟩, q0, q1, q2, q3, q4⟩, hr5, hb5'⟩ := HERR.out _ hb5; have HR5 := hid_in hr5; have HB5 := hid_in hb5'; clear hb5 hr5 hb5'))
    refine post_res H.out HR5.out HB5.out e0 0 false ⟨#[]⟩ (.slice none 0 0) _ rfl rfl rfl fun W' _ hf hb => ⟨?_, hf, hb⟩
    rw [HS.out, HD.out, HEK.out, if_neg HK0.out, if_neg HK0.out]; rfl
end Go.Proofs.YtngehkmdanhgpaaGreat.Pl
namespace Go.Proofs.YtngehkmdanhgpaaGreat.Pl
open Go.RowKit
open Vp (Str B bl Val cmpL parseS showS splitS withinS IsPath)
open Nd (Row wp_world post_Row post_Row2 grownBy_setCell below_of_grown)
def belowE (xs : List Str) (e : Ent) : Bool := decide (xs.length < e.names.length) && withinS e.names xs
theorem belowB_ent (L : List Spot) (xs : List Str) : (L.filter (belowB xs)).map Spot.ent = (L.map Spot.ent).filter (belowE xs) := by
  rw [List.filter_map]
  rfl
def rmE (A : List Ent) (xs : List Str) : Int := if xs = [] then 132 else if (findDA A xs).2 ≠ 0 then (findDA A xs).2 else if 0 < (A.filter (belowE xs)).length then 130 else 0
def rmA (A : List Ent) (xs : List Str) : List Ent := if rmE A xs = 0 then cutA A xs else A
set_option maxHeartbeats 4000000 in
set_option maxRecDepth 100000 in
theorem rmdir_any {w : World} {g m : Nat} {L : List Spot} (h : Fs w g m L) (hn : L.length ≤ 100000) (k a z : Int) (p t d : ByteArray) (hp : p.size ≤ 9223372036854775807) :
    Calls Tryz.prog 68 #[.pointer (some ⟨g, 0, none⟩), .agg #[.int .i64 k, .string p, .string t, .string d, .int .i64 a, .int .i64 z]] w fun e w' => e = .returned (Res.err (rmE (L.map Spot.ent) (nmsOf p))).val ∧ (∃ L', Fs w' g m L' ∧ L'.map Spot.ent = rmA (L.map Spot.ent) (nmsOf p)) ∧ w.grownBy w' (some m) := by
  obtain ⟨WA, HWA, HRO, HRA, HBA⟩ := op_box w k a z p t d
  have H := hid_in h
  have HNO := hid_in (fun W => namesOf_any p hp W)
  have c1 : WA.cell? ⟨w.heap.size, 1, none⟩ = some (.string p) := HRO.out.cell 1
  obtain ⟨hfe, -⟩ := findD_ent L (nmsOf p)
  have HE : Hid (rmE (L.map Spot.ent) (nmsOf p) = if nmsOf p = [] then 132 else if (findD L (nmsOf p)).2 ≠ 0 then (findD L (nmsOf p)).2 else if 0 < (L.filter (belowB (nmsOf p))).length then 130 else 0) := by
    show _ = _
    unfold rmE
    rw [← hfe, ← belowB_ent, List.length_map]
  have HA : Hid (rmA (L.map Spot.ent) (nmsOf p) = if rmE (L.map Spot.ent) (nmsOf p) = 0 then cutA (L.map Spot.ent) (nmsOf p) else L.map Spot.ent) := rfl
  have HFD := hid_in (fun W (kb : Below w.heap.size w W) v (kv : Val W v (nmsOf p)) => findDir_any (h.below kb) kv (gp_nms p))
  have HBL := hid_in (fun W (kb : Below w.heap.size w W) v (kv : Val W v (nmsOf p)) => below_any (h.below kb) kv hn)
  have HDR := hid_in (fun W (kb : Below w.heap.size w W) v (kv : Val W v (nmsOf p)) => drop_any (h.below kb) kv (gp_nms p))
  obtain ⟨qp, qn, qc, hsv⟩ := findD_sf h.map (nmsOf p)
  generalize rmE (L.map Spot.ent) (nmsOf p) = E at *
  generalize rmA (L.map Spot.ent) (nmsOf p) = A' at *
  generalize findD L (nmsOf p) = r at *
  obtain ⟨⟨sv, sn, sp, sd, sx⟩, e0⟩ := r
  generalize nmsOf p = xs at *
  simp only at hsv HE
  subst hsv
  simp only [Spot.val] at HFD
  have HREF := hid_in (fun k W => refuse_any k W)
  simp only [Res.err, Res.val] at HREF
  have HC4 : Hid ([Value.slice qp qn qc, .string sp, .bool sd, .string sx].length = 4) := rfl
  have HO4 : Hid (∀ v ∈ [Value.slice qp qn qc, .string sp, .bool sd, .string sx], v.oneCell' = true) := by
    intro v hv
    simp only [List.mem_cons, List.not_mem_nil, or_false] at hv
    rcases hv with rfl | rfl | rfl | rfl <;> rfl
  clear h hfe hn
  go_enter Tryz.func68, Tryz.ntmps68
  go_upto_region 1 with fail
  refine wp_world HWA.out ?_
  go_upto_region 2 with (first | (go_at_call 92; refine (HNO.out _).mono ?_; rintro e w1 ⟨v1, rfl, hv1, hb1⟩; have HV1 := hid_in hv1; have HC1 := hid_in hb1; obtain ⟨np, nc, rfl⟩ := hv1.form; clear hv1 hb1))
  have HB1 := hid_in (HBA.out.trans (HC1.out.mono HBA.out.size))
  obtain ⟨nl, HNL⟩ : ∃ nl, Hid (xs.length = nl) := ⟨_, hid_in rfl⟩
  rw [HNL.out] at HV1 ⊢
  have HERR := hid_in (fun W (kb : Below WA.heap.size WA W) => And.intro (res_cells HRA.out kb) (And.intro (HRA.out.below kb HRA.out.lt) (HBA.out.trans (kb.mono HBA.out.size))))
  by_cases hne : xs = []
  · have hl : nl = 0 := by rw [← HNL.out, hne]; rfl
    have HEK : Hid (E = 132) := by show _ = _; rw [HE.out, if_pos hne]
    subst hl
    clear hne
    go_wp2_with (first | (go_at_call 30; refine (HREF.out _ _).mono ?_; rintro e w5 ⟨rfl, hb5⟩; obtain ⟨⟨⟨g0, g1, g2, g3, g4⟩, q0, q1, q2, q3, q4⟩, hr5, hb5'⟩ := HERR.out _ (HC1.out.trans (hb5.mono HC1.out.size)); have HR5 := hid_in hr5; have HB5 := hid_in hb5'; clear hb5 hr5 hb5'))
    refine post_err H.out HR5.out HB5.out 132 _ rfl rfl rfl fun W' hf hg => ⟨by rw [HEK.out], ⟨L, hf, ?_⟩, hg⟩
    rw [HA.out, HEK.out, if_neg (by decide)]
  · have hl : nl ≠ 0 := by rw [← HNL.out]; intro e; exact hne (List.length_eq_zero_iff.1 e)
    have k0 : ((nl : Int) == 0) = false := beq_eq_false_iff_ne.2 (by omega)
    have HE1 : Hid (E = if e0 ≠ 0 then e0 else if 0 < (L.filter (belowB xs)).length then 130 else 0) := by show _ = _; rw [HE.out, if_neg hne]
    clear hne hl HE
    go_upto_region 5 with (first | (go_at_call 96; refine (HFD.out _ HB1.out _ HV1.out.val).mono ?_; rintro e w2 ⟨rfl, hb2⟩; have HC2 := hid_in (HC1.out.trans (hb2.mono HC1.out.size)); have HX2 := hid_in hb2; clear hb2) | (refine Nd.wpList_store_new rfl rfl 63 4 _ _ rfl _ [Value.slice qp qn qc, .string sp, .bool sd, .string sx] info63 rfl HC4 HO4 rfl rfl ?_; intro w3 hr3 hb3 hs3; have HC3 := hid_in (HC2.out.trans (hb3.mono HC2.out.size)); have HX3 := hid_in (HX2.out.trans (hb3.mono HX2.out.size)); clear hr3 hb3 hs3))
    have HB3 := hid_in (HBA.out.trans (HC3.out.mono HBA.out.size))
    have HV3 := hid_in (HV1.out.below HX3.out)
    by_cases hk : e0 = 0
    · subst hk
      have HE2 : Hid (E = if 0 < (L.filter (belowB xs)).length then 130 else 0) := by show _ = _; rw [HE1.out, if_neg (by simp)]
      have HB4 := hid_in (HBL.out _ HB3.out _ HV3.out.val)
      by_cases hpos : 0 < (L.filter (belowB xs)).length
      · have HEK : Hid (E = 130) := by show _ = _; rw [HE2.out, if_pos hpos]
        have HPOS := hid_in hpos
        clear hpos
        go_wp2_with (first | (go_at_call 42; refine HB4.out.mono ?_; rintro e w4 ⟨v4, ps, rfl, hs4, hp4, hb4⟩; obtain ⟨p4, c4, rfl⟩ := hs4.form; have HC5 := hid_in (HC3.out.trans (hb4.mono HC3.out.size)); have jp : (0 : Int) < (ps.length : Int) := (by rw [hp4.length_eq]; have := HPOS.out; omega); clear hs4 hp4 hb4) | (go_at_call 30; refine (HREF.out _ _).mono ?_; rintro e w5 ⟨rfl, hb5⟩; obtain ⟨⟨⟨g0, g1, g2, g3, g4⟩, q0, q1, q2, q3, q4⟩, hr5, hb5'⟩ := HERR.out _ (HC5.out.trans (hb5.mono HC5.out.size)); have HR5 := hid_in hr5; have HB5 := hid_in hb5'; clear hb5 hr5 hb5'))
        refine post_err H.out HR5.out HB5.out 130 _ rfl rfl rfl fun W' hf hg => ⟨by rw [HEK.out], ⟨L, hf, ?_⟩, hg⟩
        rw [HA.out, HEK.out, if_neg (by decide)]
      · have HEK : Hid (E = 0) := by show _ = _; rw [HE2.out, if_neg hpos]
        have HPOS := hid_in hpos
        clear hpos
        go_wp2_with (first | (go_at_call 42; refine HB4.out.mono ?_; rintro e w4 ⟨v4, ps, rfl, hs4, hp4, hb4⟩; obtain ⟨p4, c4, rfl⟩ := hs4.form; have HC5 := hid_in (HC3.out.trans (hb4.mono HC3.out.size)); have HV5 := hid_in (HV3.out.below hb4); have jp : ¬ ((0 : Int) < (ps.length : Int)) := (by rw [hp4.length_eq]; have := HPOS.out; omega); clear hs4 hp4 hb4) | (go_at_call 95; refine (HDR.out _ (HBA.out.trans (HC5.out.mono HBA.out.size)) _ HV5.out.val).mono ?_; rintro e w6 ⟨rfl, hf6, hg6⟩; have hr6 := Row.map (HRA.out.below HC5.out HRA.out.lt) (H.out.below (HBA.out.trans (HC5.out.mono HBA.out.size))).map hg6; obtain ⟨⟨g0, g1, g2, g3, g4⟩, q0, q1, q2, q3, q4⟩ := res_cells hr6 (Below.refl _ w6); have HR6 := hid_in hr6; have HF6 := hid_in hf6; have HG6 := hid_in (grown_plus (HBA.out.trans (HC5.out.mono HBA.out.size)) hg6); clear hf6 hg6 hr6))
        refine post_Row 4 37 rfl (w.heap.size + 1) rfl 37 [.int .i64 0, .bool false, .int .i64 0, .string ⟨#[]⟩, .slice none 0 0] (set5_row HR6.out rfl _ _ _ _ _) _ Tryz.underlying37 rfl 5 info37 rfl rfl ⟨by rw [HEK.out]; rfl, ⟨_, HF6.out.set5 HR6.out (by decide) H.out.ne1 _ _ _ _ _, ?_⟩, grown_set5 HG6.out (Nat.le_succ _) _ _ _ _ _⟩
        rw [HA.out, HEK.out, if_pos rfl, cutP_ent]
    · have hk2 : (e0 != 0) = true := by simpa using hk
      have HEK : Hid (E = e0) := by show _ = _; rw [HE1.out, if_pos hk]
      have HK0 := hid_in hk
      clear hk
      go_wp2_with (first | (go_at_call 30; refine (HREF.out _ _).mono ?_; rintro e w5 ⟨rfl, hb5⟩; obtain ⟨⟨⟨g0, g1, g2, g3, g4⟩, q0, q1, q2, q3, q4⟩, hr5, hb5'⟩ := HERR.out _ (HC3.out.trans (hb5.mono HC3.out.size)); have HR5 := hid_in hr5; have HB5 := hid_in hb5'; clear hb5 hr5 hb5'))
      refine post_err H.out HR5.out HB5.out e0 _ rfl rfl rfl fun W' hf hg => ⟨by rw [HEK.out], ⟨L, hf, ?_⟩, hg⟩
      rw [HA.out, HEK.out, if_neg HK0.out]
end Go.Proofs.YtngehkmdanhgpaaGreat.Pl
