/-
  The walk of truncate. Do of create, write, truncate, read, rmdir.
-/
import Derived.Lib.SlBytesConst
import Derived.Laws.CopyOwn
import Derived.Deep.RegionLaw
import Derived.Deep.DrawnRows
import Derived.Lib.AppendZeros
import Derived.Laws.Tables
import Derived.Test.YtngehkmdanhgpaaGreatQ00
import Derived.Test.YtngehkmdanhgpaaGreatQ01
import Derived.Test.YtngehkmdanhgpaaGreatQ02
import Derived.Test.YtngehkmdanhgpaaGreatQ03
import Derived.Test.YtngehkmdanhgpaaGreatQ04
import Derived.Test.YtngehkmdanhgpaaGreatQ05
import Derived.Test.YtngehkmdanhgpaaGreatQ06
import Derived.Test.YtngehkmdanhgpaaGreatQ07
import Derived.Test.YtngehkmdanhgpaaGreatQ08
import Derived.Test.YtngehkmdanhgpaaGreatQ09
import Derived.Test.YtngehkmdanhgpaaGreatQ10
import Derived.Test.YtngehkmdanhgpaaGreatQ11
import Derived.Test.YtngehkmdanhgpaaGreatQ12
import Derived.Test.YtngehkmdanhgpaaGreatQ13
import Derived.Test.YtngehkmdanhgpaaGreatQ14
import Derived.Test.YtngehkmdanhgpaaGreatQ15
import Derived.Test.YtngehkmdanhgpaaGreatQ16
import Derived.Test.YtngehkmdanhgpaaGreatQ17
import Derived.Test.YtngehkmdanhgpaaGreatQ18
import Derived.Test.YtngehkmdanhgpaaGreatQ19
import Derived.Test.YtngehkmdanhgpaaGreatQ20
import Derived.Test.YtngehkmdanhgpaaGreatQ21
import Derived.Test.YtngehkmdanhgpaaGreatQ26
namespace Go.Proofs.YtngehkmdanhgpaaGreat.Pl
open Go.RowKit
open Vp (Str B bl Val cmpL parseS showS splitS withinS IsPath)
open Nd (Row wp_world post_Row post_Row2 grownBy_setCell below_of_grown)
def zerosB (n : Nat) : ByteArray := ⟨(Lib.repeatL [(0 : UInt8)] n).toArray⟩
theorem repeat_zero (n : Nat) (hn : n ≤ 1024) (w : World) : Calls Tryz.prog 94 #[.string ⟨#[0]⟩, .int .i64 (n : Int)] w fun e w' => e = .returned (.string (zerosB n)) ∧ Below w.heap.size w w' := Tryz.strings_Repeat ⟨#[0]⟩ n w (by omega) (by show 1 * n ≤ _; omega)
theorem repeatL_zero : ∀ n : Nat, Lib.repeatL [(0 : UInt8)] n = List.replicate n 0 := by
  intro n
  induction n with
  | zero => rfl
  | succ n ih => rw [Lib.repeatL, ih]; rfl
theorem zerosB_size (n : Nat) : (zerosB n).size = n := by
  unfold zerosB
  rw [repeatL_zero]
  simp [ByteArray.size]
def trD (old : ByteArray) (z : Nat) : ByteArray := old.extract 0 (min z old.size) ++ zerosB (z - min z old.size)
theorem trD_size (old : ByteArray) (z : Nat) : (trD old z).size = z := by
  unfold trD
  simp only [ByteArray.size_append, ByteArray.size_extract, zerosB_size]
  omega
def trE (A : List Ent) (xs : List Str) : Int := (findFA A xs).2
def trS (A : List Ent) (xs : List Str) (z : Nat) : Int := if trE A xs = 0 then (z : Int) else 0
def trA (A : List Ent) (xs : List Str) (z : Nat) : List Ent := if trE A xs = 0 then putA A ⟨xs, false, trD (findFA A xs).1.data z⟩ else A
set_option maxHeartbeats 1000000 in
set_option maxRecDepth 100000 in
theorem truncate_aux {w : World} {g m : Nat} {L : List Spot} (h : Fs w g m L) (hsm : Small (L.map Spot.ent)) (k a : Int) (z : Nat) (zI : Int) (hzI : Hid (zI = (z : Int))) (p t d : ByteArray) (hp : p.size ≤ 9223372036854775807) (hz : z ≤ 1024) :
    Calls Tryz.prog 66 #[.pointer (some ⟨g, 0, none⟩), .agg #[.int .i64 k, .string p, .string t, .string d, .int .i64 a, .int .i64 zI]] w fun e w' => e = .returned (Res.val ⟨trE (L.map Spot.ent) (nmsOf p), false, trS (L.map Spot.ent) (nmsOf p) z, ⟨#[]⟩, .slice none 0 0⟩) ∧ (∃ L', Fs w' g m L' ∧ L'.map Spot.ent = trA (L.map Spot.ent) (nmsOf p) z) ∧ w.grownBy w' (some m) := by
  obtain ⟨WA, HWA, HRO, HRA, HBA⟩ := op_box w k a zI p t d
  have H := hid_in h
  have HG := hid_in h.ne1
  have HFF := hid_in (fun W (kb : Below w.heap.size w W) => findFile_any (h.below kb) p hp)
  have c1 : WA.cell? ⟨w.heap.size, 1, none⟩ = some (.string p) := HRO.out.cell 1
  obtain ⟨qp, qn, qc, hsv⟩ := findF_sf h.map (nmsOf p)
  obtain ⟨hfe, hfx⟩ := findF_ent L (nmsOf p)
  have HE : Hid (trE (L.map Spot.ent) (nmsOf p) = (findF L (nmsOf p)).2) := by
    show _ = _
    unfold trE
    rw [← hfe]
  have HS : Hid (trS (L.map Spot.ent) (nmsOf p) z = if trE (L.map Spot.ent) (nmsOf p) = 0 then (z : Int) else 0) := rfl
  have HA : Hid (trA (L.map Spot.ent) (nmsOf p) z = if trE (L.map Spot.ent) (nmsOf p) = 0 then putA (L.map Spot.ent) ⟨nmsOf p, false, trD (findF L (nmsOf p)).1.data z⟩ else L.map Spot.ent) := by
    show _ = _
    unfold trA
    rw [← hfx]; rfl
  have HOK := hid_in (fun t (e : findF L (nmsOf p) = (t, 0)) => findF_ok e)
  have HSM := hid_in hsm
  generalize trE (L.map Spot.ent) (nmsOf p) = E at *
  generalize trS (L.map Spot.ent) (nmsOf p) z = S at *
  generalize trA (L.map Spot.ent) (nmsOf p) z = A' at *
  generalize findF L (nmsOf p) = r at *
  obtain ⟨⟨sv, sn, sp, sd, sx⟩, e0⟩ := r
  simp only at hsv HE HS HA
  subst hsv
  simp only [Spot.val, Res.val] at HFF ⊢
  have HC4 : Hid ([Value.slice qp qn qc, .string sp, .bool sd, .string sx].length = 4) := rfl
  have HO4 : Hid (∀ v ∈ [Value.slice qp qn qc, .string sp, .bool sd, .string sx], v.oneCell' = true) := by
    intro v hv
    simp only [List.mem_cons, List.not_mem_nil, or_false] at hv
    rcases hv with rfl | rfl | rfl | rfl <;> rfl
  have HREF := hid_in (fun k W => refuse_any k W)
  simp only [Res.err, Res.val] at HREF
  clear h hfe hfx hsm
  go_enter Tryz.func66, Tryz.ntmps66
  go_upto_region 1 with fail
  refine wp_world HWA.out ?_
  go_upto_region 2 with (first | (go_at_call 93; refine (HFF.out _ HBA.out).mono ?_; rintro e w2 ⟨rfl, hb2⟩; have HC2 := hid_in hb2; clear hb2) | (refine Nd.wpList_store_new rfl rfl 63 4 _ _ rfl _ [Value.slice qp qn qc, .string sp, .bool sd, .string sx] info63 rfl HC4 HO4 rfl rfl ?_; intro w3 hr3 hb3 hs3; have HR3 := hid_in hr3; have HC3 := hid_in (HC2.out.trans (hb3.mono HC2.out.size)); clear hr3 hb3 hs3))
  have HB3 := hid_in (HBA.out.trans (HC3.out.mono HBA.out.size))
  have HRO3 := hid_in (HRO.out.below HC3.out HRO.out.lt)
  have HRA3 := hid_in (HRA.out.below HC3.out HRA.out.lt)
  obtain ⟨⟨s0, s1, s2, s3⟩, -⟩ := spot_cells HR3.out (Below.refl _ w3)
  have o5 : w3.cell? ⟨w.heap.size, 5, none⟩ = some (.int .i64 zI) := HRO3.out.cell 5
  have HERR := hid_in (fun W (kb : Below w3.heap.size w3 W) => And.intro (res_cells HRA3.out kb) (And.intro (HRA3.out.below kb HRA3.out.lt) (HB3.out.trans (kb.mono HB3.out.size))))
  by_cases hk : e0 = 0
  · subst hk
    obtain ⟨hok, hnm, hdr⟩ := HOK.out _ rfl
    simp only at hnm hdr
    have hsz : sx.size ≤ 1024 := spot_small HSM.out hok
    have HNM := hid_in (H.out.map.nms _ (List.mem_of_find?_eq_some hok))
    simp only at HNM
    rw [hnm] at HNM
    have HEK : Hid (E = 0) := by show _ = _; rw [HE.out]
    clear hok hnm HOK
    obtain ⟨q, HQ⟩ : ∃ q : Nat, Hid (q = min z sx.size) := ⟨_, hid_in rfl⟩
    have hq1 : q ≤ z := by rw [HQ.out]; omega
    have hq2 : q ≤ sx.size := by rw [HQ.out]; omega
    obtain ⟨qI, HQI⟩ : ∃ qI : Int, Hid ((q : Int) = qI) := ⟨_, hid_in rfl⟩
    have hm1 : ∀ W, (Builtin.min_ #[3, 3] 3 #[.int .i64 zI, .int .i64 (sx.size : Int)]).run Tryz.prog W = .ok (.int .i64 qI) W := by
      rw [hzI.out, ← HQI.out]
      by_cases h3 : z ≤ sx.size
      · have e : q = z := by rw [HQ.out]; omega
        rw [e]; exact fun W => min_le _ _ (by omega) 3 W
      · have e : q = sx.size := by rw [HQ.out]; omega
        rw [e]; exact fun W => min_gt _ _ (by omega) 3 W
    have hs1 := str_to sx qI (by rw [← HQI.out]; omega) (by rw [← HQI.out]; omega)
    have ht2 : qI.toNat = q := by rw [← HQI.out]; omega
    rw [ht2] at hs1
    have HX0 : Hid ((sx.extract 0 q).size = q) := by show _ = _; rw [ByteArray.size_extract]; omega
    have HWD : Hid (sx.extract 0 q ++ zerosB (z - q) = trD sx z) := by
      show _ = _
      unfold trD
      rw [HQ.out]
    obtain ⟨X, HX⟩ : ∃ X, Hid (sx.extract 0 q = X) := ⟨_, hid_in rfl⟩
    rw [HX.out] at hs1 HX0 HWD
    obtain ⟨n, HN⟩ : ∃ n, Hid (z - q = n) := ⟨_, hid_in rfl⟩
    rw [HN.out] at HWD
    have hxI : (X.size : Int) = qI := by rw [HX0.out]; exact HQI.out
    have HREP := hid_in (fun W => repeat_zero n (by have := HN.out; omega) W)
    obtain ⟨nI, HNI⟩ : ∃ nI : Int, Hid ((n : Int) = nI) := ⟨_, hid_in rfl⟩
    rw [HNI.out] at HREP
    have hsub : zI - qI = nI := by have h1 := HN.out; have h2 := HNI.out; have h3 := HQI.out; have h4 := hzI.out; omega
    have hnr : 0 ≤ nI ∧ nI ≤ 1024 := by have h1 := HN.out; have h2 := HNI.out; omega
    have hw1 : wrap64 (zI - qI) = nI := by rw [hsub]; unfold wrap64; omega
    have hw2 : IntKind.i64.wrap (zI - qI) = nI := by rw [hsub, IntKind.wrap_i64]; omega
    have hA2 := str_add X (zerosB n) (by rw [HX0.out, zerosB_size]; have := HN.out; omega)
    obtain ⟨Z, HZ⟩ : ∃ Z, Hid (zerosB n = Z) := ⟨_, hid_in rfl⟩
    rw [HZ.out] at HREP hA2 HWD
    clear hA2
    have hzZ : (Z.size : Int) = nI := by rw [← HZ.out, zerosB_size]; exact HNI.out
    have hsm1 : ¬ (9223372036854775807 < qI + nI) := by have h1 := HN.out; have h2 := HNI.out; have h3 := HQI.out; omega
    have HPUT := hid_in (fun W (k : Below w.heap.size w W) => put_any (H.out.below k) (HNM.out.below k) (gp_nms p) false (X ++ Z))
    clear ht2 hq1 hq2 hsub hnr
    go_upto_region 6 with fail
    go_region_with (first | (go_at_call 94; refine (HREP.out _).mono ?_; rintro e w4 ⟨rfl, hb4⟩; have hc4 := (below_drew w3).trans (hb4.mono (below_drew w3).size); obtain ⟨⟨u0, u1, u2, u3⟩, -⟩ := spot_cells HR3.out hc4; have o5' : w4.cell? ⟨w.heap.size, 5, none⟩ = some (.int .i64 zI) := (HRO3.out.below hc4 HRO3.out.lt).cell 5; have HC4 := hid_in hc4; have HB4 := hid_in (HB3.out.trans (hc4.mono HB3.out.size)); clear hb4 hc4) | (go_at_call 25; refine (HPUT.out _ HB4.out).mono ?_; rintro e w5 ⟨rfl, hf5, hg5⟩; have hmp := (H.out.below HB4.out).map; have hr5 := Row.map (HRA3.out.below HC4.out HRA3.out.lt) hmp hg5; have hro5 := Row.map (HRO3.out.below HC4.out HRO3.out.lt) hmp hg5; obtain ⟨⟨g0, g1, g2, g3, g4⟩, q0, q1, q2, q3, q4⟩ := res_cells hr5 (Below.refl _ w5); have p5 : w5.cell? ⟨w.heap.size, 5, none⟩ = some (.int .i64 zI) := hro5.cell 5; have HR5 := hid_in hr5; have HF5 := hid_in hf5; have HG5 := hid_in (grown_plus HB4.out hg5); clear hf5 hg5 hr5 hro5 hmp))
    all_goals
      go_wp2
      refine post_Row 4 37 rfl (w.heap.size + 1) rfl 37 [.int .i64 0, .bool false, .int .i64 zI, .string ⟨#[]⟩, .slice none 0 0] (set5_row HR5.out rfl _ _ _ _ _) _ Tryz.underlying37 rfl 5 info37 rfl rfl ⟨?_, ⟨_, HF5.out.set5 HR5.out (by decide) HG.out _ _ _ _ _, ?_⟩, grown_set5 HG5.out (Nat.le_succ _) _ _ _ _ _⟩
      · rw [HS.out, HEK.out, if_pos rfl, hzI.out]
      · rw [HA.out, HEK.out, if_pos rfl, putP_ent, ← HWD.out]; rfl
  · have hk2 : (e0 != 0) = true := by simpa using hk
    have HK0 := hid_in hk
    clear hk
    go_wp2_with (first | (go_at_call 30; refine (HREF.out _ _).mono ?_; rintro e w5 ⟨rfl, hb5⟩; obtain ⟨⟨⟨g0, g1, g2, g3, g4⟩, q0, q1, q2, q3, q4⟩, hr5, hb5'⟩ := HERR.out _ hb5; have HR5 := hid_in hr5; have HB5 := hid_in hb5'; clear hb5 hr5 hb5'))
    refine post_err H.out HR5.out HB5.out e0 _ rfl rfl rfl fun W' hf hg => ⟨?_, ⟨L, hf, ?_⟩, hg⟩
    · rw [HS.out, HE.out, if_neg HK0.out]; rfl
    · rw [HA.out, HE.out, if_neg HK0.out]
theorem truncate_any {w : World} {g m : Nat} {L : List Spot} (h : Fs w g m L) (hsm : Small (L.map Spot.ent)) (k a : Int) (z : Nat) (p t d : ByteArray) (hp : p.size ≤ 9223372036854775807) (hz : z ≤ 1024) :
    Calls Tryz.prog 66 #[.pointer (some ⟨g, 0, none⟩), .agg #[.int .i64 k, .string p, .string t, .string d, .int .i64 a, .int .i64 (z : Int)]] w fun e w' => e = .returned (Res.val ⟨trE (L.map Spot.ent) (nmsOf p), false, trS (L.map Spot.ent) (nmsOf p) z, ⟨#[]⟩, .slice none 0 0⟩) ∧ (∃ L', Fs w' g m L' ∧ L'.map Spot.ent = trA (L.map Spot.ent) (nmsOf p) z) ∧ w.grownBy w' (some m) := truncate_aux h hsm k a z _ rfl p t d hp hz
end Go.Proofs.YtngehkmdanhgpaaGreat.Pl
namespace Go.Proofs.YtngehkmdanhgpaaGreat.Pl
open Go.RowKit
open Vp (Str B bl Val cmpL parseS showS splitS withinS IsPath)
open Nd (Row wp_world post_Row post_Row2 grownBy_setCell below_of_grown Opn checkS)
theorem do_create {w : World} {g m : Nat} {L : List Spot} (h : Fs w g m L) (a z : Int) (p t d : ByteArray) (hp : p.size ≤ 9223372036854775807) (ht : t.size ≤ 9223372036854775807) (hc : checkS ⟨2, p, t, d, a, z⟩ = 0) :
    Calls Tryz.prog 14 #[.pointer (some ⟨g, 0, none⟩), .agg #[.int .i64 2, .string p, .string t, .string d, .int .i64 a, .int .i64 z]] w fun e w' => Did w g m (RA.err (addE (L.map Spot.ent) (nmsOf p))) (addA (L.map Spot.ent) (nmsOf p) false) e w' :=
  do_2 h a z p t d hp ht hc _ _ fun _W k => (create_any (h.below k) 2 a z p t d hp).mono fun _e _w' hh => ⟨_, hh.1, nm_nil _, hh.2.1, hh.2.2⟩
theorem do_write {w : World} {g m : Nat} {L : List Spot} (h : Fs w g m L) (hsm : Small (L.map Spot.ent)) (z : Int) (a : Nat) (p t d : ByteArray) (hp : p.size ≤ 9223372036854775807) (ht : t.size ≤ 9223372036854775807) (hc : checkS ⟨3, p, t, d, a, z⟩ = 0) (ha : a ≤ 1024) (hd : d.size ≤ 1024) :
    Calls Tryz.prog 14 #[.pointer (some ⟨g, 0, none⟩), .agg #[.int .i64 3, .string p, .string t, .string d, .int .i64 (a : Int), .int .i64 z]] w fun e w' => Did w g m ⟨wrE (L.map Spot.ent) (nmsOf p) a d, false, wrS (L.map Spot.ent) (nmsOf p) a d, ⟨#[]⟩, []⟩ (wrA (L.map Spot.ent) (nmsOf p) a d) e w' :=
  do_3 h a z p t d hp ht hc _ _ fun _W k => (write_any (h.below k) hsm 3 z a p t d hp ha hd).mono fun _e _w' hh => ⟨_, hh.1, nm_nil _, hh.2.1, hh.2.2⟩
theorem do_trunc {w : World} {g m : Nat} {L : List Spot} (h : Fs w g m L) (hsm : Small (L.map Spot.ent)) (a : Int) (z : Nat) (p t d : ByteArray) (hp : p.size ≤ 9223372036854775807) (ht : t.size ≤ 9223372036854775807) (hc : checkS ⟨4, p, t, d, a, z⟩ = 0) (hz : z ≤ 1024) :
    Calls Tryz.prog 14 #[.pointer (some ⟨g, 0, none⟩), .agg #[.int .i64 4, .string p, .string t, .string d, .int .i64 a, .int .i64 (z : Int)]] w fun e w' => Did w g m ⟨trE (L.map Spot.ent) (nmsOf p), false, trS (L.map Spot.ent) (nmsOf p) z, ⟨#[]⟩, []⟩ (trA (L.map Spot.ent) (nmsOf p) z) e w' :=
  do_4 h a z p t d hp ht hc _ _ fun _W k => (truncate_any (h.below k) hsm 4 a z p t d hp hz).mono fun _e _w' hh => ⟨_, hh.1, nm_nil _, hh.2.1, hh.2.2⟩
theorem do_read {w : World} {g m : Nat} {L : List Spot} (h : Fs w g m L) (a z : Nat) (p t d : ByteArray) (hp : p.size ≤ 9223372036854775807) (ht : t.size ≤ 9223372036854775807) (hc : checkS ⟨8, p, t, d, a, z⟩ = 0) (ha : a ≤ 1024) (hz : z ≤ 1024) :
    Calls Tryz.prog 14 #[.pointer (some ⟨g, 0, none⟩), .agg #[.int .i64 8, .string p, .string t, .string d, .int .i64 (a : Int), .int .i64 (z : Int)]] w fun e w' => Did w g m ⟨rdE (L.map Spot.ent) (nmsOf p) a, false, rdS (L.map Spot.ent) (nmsOf p) a, rdB (L.map Spot.ent) (nmsOf p) a z, []⟩ (L.map Spot.ent) e w' :=
  do_8 h a z p t d hp ht hc _ _ fun _W k => (read_any (h.below k) 8 a z p t d hp ha hz).mono fun _e _w' hh => ⟨_, hh.1, nm_nil _, ⟨L, hh.2.1, rfl⟩, below_but m hh.2.2⟩
theorem do_rmdir {w : World} {g m : Nat} {L : List Spot} (h : Fs w g m L) (hn : L.length ≤ 100000) (a z : Int) (p t d : ByteArray) (hp : p.size ≤ 9223372036854775807) (ht : t.size ≤ 9223372036854775807) (hc : checkS ⟨6, p, t, d, a, z⟩ = 0) :
    Calls Tryz.prog 14 #[.pointer (some ⟨g, 0, none⟩), .agg #[.int .i64 6, .string p, .string t, .string d, .int .i64 a, .int .i64 z]] w fun e w' => Did w g m (RA.err (rmE (L.map Spot.ent) (nmsOf p))) (rmA (L.map Spot.ent) (nmsOf p)) e w' :=
  do_6 h a z p t d hp ht hc _ _ fun _W k => (rmdir_any (h.below k) hn 6 a z p t d hp).mono fun _e _w' hh => ⟨_, hh.1, nm_nil _, hh.2.1, hh.2.2⟩
/-- what awake makes -/
def pA : ByteArray := ⟨#[47, 97]⟩
def pAF : ByteArray := ⟨#[47, 97, 47, 102]⟩
def aw0 : List Ent := newA [⟨pA, true, ⟨#[]⟩⟩]
def aw1 : List Ent := addA aw0 (nmsOf pAF) false
def aw2 : List Ent := wrA aw1 (nmsOf pAF) 0 ⟨#[104, 105]⟩
theorem aw_new : newE [⟨pA, true, ⟨#[]⟩⟩] = 0 := by decide +kernel
theorem aw_c1 : checkS ⟨2, pAF, ⟨#[]⟩, ⟨#[]⟩, 0, 0⟩ = 0 := by decide +kernel
theorem aw_c2 : checkS ⟨3, pAF, ⟨#[]⟩, ⟨#[104, 105]⟩, 0, 0⟩ = 0 := by decide +kernel
theorem aw_c3 : checkS ⟨8, pAF, ⟨#[]⟩, ⟨#[]⟩, 1, 9⟩ = 0 := by decide +kernel
theorem aw_c4 : checkS ⟨6, pA, ⟨#[]⟩, ⟨#[]⟩, 0, 0⟩ = 0 := by decide +kernel
theorem aw_e1 : addE aw0 (nmsOf pAF) = 0 := by decide +kernel
theorem aw_e2 : wrE aw1 (nmsOf pAF) 0 ⟨#[104, 105]⟩ = 0 ∧ wrS aw1 (nmsOf pAF) 0 ⟨#[104, 105]⟩ = 2 := by decide +kernel
theorem aw_e3 : rdE aw2 (nmsOf pAF) 1 = 0 ∧ rdS aw2 (nmsOf pAF) 1 = 2 ∧ rdB aw2 (nmsOf pAF) 1 9 = ⟨#[105]⟩ := by decide +kernel
theorem aw_e4 : rmE aw2 (nmsOf pA) = 130 := by decide +kernel
theorem aw_s1 : ∀ e ∈ aw1, e.data.size ≤ 1024 := by decide +kernel
theorem aw_l2 : aw2.length ≤ 100000 := by decide +kernel
end Go.Proofs.YtngehkmdanhgpaaGreat.Pl
