/-
  The walk of rmdir. . The words of the kinds: the walks of Word, the program's and the reference's, Reads and Kind. Operations: what Check says of one; the walks of named, areNumbers and checkPaths.
-/
import Derived.Lib.SlBytesConst
import Derived.Laws.CopyOwn
import Derived.Deep.RegionLaw
import Derived.Deep.DrawnRows
import Derived.Lib.AppendZeros
import Derived.Laws.Tables
import Derived.Test.YtngehkmdanhgpaaGreatQ00
import Derived.Test.YtngehkmdanhgpaaGreatQ01
import Derived.Test.YtngehkmdanhgpaaGreatQ02
import Derived.Test.YtngehkmdanhgpaaGreatQ03
import Derived.Test.YtngehkmdanhgpaaGreatQ04
import Derived.Test.YtngehkmdanhgpaaGreatQ05
import Derived.Test.YtngehkmdanhgpaaGreatQ06
import Derived.Test.YtngehkmdanhgpaaGreatQ07
import Derived.Test.YtngehkmdanhgpaaGreatQ08
import Derived.Test.YtngehkmdanhgpaaGreatQ09
import Derived.Test.YtngehkmdanhgpaaGreatQ10
import Derived.Test.YtngehkmdanhgpaaGreatQ11
import Derived.Test.YtngehkmdanhgpaaGreatQ12
import Derived.Test.YtngehkmdanhgpaaGreatQ13
import Derived.Test.YtngehkmdanhgpaaGreatQ14
import Derived.Test.YtngehkmdanhgpaaGreatQ15
import Derived.Test.YtngehkmdanhgpaaGreatQ16
import Derived.Test.YtngehkmdanhgpaaGreatQ17
import Derived.Test.YtngehkmdanhgpaaGreatQ18
namespace Go.Proofs.YtngehkmdanhgpaaGreat.Pl
open Go.RowKit
open Vp (Str B bl Val cmpL parseS showS splitS withinS IsPath)
open Nd (Row wp_world post_Row post_Row2 grownBy_setCell below_of_grown)
def belowE (xs : List Str) (e : Ent) : Bool := decide (xs.length < e.names.length) && withinS e.names xs
theorem belowB_ent (L : List Spot) (xs : List Str) : (L.filter (belowB xs)).map Spot.ent = (L.map Spot.ent).filter (belowE xs) := by
  rw [List.filter_map]
  rfl
def rmE (A : List Ent) (xs : List Str) : Int := if xs = [] then 132 else if (findDA A xs).2 ≠ 0 then (findDA A xs).2 else if 0 < (A.filter (belowE xs)).length then 130 else 0
def rmA (A : List Ent) (xs : List Str) : List Ent := if rmE A xs = 0 then cutA A xs else A
set_option maxHeartbeats 4000000 in
set_option maxRecDepth 100000 in
theorem rmdir_any {w : World} {g m : Nat} {L : List Spot} (h : Fs w g m L) (hn : L.length ≤ 100000) (k a z : Int) (p t d : ByteArray) (hp : p.size ≤ 9223372036854775807) :
    Calls Tryz.prog 68 #[.pointer (some ⟨g, 0, none⟩), .agg #[.int .i64 k, .string p, .string t, .string d, .int .i64 a, .int .i64 z]] w fun e w' => e = .returned (Res.err (rmE (L.map Spot.ent) (nmsOf p))).val ∧ (∃ L', Fs w' g m L' ∧ L'.map Spot.ent = rmA (L.map Spot.ent) (nmsOf p)) ∧ w.grownBy w' (some m) := by
  obtain ⟨WA, HWA, HRO, HRA, HBA⟩ := op_box w k a z p t d
  have H := hid_in h
  have HNO := hid_in (fun W => namesOf_any p hp W)
  have c1 : WA.cell? ⟨w.heap.size, 1, none⟩ = some (.string p) := HRO.out.cell 1
  obtain ⟨hfe, -⟩ := findD_ent L (nmsOf p)
  have HE : Hid (rmE (L.map Spot.ent) (nmsOf p) = if nmsOf p = [] then 132 else if (findD L (nmsOf p)).2 ≠ 0 then (findD L (nmsOf p)).2 else if 0 < (L.filter (belowB (nmsOf p))).length then 130 else 0) := by
    show _ = _
    unfold rmE
    rw [← hfe, ← belowB_ent, List.length_map]
  have HA : Hid (rmA (L.map Spot.ent) (nmsOf p) = if rmE (L.map Spot.ent) (nmsOf p) = 0 then cutA (L.map Spot.ent) (nmsOf p) else L.map Spot.ent) := rfl
  have HFD := hid_in (fun W (kb : Below w.heap.size w W) v (kv : Val W v (nmsOf p)) => findDir_any (h.below kb) kv (gp_nms p))
  have HBL := hid_in (fun W (kb : Below w.heap.size w W) v (kv : Val W v (nmsOf p)) => below_any (h.below kb) kv hn)
  have HDR := hid_in (fun W (kb : Below w.heap.size w W) v (kv : Val W v (nmsOf p)) => drop_any (h.below kb) kv (gp_nms p))
  obtain ⟨qp, qn, qc, hsv⟩ := findD_sf h.map (nmsOf p)
  generalize rmE (L.map Spot.ent) (nmsOf p) = E at *
  generalize rmA (L.map Spot.ent) (nmsOf p) = A' at *
  generalize findD L (nmsOf p) = r at *
  obtain ⟨⟨sv, sn, sp, sd, sx⟩, e0⟩ := r
  generalize nmsOf p = xs at *
  simp only at hsv HE
  subst hsv
  simp only [Spot.val] at HFD
  have HREF := hid_in (fun k W => refuse_any k W)
  simp only [Res.err, Res.val] at HREF
  have HC4 : Hid ([Value.slice qp qn qc, .string sp, .bool sd, .string sx].length = 4) := rfl
  have HO4 : Hid (∀ v ∈ [Value.slice qp qn qc, .string sp, .bool sd, .string sx], v.oneCell' = true) := by
    intro v hv
    simp only [List.mem_cons, List.not_mem_nil, or_false] at hv
    rcases hv with rfl | rfl | rfl | rfl <;> rfl
  clear h hfe hn
  go_enter Tryz.func68, Tryz.ntmps68
  go_upto_region 1 with fail
  refine wp_world HWA.out ?_
  go_upto_region 2 with (first | (go_at_call 92; refine (HNO.out _).mono ?_; rintro e w1 ⟨v1, rfl, hv1, hb1⟩; have HV1 := hid_in hv1; have HC1 := hid_in hb1; obtain ⟨np, nc, rfl⟩ := hv1.form; clear hv1 hb1))
  have HB1 := hid_in (HBA.out.trans (HC1.out.mono HBA.out.size))
  obtain ⟨nl, HNL⟩ : ∃ nl, Hid (xs.length = nl) := ⟨_, hid_in rfl⟩
  rw [HNL.out] at HV1 ⊢
  have HERR := hid_in (fun W (kb : Below WA.heap.size WA W) => And.intro (res_cells HRA.out kb) (And.intro (HRA.out.below kb HRA.out.lt) (HBA.out.trans (kb.mono HBA.out.size))))
  by_cases hne : xs = []
  · have hl : nl = 0 := by rw [← HNL.out, hne]; rfl
    have HEK : Hid (E = 132) := by show _ = _; rw [HE.out, if_pos hne]
    subst hl
    clear hne
    go_wp2_with (first | (go_at_call 30; refine (HREF.out _ _).mono ?_; rintro e w5 ⟨rfl, hb5⟩; obtain ⟨⟨⟨g0, g1, g2, g3, g4⟩, q0, q1, q2, q3, q4⟩, hr5, hb5'⟩ := HERR.out _ (HC1.out.trans (hb5.mono HC1.out.size)); have HR5 := hid_in hr5; have HB5 := hid_in hb5'; clear hb5 hr5 hb5'))
    refine post_err H.out HR5.out HB5.out 132 _ rfl rfl rfl fun W' hf hg => ⟨by rw [HEK.out], ⟨L, hf, ?_⟩, hg⟩
    rw [HA.out, HEK.out, if_neg (by decide)]
  · have hl : nl ≠ 0 := by rw [← HNL.out]; intro e; exact hne (List.length_eq_zero_iff.1 e)
    have k0 : ((nl : Int) == 0) = false := beq_eq_false_iff_ne.2 (by omega)
    have HE1 : Hid (E = if e0 ≠ 0 then e0 else if 0 < (L.filter (belowB xs)).length then 130 else 0) := by show _ = _; rw [HE.out, if_neg hne]
    clear hne hl HE
    go_upto_region 5 with (first | (go_at_call 96; refine (HFD.out _ HB1.out _ HV1.out.val).mono ?_; rintro e w2 ⟨rfl, hb2⟩; have HC2 := hid_in (HC1.out.trans (hb2.mono HC1.out.size)); have HX2 := hid_in hb2; clear hb2) | (refine Nd.wpList_store_new rfl rfl 63 4 _ _ rfl _ [Value.slice qp qn qc, .string sp, .bool sd, .string sx] info63 rfl HC4 HO4 rfl rfl ?_; intro w3 hr3 hb3 hs3; have HC3 := hid_in (HC2.out.trans (hb3.mono HC2.out.size)); have HX3 := hid_in (HX2.out.trans (hb3.mono HX2.out.size)); clear hr3 hb3 hs3))
    have HB3 := hid_in (HBA.out.trans (HC3.out.mono HBA.out.size))
    have HV3 := hid_in (HV1.out.below HX3.out)
    by_cases hk : e0 = 0
    · subst hk
      have HE2 : Hid (E = if 0 < (L.filter (belowB xs)).length then 130 else 0) := by show _ = _; rw [HE1.out, if_neg (by simp)]
      have HB4 := hid_in (HBL.out _ HB3.out _ HV3.out.val)
      by_cases hpos : 0 < (L.filter (belowB xs)).length
      · have HEK : Hid (E = 130) := by show _ = _; rw [HE2.out, if_pos hpos]
        have HPOS := hid_in hpos
        clear hpos
        go_wp2_with (first | (go_at_call 42; refine HB4.out.mono ?_; rintro e w4 ⟨v4, ps, rfl, hs4, hp4, hb4⟩; obtain ⟨p4, c4, rfl⟩ := hs4.form; have HC5 := hid_in (HC3.out.trans (hb4.mono HC3.out.size)); have jp : (0 : Int) < (ps.length : Int) := (by rw [hp4.length_eq]; have := HPOS.out; omega); clear hs4 hp4 hb4) | (go_at_call 30; refine (HREF.out _ _).mono ?_; rintro e w5 ⟨rfl, hb5⟩; obtain ⟨⟨⟨g0, g1, g2, g3, g4⟩, q0, q1, q2, q3, q4⟩, hr5, hb5'⟩ := HERR.out _ (HC5.out.trans (hb5.mono HC5.out.size)); have HR5 := hid_in hr5; have HB5 := hid_in hb5'; clear hb5 hr5 hb5'))
        refine post_err H.out HR5.out HB5.out 130 _ rfl rfl rfl fun W' hf hg => ⟨by rw [HEK.out], ⟨L, hf, ?_⟩, hg⟩
        rw [HA.out, HEK.out, if_neg (by decide)]
      · have HEK : Hid (E = 0) := by show _ = _; rw [HE2.out, if_neg hpos]
        have HPOS := hid_in hpos
        clear hpos
        go_wp2_with (first | (go_at_call 42; refine HB4.out.mono ?_; rintro e w4 ⟨v4, ps, rfl, hs4, hp4, hb4⟩; obtain ⟨p4, c4, rfl⟩ := hs4.form; have HC5 := hid_in (HC3.out.trans (hb4.mono HC3.out.size)); have HV5 := hid_in (HV3.out.below hb4); have jp : ¬ ((0 : Int) < (ps.length : Int)) := (by rw [hp4.length_eq]; have := HPOS.out; omega); clear hs4 hp4 hb4) | (go_at_call 95; refine (HDR.out _ (HBA.out.trans (HC5.out.mono HBA.out.size)) _ HV5.out.val).mono ?_; rintro e w6 ⟨rfl, hf6, hg6⟩; have hr6 := Row.map (HRA.out.below HC5.out HRA.out.lt) (H.out.below (HBA.out.trans (HC5.out.mono HBA.out.size))).map hg6; obtain ⟨⟨g0, g1, g2, g3, g4⟩, q0, q1, q2, q3, q4⟩ := res_cells hr6 (Below.refl _ w6); have HR6 := hid_in hr6; have HF6 := hid_in hf6; have HG6 := hid_in (grown_plus (HBA.out.trans (HC5.out.mono HBA.out.size)) hg6); clear hf6 hg6 hr6))
        refine post_Row 4 37 rfl (w.heap.size + 1) rfl 37 [.int .i64 0, .bool false, .int .i64 0, .string ⟨#[]⟩, .slice none 0 0] (set5_row HR6.out rfl _ _ _ _ _) _ Tryz.underlying37 rfl 5 info37 rfl rfl ⟨by rw [HEK.out]; rfl, ⟨_, HF6.out.set5 HR6.out (by decide) H.out.ne1 _ _ _ _ _, ?_⟩, grown_set5 HG6.out (Nat.le_succ _) _ _ _ _ _⟩
        rw [HA.out, HEK.out, if_pos rfl, cutP_ent]
    · have hk2 : (e0 != 0) = true := by simpa using hk
      have HEK : Hid (E = e0) := by show _ = _; rw [HE1.out, if_pos hk]
      have HK0 := hid_in hk
      clear hk
      go_wp2_with (first | (go_at_call 30; refine (HREF.out _ _).mono ?_; rintro e w5 ⟨rfl, hb5⟩; obtain ⟨⟨⟨g0, g1, g2, g3, g4⟩, q0, q1, q2, q3, q4⟩, hr5, hb5'⟩ := HERR.out _ (HC3.out.trans (hb5.mono HC3.out.size)); have HR5 := hid_in hr5; have HB5 := hid_in hb5'; clear hb5 hr5 hb5'))
      refine post_err H.out HR5.out HB5.out e0 _ rfl rfl rfl fun W' hf hg => ⟨by rw [HEK.out], ⟨L, hf, ?_⟩, hg⟩
      rw [HA.out, HEK.out, if_neg HK0.out]
end Go.Proofs.YtngehkmdanhgpaaGreat.Pl
namespace Go.Proofs.YtngehkmdanhgpaaGreat.Nd
open Go.RowKit
def zs : List Value := [.int .i64 0, .string ⟨#[]⟩, .int .i64 0, .slice none 0 0, .slice none 0 0]
end Go.Proofs.YtngehkmdanhgpaaGreat.Nd
namespace Go.Proofs.YtngehkmdanhgpaaGreat.Nd
open Go.RowKit
/-- the word of a kind -/
def wordOf (k : Int) : ByteArray :=
  if k = 1 then ⟨#[109, 107, 100, 105, 114]⟩ else if k = 2 then ⟨#[99, 114, 101, 97, 116, 101]⟩ else if k = 3 then ⟨#[119, 114, 105, 116, 101]⟩ else
  if k = 4 then ⟨#[116, 114, 117, 110, 99, 97, 116, 101]⟩ else if k = 5 then ⟨#[117, 110, 108, 105, 110, 107]⟩ else if k = 6 then ⟨#[114, 109, 100, 105, 114]⟩ else
  if k = 7 then ⟨#[114, 101, 110, 97, 109, 101]⟩ else if k = 8 then ⟨#[114, 101, 97, 100]⟩ else if k = 9 then ⟨#[108, 105, 115, 116]⟩ else
  if k = 10 then ⟨#[115, 116, 97, 116]⟩ else if k = 11 then ⟨#[102, 111, 114, 103, 101, 116]⟩ else ⟨#[]⟩
theorem kinds_split (k : Int) : k = 1 ∨ k = 2 ∨ k = 3 ∨ k = 4 ∨ k = 5 ∨ k = 6 ∨ k = 7 ∨ k = 8 ∨ k = 9 ∨ k = 10 ∨ k = 11 ∨ (k ≠ 1 ∧ k ≠ 2 ∧ k ≠ 3 ∧ k ≠ 4 ∧ k ≠ 5 ∧ k ≠ 6 ∧ k ≠ 7 ∧ k ≠ 8 ∧ k ≠ 9 ∧ k ≠ 10 ∧ k ≠ 11) := by omega
set_option maxHeartbeats 1000000 in
set_option maxRecDepth 100000 in
theorem word_any (k : Int) (w : World) : Calls Tryz.prog 59 #[.int .i64 k] w fun e w' => e = .returned (.string (wordOf k)) ∧ w' = w := by
  rcases kinds_split k with rfl | rfl | rfl | rfl | rfl | rfl | rfl | rfl | rfl | rfl | rfl | ⟨h1, h2, h3, h4, h5, h6, h7, h8, h9, h10, h11⟩
  case inr.inr.inr.inr.inr.inr.inr.inr.inr.inr.inr =>
    have HV : Hid (wordOf k = ⟨#[]⟩) := by show _ = _; simp [wordOf, h1, h2, h3, h4, h5, h6, h7, h8, h9, h10, h11]
    go_enter Tryz.func59, Tryz.ntmps59
    go_wp2
    go_ret
    rw [HV.out]
    exact ⟨rfl, rfl⟩
  all_goals
    go_enter Tryz.func59, Tryz.ntmps59
    go_wp2
    go_ret
    exact ⟨rfl, rfl⟩
theorem toL_inj {a b : ByteArray} (h : a.toList = b.toList) : a = b := by
  rw [Lib.toList_data, Lib.toList_data] at h
  exact ByteArray.ext (Array.toList_inj.1 h)
end Go.Proofs.YtngehkmdanhgpaaGreat.Nd
namespace Go.Proofs.YtngehkmdanhgpaaGreat.Nd
open Go.RowKit
/-- an operation -/
structure Opn where
  kind : Int
  path : ByteArray
  dest : ByteArray
  data : ByteArray
  at_ : Int
  size : Int
  deriving DecidableEq
def Opn.cells (o : Opn) : List Value := [.int .i64 o.kind, .string o.path, .string o.dest, .string o.data, .int .i64 o.at_, .int .i64 o.size]
def Opn.val (o : Opn) : Value := .agg #[.int .i64 o.kind, .string o.path, .string o.dest, .string o.data, .int .i64 o.at_, .int .i64 o.size]
/-- an operation in a block of its own -/
theorem op_row (w : World) (k a z : Int) (p t d : ByteArray) : ∃ w2, Hid (w.alloc (.cells #[.int .i64 k, .string p, .string t, .string d, .int .i64 a, .int .i64 z] 40) = w2) ∧ Hid (Row w2 w.heap.size [.int .i64 k, .string p, .string t, .string d, .int .i64 a, .int .i64 z] 40) ∧ Hid (Below w.heap.size w w2) ∧ Hid (w2.heap.size = w.heap.size + 1) :=
  ⟨_, rfl, Row.new w [.int .i64 k, .string p, .string t, .string d, .int .i64 a, .int .i64 z] 40, (Below.refl _ _).alloc (Nat.le_refl _) _, by show _ = _; simp⟩
/-- the fields that a kind names -/
def namedS (o : Opn) : Opn :=
  if o.kind = 8 then ⟨o.kind, o.path, ⟨#[]⟩, ⟨#[]⟩, o.at_, o.size⟩ else if o.kind = 4 then ⟨o.kind, o.path, ⟨#[]⟩, ⟨#[]⟩, 0, o.size⟩ else
  if o.kind = 7 then ⟨o.kind, o.path, o.dest, ⟨#[]⟩, 0, 0⟩ else if o.kind = 3 then ⟨o.kind, o.path, ⟨#[]⟩, o.data, o.at_, 0⟩ else
  if o.kind = 11 then ⟨o.kind, ⟨#[]⟩, ⟨#[]⟩, ⟨#[]⟩, o.at_, 0⟩ else ⟨o.kind, o.path, ⟨#[]⟩, ⟨#[]⟩, 0, 0⟩
theorem info23 : (Tryz.prog.info? 40).map (·.size) = some 6 := by kernel_rfl
theorem row_mid (w : World) (o1 o3 : Obj) (vs : List Value) (t : TypeId) : Row (((w.alloc o1).alloc (.cells vs.toArray t)).alloc o3) (w.heap.size + 1) vs t :=
  (Row.newAt (w.alloc o1) (w.heap.size + 1) vs t (by simp)).alloc o3
theorem bel3 (w : World) (o1 o2 o3 : Obj) : Below w.heap.size w (((w.alloc o1).alloc o2).alloc o3) :=
  (((Below.refl _ _).alloc (Nat.le_refl _) _).alloc (by simp) _).alloc (by simp; omega) _
set_option maxHeartbeats 2000000 in
set_option maxRecDepth 100000 in
theorem named_1 (p t d : ByteArray) (a z : Int) (w : World) : Calls Tryz.prog 60 #[.agg #[.int .i64 1, .string p, .string t, .string d, .int .i64 a, .int .i64 z]] w fun e w' => e = .returned (.agg #[.int .i64 1, .string p, .string ⟨#[]⟩, .string ⟨#[]⟩, .int .i64 0, .int .i64 0]) ∧ Below w.heap.size w w' := by
  go_enter Tryz.func60, Tryz.ntmps60
  go_wp2
  exact post_Row 2 40 rfl (w.heap.size + 1) rfl 40 [.int .i64 1, .string p, .string ⟨#[]⟩, .string ⟨#[]⟩, .int .i64 0, .int .i64 0] (row_mid w _ _ _ _) _ Tryz.underlying40 rfl 6 info23 rfl rfl ⟨rfl, by first | exact bel3 w _ _ _ | exact (bel3 w _ _ _).drew⟩
set_option maxHeartbeats 2000000 in
set_option maxRecDepth 100000 in
theorem named_2 (p t d : ByteArray) (a z : Int) (w : World) : Calls Tryz.prog 60 #[.agg #[.int .i64 2, .string p, .string t, .string d, .int .i64 a, .int .i64 z]] w fun e w' => e = .returned (.agg #[.int .i64 2, .string p, .string ⟨#[]⟩, .string ⟨#[]⟩, .int .i64 0, .int .i64 0]) ∧ Below w.heap.size w w' := by
  go_enter Tryz.func60, Tryz.ntmps60
  go_wp2
  exact post_Row 2 40 rfl (w.heap.size + 1) rfl 40 [.int .i64 2, .string p, .string ⟨#[]⟩, .string ⟨#[]⟩, .int .i64 0, .int .i64 0] (row_mid w _ _ _ _) _ Tryz.underlying40 rfl 6 info23 rfl rfl ⟨rfl, by first | exact bel3 w _ _ _ | exact (bel3 w _ _ _).drew⟩
set_option maxHeartbeats 2000000 in
set_option maxRecDepth 100000 in
theorem named_3 (p t d : ByteArray) (a z : Int) (w : World) : Calls Tryz.prog 60 #[.agg #[.int .i64 3, .string p, .string t, .string d, .int .i64 a, .int .i64 z]] w fun e w' => e = .returned (.agg #[.int .i64 3, .string p, .string ⟨#[]⟩, .string d, .int .i64 a, .int .i64 0]) ∧ Below w.heap.size w w' := by
  go_enter Tryz.func60, Tryz.ntmps60
  go_wp2
  go_region
  go_wp2
  exact post_Row 2 40 rfl (w.heap.size + 1) rfl 40 [.int .i64 3, .string p, .string ⟨#[]⟩, .string d, .int .i64 a, .int .i64 0] (row_mid w _ _ _ _) _ Tryz.underlying40 rfl 6 info23 rfl rfl ⟨rfl, by first | exact bel3 w _ _ _ | exact (bel3 w _ _ _).drew⟩
set_option maxHeartbeats 2000000 in
set_option maxRecDepth 100000 in
theorem named_4 (p t d : ByteArray) (a z : Int) (w : World) : Calls Tryz.prog 60 #[.agg #[.int .i64 4, .string p, .string t, .string d, .int .i64 a, .int .i64 z]] w fun e w' => e = .returned (.agg #[.int .i64 4, .string p, .string ⟨#[]⟩, .string ⟨#[]⟩, .int .i64 0, .int .i64 z]) ∧ Below w.heap.size w w' := by
  go_enter Tryz.func60, Tryz.ntmps60
  go_wp2
  exact post_Row 2 40 rfl (w.heap.size + 1) rfl 40 [.int .i64 4, .string p, .string ⟨#[]⟩, .string ⟨#[]⟩, .int .i64 0, .int .i64 z] (row_mid w _ _ _ _) _ Tryz.underlying40 rfl 6 info23 rfl rfl ⟨rfl, by first | exact bel3 w _ _ _ | exact (bel3 w _ _ _).drew⟩
set_option maxHeartbeats 2000000 in
set_option maxRecDepth 100000 in
theorem named_5 (p t d : ByteArray) (a z : Int) (w : World) : Calls Tryz.prog 60 #[.agg #[.int .i64 5, .string p, .string t, .string d, .int .i64 a, .int .i64 z]] w fun e w' => e = .returned (.agg #[.int .i64 5, .string p, .string ⟨#[]⟩, .string ⟨#[]⟩, .int .i64 0, .int .i64 0]) ∧ Below w.heap.size w w' := by
  go_enter Tryz.func60, Tryz.ntmps60
  go_wp2
  exact post_Row 2 40 rfl (w.heap.size + 1) rfl 40 [.int .i64 5, .string p, .string ⟨#[]⟩, .string ⟨#[]⟩, .int .i64 0, .int .i64 0] (row_mid w _ _ _ _) _ Tryz.underlying40 rfl 6 info23 rfl rfl ⟨rfl, by first | exact bel3 w _ _ _ | exact (bel3 w _ _ _).drew⟩
set_option maxHeartbeats 2000000 in
set_option maxRecDepth 100000 in
theorem named_6 (p t d : ByteArray) (a z : Int) (w : World) : Calls Tryz.prog 60 #[.agg #[.int .i64 6, .string p, .string t, .string d, .int .i64 a, .int .i64 z]] w fun e w' => e = .returned (.agg #[.int .i64 6, .string p, .string ⟨#[]⟩, .string ⟨#[]⟩, .int .i64 0, .int .i64 0]) ∧ Below w.heap.size w w' := by
  go_enter Tryz.func60, Tryz.ntmps60
  go_wp2
  exact post_Row 2 40 rfl (w.heap.size + 1) rfl 40 [.int .i64 6, .string p, .string ⟨#[]⟩, .string ⟨#[]⟩, .int .i64 0, .int .i64 0] (row_mid w _ _ _ _) _ Tryz.underlying40 rfl 6 info23 rfl rfl ⟨rfl, by first | exact bel3 w _ _ _ | exact (bel3 w _ _ _).drew⟩
set_option maxHeartbeats 2000000 in
set_option maxRecDepth 100000 in
theorem named_7 (p t d : ByteArray) (a z : Int) (w : World) : Calls Tryz.prog 60 #[.agg #[.int .i64 7, .string p, .string t, .string d, .int .i64 a, .int .i64 z]] w fun e w' => e = .returned (.agg #[.int .i64 7, .string p, .string t, .string ⟨#[]⟩, .int .i64 0, .int .i64 0]) ∧ Below w.heap.size w w' := by
  go_enter Tryz.func60, Tryz.ntmps60
  go_wp2
  go_region
  go_wp2
  exact post_Row 2 40 rfl (w.heap.size + 1) rfl 40 [.int .i64 7, .string p, .string t, .string ⟨#[]⟩, .int .i64 0, .int .i64 0] (row_mid w _ _ _ _) _ Tryz.underlying40 rfl 6 info23 rfl rfl ⟨rfl, by first | exact bel3 w _ _ _ | exact (bel3 w _ _ _).drew⟩
set_option maxHeartbeats 2000000 in
set_option maxRecDepth 100000 in
theorem named_8 (p t d : ByteArray) (a z : Int) (w : World) : Calls Tryz.prog 60 #[.agg #[.int .i64 8, .string p, .string t, .string d, .int .i64 a, .int .i64 z]] w fun e w' => e = .returned (.agg #[.int .i64 8, .string p, .string ⟨#[]⟩, .string ⟨#[]⟩, .int .i64 a, .int .i64 z]) ∧ Below w.heap.size w w' := by
  go_enter Tryz.func60, Tryz.ntmps60
  go_wp2
  exact post_Row 2 40 rfl (w.heap.size + 1) rfl 40 [.int .i64 8, .string p, .string ⟨#[]⟩, .string ⟨#[]⟩, .int .i64 a, .int .i64 z] (row_mid w _ _ _ _) _ Tryz.underlying40 rfl 6 info23 rfl rfl ⟨rfl, by first | exact bel3 w _ _ _ | exact (bel3 w _ _ _).drew⟩
set_option maxHeartbeats 2000000 in
set_option maxRecDepth 100000 in
theorem named_9 (p t d : ByteArray) (a z : Int) (w : World) : Calls Tryz.prog 60 #[.agg #[.int .i64 9, .string p, .string t, .string d, .int .i64 a, .int .i64 z]] w fun e w' => e = .returned (.agg #[.int .i64 9, .string p, .string ⟨#[]⟩, .string ⟨#[]⟩, .int .i64 0, .int .i64 0]) ∧ Below w.heap.size w w' := by
  go_enter Tryz.func60, Tryz.ntmps60
  go_wp2
  exact post_Row 2 40 rfl (w.heap.size + 1) rfl 40 [.int .i64 9, .string p, .string ⟨#[]⟩, .string ⟨#[]⟩, .int .i64 0, .int .i64 0] (row_mid w _ _ _ _) _ Tryz.underlying40 rfl 6 info23 rfl rfl ⟨rfl, by first | exact bel3 w _ _ _ | exact (bel3 w _ _ _).drew⟩
set_option maxHeartbeats 2000000 in
set_option maxRecDepth 100000 in
theorem named_10 (p t d : ByteArray) (a z : Int) (w : World) : Calls Tryz.prog 60 #[.agg #[.int .i64 10, .string p, .string t, .string d, .int .i64 a, .int .i64 z]] w fun e w' => e = .returned (.agg #[.int .i64 10, .string p, .string ⟨#[]⟩, .string ⟨#[]⟩, .int .i64 0, .int .i64 0]) ∧ Below w.heap.size w w' := by
  go_enter Tryz.func60, Tryz.ntmps60
  go_wp2
  exact post_Row 2 40 rfl (w.heap.size + 1) rfl 40 [.int .i64 10, .string p, .string ⟨#[]⟩, .string ⟨#[]⟩, .int .i64 0, .int .i64 0] (row_mid w _ _ _ _) _ Tryz.underlying40 rfl 6 info23 rfl rfl ⟨rfl, by first | exact bel3 w _ _ _ | exact (bel3 w _ _ _).drew⟩
set_option maxHeartbeats 2000000 in
set_option maxRecDepth 100000 in
theorem named_11 (p t d : ByteArray) (a z : Int) (w : World) : Calls Tryz.prog 60 #[.agg #[.int .i64 11, .string p, .string t, .string d, .int .i64 a, .int .i64 z]] w fun e w' => e = .returned (.agg #[.int .i64 11, .string ⟨#[]⟩, .string ⟨#[]⟩, .string ⟨#[]⟩, .int .i64 a, .int .i64 0]) ∧ Below w.heap.size w w' := by
  go_enter Tryz.func60, Tryz.ntmps60
  go_wp2
  exact post_Row 2 40 rfl (w.heap.size + 1) rfl 40 [.int .i64 11, .string ⟨#[]⟩, .string ⟨#[]⟩, .string ⟨#[]⟩, .int .i64 a, .int .i64 0] (row_mid w _ _ _ _) _ Tryz.underlying40 rfl 6 info23 rfl rfl ⟨rfl, by first | exact bel3 w _ _ _ | exact (bel3 w _ _ _).drew⟩
/-- whether the numbers may be -/
def numsOk (k a z : Int) : Prop := (k = 11 ∧ 1 ≤ a ∧ a ≤ 8) ∨ (k ≠ 11 ∧ 0 ≤ a ∧ 0 ≤ z)
theorem nums_split (k a z : Int) : (k = 11 ∧ a < 1) ∨ (k = 11 ∧ 8 < a) ∨ (k = 11 ∧ 1 ≤ a ∧ a ≤ 8) ∨ (k ≠ 11 ∧ a < 0) ∨ (k ≠ 11 ∧ 0 ≤ a ∧ z < 0) ∨ (k ≠ 11 ∧ 0 ≤ a ∧ 0 ≤ z) := by omega
set_option maxHeartbeats 1000000 in
set_option maxRecDepth 100000 in
theorem areNumbers_any (k : Int) (p t d : ByteArray) (a z : Int) (w : World) : Calls Tryz.prog 61 #[.agg #[.int .i64 k, .string p, .string t, .string d, .int .i64 a, .int .i64 z]] w fun e w' => Says e (numsOk k a z) ∧ Below w.heap.size w w' := by
  obtain ⟨W0, H0, HR0, HB0, HZ0⟩ := op_row w k a z p t d
  have c0 : W0.cell? ⟨w.heap.size, 0, none⟩ = some (.int .i64 k) := HR0.out.cell 0
  have c4 : W0.cell? ⟨w.heap.size, 4, none⟩ = some (.int .i64 a) := HR0.out.cell 4
  have c5 : W0.cell? ⟨w.heap.size, 5, none⟩ = some (.int .i64 z) := HR0.out.cell 5
  rcases nums_split k a z with ⟨rfl, h1⟩ | ⟨rfl, h1⟩ | ⟨rfl, h1, h2⟩ | ⟨h0, h1⟩ | ⟨h0, h1, h2⟩ | ⟨h0, h1, h2⟩
  · have HN : Hid (¬ numsOk 11 a z) := by show ¬ _; unfold numsOk; omega
    have k1 : ¬ (1 ≤ a) := by omega
    go_enter Tryz.func61, Tryz.ntmps61
    go_upto_region 1 with fail
    refine wp_world H0.out ?_
    clear H0
    go_wp2
    go_ret
    exact ⟨.no rfl HN.out, HB0.out⟩
  · have HN : Hid (¬ numsOk 11 a z) := by show ¬ _; unfold numsOk; omega
    have k1 : 1 ≤ a := by omega
    have k2 : ¬ (a ≤ 8) := by omega
    go_enter Tryz.func61, Tryz.ntmps61
    go_upto_region 1 with fail
    refine wp_world H0.out ?_
    clear H0
    go_wp2
    go_ret
    exact ⟨.no rfl HN.out, HB0.out⟩
  · have HN : Hid (numsOk 11 a z) := by show numsOk _ _ _; unfold numsOk; omega
    go_enter Tryz.func61, Tryz.ntmps61
    go_upto_region 1 with fail
    refine wp_world H0.out ?_
    clear H0
    go_wp2
    go_ret
    exact ⟨.yes rfl HN.out, HB0.out⟩
  · have HN : Hid (¬ numsOk k a z) := by show ¬ _; unfold numsOk; omega
    have k0 : (k == 11) = false := beq_eq_false_iff_ne.2 h0
    have k1 : ¬ (0 ≤ a) := by omega
    go_enter Tryz.func61, Tryz.ntmps61
    go_upto_region 1 with fail
    refine wp_world H0.out ?_
    clear H0
    go_wp2
    go_ret
    exact ⟨.no rfl HN.out, HB0.out⟩
  · have HN : Hid (¬ numsOk k a z) := by show ¬ _; unfold numsOk; omega
    have k0 : (k == 11) = false := beq_eq_false_iff_ne.2 h0
    have k1 : ¬ (0 ≤ z) := by omega
    go_enter Tryz.func61, Tryz.ntmps61
    go_upto_region 1 with fail
    refine wp_world H0.out ?_
    clear H0
    go_wp2
    go_ret
    exact ⟨.no rfl HN.out, HB0.out⟩
  · have HN : Hid (numsOk k a z) := by show numsOk _ _ _; unfold numsOk; omega
    have k0 : (k == 11) = false := beq_eq_false_iff_ne.2 h0
    go_enter Tryz.func61, Tryz.ntmps61
    go_upto_region 1 with fail
    refine wp_world H0.out ?_
    clear H0
    go_wp2
    go_ret
    exact ⟨.yes rfl HN.out, HB0.out⟩
/-- the error of a path's text -/
def perr (s : ByteArray) : Int := (Vp.parseS (Vp.bl s)).2
theorem B_bl (s : ByteArray) : Vp.B (Vp.bl s) = s := by simp [Vp.B, Vp.bl]
theorem parse_p (s : ByteArray) (hs : s.size ≤ 9223372036854775807) (w : World) : Calls Tryz.prog 47 #[.string s] w fun e w' => ∃ v, e = .returned (.tuple #[v, .int .i64 (perr s)]) ∧ Below w.heap.size w w' := by
  have h := Vp.parse_any (Vp.bl s) (by rw [Vp.bl_length]; exact hs) w
  rw [B_bl] at h
  refine h.mono ?_
  rintro e w' ⟨v, rfl, _, hb⟩
  exact ⟨v, rfl, hb⟩
theorem rparse_p (s : ByteArray) (hs : s.size ≤ 9223372036854775807) (w : World) : Calls Tryz.prog 46 #[.string s] w fun e w' => ∃ v, e = .returned (.tuple #[v, .int .i64 (perr s)]) ∧ Below w.heap.size w w' := by
  have h := Vp.rparse_any (Vp.bl s) (by rw [Vp.bl_length]; exact hs) w
  rw [B_bl] at h
  refine h.mono ?_
  rintro e w' ⟨v, rfl, _, hb⟩
  exact ⟨v, rfl, hb⟩
/-- the error of an operation's paths -/
def pathsS (k : Int) (p t : ByteArray) : Int := if k = 11 then 0 else if perr p = 0 ∧ k = 7 then perr t else perr p
theorem paths_split (k : Int) (p : ByteArray) : k = 11 ∨ (k ≠ 11 ∧ perr p ≠ 0) ∨ (k ≠ 11 ∧ perr p = 0 ∧ k ≠ 7) ∨ (perr p = 0 ∧ k = 7) := by omega
set_option maxHeartbeats 1000000 in
set_option maxRecDepth 100000 in
theorem checkPaths_any (k : Int) (p t d : ByteArray) (a z : Int) (w : World) (hp : p.size ≤ 9223372036854775807) (ht : t.size ≤ 9223372036854775807) : Calls Tryz.prog 62 #[.agg #[.int .i64 k, .string p, .string t, .string d, .int .i64 a, .int .i64 z]] w fun e w' => e = .returned (.int .i64 (pathsS k p t)) ∧ Below w.heap.size w w' := by
  obtain ⟨W0, H0, HR0, HB0, HZ0⟩ := op_row w k a z p t d
  have c0 : W0.cell? ⟨w.heap.size, 0, none⟩ = some (.int .i64 k) := HR0.out.cell 0
  have c1 : W0.cell? ⟨w.heap.size, 1, none⟩ = some (.string p) := HR0.out.cell 1
  have HP := hid_in (fun W => parse_p p hp W)
  have HT := hid_in (fun W => parse_p t ht W)
  clear hp ht
  obtain ⟨ep, HEP⟩ : ∃ ep, Hid (perr p = ep) := ⟨_, rfl⟩
  obtain ⟨et, HET⟩ : ∃ et, Hid (perr t = et) := ⟨_, rfl⟩
  rcases paths_split k p with rfl | ⟨h0, h1⟩ | ⟨h0, h1, h2⟩ | ⟨h1, rfl⟩
  · have HV : Hid (pathsS 11 p t = 0) := by show _ = _; simp [pathsS]
    go_enter Tryz.func62, Tryz.ntmps62
    go_upto_region 1 with fail
    refine wp_world H0.out ?_
    clear H0
    go_wp2
    go_ret
    rw [HV.out]
    exact ⟨rfl, HB0.out⟩
  · have HV : Hid (pathsS k p t = ep) := by show _ = _; unfold pathsS; rw [if_neg h0, if_neg (fun h => h1 h.1)]; exact HEP.out
    have k0 : (k == 11) = false := beq_eq_false_iff_ne.2 h0
    have k1 : (ep == 0) = false := beq_eq_false_iff_ne.2 (by rw [← HEP.out]; exact h1)
    rw [HEP.out] at HP
    clear h1
    go_enter Tryz.func62, Tryz.ntmps62
    go_upto_region 1 with fail
    refine wp_world H0.out ?_
    clear H0
    go_wp2_with (first | (go_at_call 47; refine (HP.out _).mono ?_; rintro e w1 ⟨v1, rfl, hb1⟩; have HB1 := hid_in (HB0.out.trans (hb1.mono HB0.out.size)); clear hb1))
    go_ret
    rw [HV.out]
    exact ⟨rfl, HB1.out⟩
  · have HV : Hid (pathsS k p t = 0) := by show _ = _; simp [pathsS, h0, h1, h2]
    have k0 : (k == 11) = false := beq_eq_false_iff_ne.2 h0
    have k1 : (k == 7) = false := beq_eq_false_iff_ne.2 h2
    rw [h1] at HP
    clear h1 HEP
    go_enter Tryz.func62, Tryz.ntmps62
    go_upto_region 1 with fail
    refine wp_world H0.out ?_
    clear H0
    go_wp2_with (first | (go_at_call 47; refine (HP.out _).mono ?_; rintro e w1 ⟨v1, rfl, hb1⟩; have HB1 := hid_in (HB0.out.trans (hb1.mono HB0.out.size)); have c0' : w1.cell? ⟨w.heap.size, 0, none⟩ = some (.int .i64 k) := (HR0.out.below hb1 HR0.out.lt).cell 0; clear hb1))
    go_ret
    rw [HV.out]
    exact ⟨rfl, HB1.out⟩
  · have HV : Hid (pathsS 7 p t = et) := by show _ = _; simp [pathsS, h1, HET.out]
    rw [h1] at HP
    rw [HET.out] at HT
    clear h1 HEP
    go_enter Tryz.func62, Tryz.ntmps62
    go_upto_region 1 with fail
    refine wp_world H0.out ?_
    clear H0
    go_wp2_with (first | (go_at_call 47; refine (HP.out _).mono ?_; rintro e w1 ⟨v1, rfl, hb1⟩; have HB1 := hid_in (HB0.out.trans (hb1.mono HB0.out.size)); have c0' : w1.cell? ⟨w.heap.size, 0, none⟩ = some (.int .i64 7) := (HR0.out.below hb1 HR0.out.lt).cell 0; have c2' : w1.cell? ⟨w.heap.size, 2, none⟩ = some (.string t) := (HR0.out.below hb1 HR0.out.lt).cell 2; clear hb1 HP) | (go_at_call 47; have hx := HB1.out; refine (HT.out _).mono ?_; rintro e w2 ⟨v2, rfl, hb2⟩; have HB2 := hid_in (HB1.out.trans (hb2.mono HB1.out.size)); clear hb2 hx))
    go_ret
    rw [HV.out]
    exact ⟨rfl, HB2.out⟩
end Go.Proofs.YtngehkmdanhgpaaGreat.Nd
