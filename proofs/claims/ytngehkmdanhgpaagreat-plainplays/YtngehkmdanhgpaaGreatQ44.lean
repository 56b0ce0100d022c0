/-
  The reference's Do, kind by kind.
-/
import Derived.Laws.CopyOwn
import Derived.Deep.RegionLaw
import Derived.Deep.DrawnRows
import Derived.Deep.CutRange
import Derived.Lib.SlBytesConst
import Derived.Lib.AppendZeros
import Derived.Laws.Tables
import Derived.Test.YtngehkmdanhgpaaGreatQ00
import Derived.Test.YtngehkmdanhgpaaGreatQ01
import Derived.Test.YtngehkmdanhgpaaGreatQ02
import Derived.Test.YtngehkmdanhgpaaGreatQ03
import Derived.Test.YtngehkmdanhgpaaGreatQ04
import Derived.Test.YtngehkmdanhgpaaGreatQ05
import Derived.Test.YtngehkmdanhgpaaGreatQ06
import Derived.Test.YtngehkmdanhgpaaGreatQ07
import Derived.Test.YtngehkmdanhgpaaGreatQ08
import Derived.Test.YtngehkmdanhgpaaGreatQ09
import Derived.Test.YtngehkmdanhgpaaGreatQ10
import Derived.Test.YtngehkmdanhgpaaGreatQ11
import Derived.Test.YtngehkmdanhgpaaGreatQ12
import Derived.Test.YtngehkmdanhgpaaGreatQ13
import Derived.Test.YtngehkmdanhgpaaGreatQ14
import Derived.Test.YtngehkmdanhgpaaGreatQ15
import Derived.Test.YtngehkmdanhgpaaGreatQ16
import Derived.Test.YtngehkmdanhgpaaGreatQ17
import Derived.Test.YtngehkmdanhgpaaGreatQ18
import Derived.Test.YtngehkmdanhgpaaGreatQ19
import Derived.Test.YtngehkmdanhgpaaGreatQ20
import Derived.Test.YtngehkmdanhgpaaGreatQ21
import Derived.Test.YtngehkmdanhgpaaGreatQ22
import Derived.Test.YtngehkmdanhgpaaGreatQ23
import Derived.Test.YtngehkmdanhgpaaGreatQ24
import Derived.Test.YtngehkmdanhgpaaGreatQ25
import Derived.Test.YtngehkmdanhgpaaGreatQ26
import Derived.Test.YtngehkmdanhgpaaGreatQ27
import Derived.Test.YtngehkmdanhgpaaGreatQ28
import Derived.Test.YtngehkmdanhgpaaGreatQ29
import Derived.Test.YtngehkmdanhgpaaGreatQ30
import Derived.Test.YtngehkmdanhgpaaGreatQ31
import Derived.Test.YtngehkmdanhgpaaGreatQ32
import Derived.Test.YtngehkmdanhgpaaGreatQ33
import Derived.Test.YtngehkmdanhgpaaGreatQ34
import Derived.Test.YtngehkmdanhgpaaGreatQ35
import Derived.Test.YtngehkmdanhgpaaGreatQ36
import Derived.Test.YtngehkmdanhgpaaGreatQ37
import Derived.Test.YtngehkmdanhgpaaGreatQ38
import Derived.Test.YtngehkmdanhgpaaGreatQ39
import Derived.Test.YtngehkmdanhgpaaGreatQ40
import Derived.Test.YtngehkmdanhgpaaGreatQ41
import Derived.Test.YtngehkmdanhgpaaGreatQ42
import Derived.Test.YtngehkmdanhgpaaGreatQ43
namespace Go.Proofs.YtngehkmdanhgpaaGreat.Pl
open Go.RowKit
open Vp (Str B bl Val cmpL parseS showS splitS withinS IsPath sv)
open Nd (take_put Row wp_world post_Row post_Row2 grownBy_setCell below_of_grown checkS Opn)
open Rf (Fil Fls FO fcells fcells_len)
/-- what Do answers and leaves -/
def RDo (w : World) (r : Nat) (P : RA → List Ent → Prop) (e : Ending) (w' : World) : Prop := ∃ rc rd rs rx rn es' v, P ⟨rc, rd, rs, rx, rn⟩ es' ∧ e = .returned (.agg #[.int .i64 rc, .bool rd, .int .i64 rs, .string rx, v]) ∧ Rf.Nm w' v rn ∧ RF w' r es' ∧ w.grownBy w' (some r)
theorem names_t (p : ByteArray) (hp : p.size ≤ 9223372036854775807) (w : World) : Calls Tryz.prog 19 #[.string p] w fun x w' => ∃ pp c, x = .returned (.slice pp (nmsOf p).length c) ∧ Val w' (.slice pp (nmsOf p).length c) (nmsOf p) ∧ Below w.heap.size w w' := by
  refine (Rf.names_any p hp w).mono ?_
  rintro x w' ⟨⟨v, rfl, hn⟩, hb⟩
  have h2 : Rf.nmsOf p = nmsOf p := rfl
  rw [h2] at hn
  obtain ⟨pp, c, rfl⟩ := Vp.Nms.shape hn
  exact ⟨pp, c, rfl, Vp.Nms.val hn, hb⟩
theorem gr_plus {a b c : World} {r : Nat} (h : Below a.heap.size a b) (k : b.grownBy c (some r)) : a.grownBy c (some r) := grown_plus h k
theorem nodrewg {b c : World} {r : Nat} (h : b.drew.grownBy c (some r)) : b.grownBy c (some r) := gr_plus (Nd.below_drewN (Below.refl _ b) 1) h
theorem Row.drew1 {w : World} {b : Nat} {vs : List Value} {t : TypeId} (h : Row w b vs t) : Row w.drew b vs t := h
theorem info40r : (Tryz.prog.info? 40).map (·.size) = some 6 := by kernel_rfl
set_option maxHeartbeats 4000000 in
set_option maxRecDepth 100000 in
theorem rdo_err {w : World} {r : Nat} {es : List Ent} (h : RF w r es) (k a z : Int) (p t d : ByteArray) (hp : p.size ≤ 9223372036854775807) (ht : t.size ≤ 9223372036854775807) (hc : checkS ⟨k, p, t, d, a, z⟩ ≠ 0) (P : RA → List Ent → Prop) (hP : P (RA.err (checkS ⟨k, p, t, d, a, z⟩)) es) :
    Calls Tryz.prog 15 #[.pointer (some ⟨r, 0, none⟩), .agg #[.int .i64 k, .string p, .string t, .string d, .int .i64 a, .int .i64 z]] w fun e w' => RDo w r P e w' := by
  obtain ⟨WA, HWA, HRO, HRA, HBA⟩ := op_box w k a z p t d
  have HRU := hid_in h
  have HRL := hid_in h.lt9
  have HCK := hid_in (fun W => Nd.rcheck_any ⟨k, p, t, d, a, z⟩ hp ht W)
  simp only [Opn.val] at HCK
  have HNA := hid_in (fun W => names_t p hp W)
  obtain ⟨c0, c1, c2, c3, c4, c5⟩ := op_cells HRO.out (Below.refl _ WA)
  have HK := hid_in (fun W (kb : Below WA.heap.size WA W) => op_cells HRO.out kb)
  obtain ⟨C, HCC⟩ : ∃ C, Hid (checkS ⟨k, p, t, d, a, z⟩ = C) := ⟨_, hid_in rfl⟩
  rw [HCC.out] at HCK hP hc
  have hc2 : (C != 0) = true := by simpa using hc
  have HP := hid_in hP
  clear h hc hP HNA
  go_enter Tryz.func15, Tryz.ntmps15
  go_upto_region 1 with fail
  refine wp_world HWA.out ?_
  go_wp2_with (first | (go_at_call 33; refine (HCK.out _).mono ?_; rintro e w1 ⟨rfl, hb1⟩; have HC1 := hid_in hb1; clear hb1) | (go_at_call 34; refine (rfail_any _ _).mono ?_; rintro e w5 ⟨rfl, hb5⟩; have hc5 := HC1.out.trans (hb5.mono HC1.out.size); obtain ⟨⟨g0, g1, g2, g3, g4⟩, q0, q1, q2, q3, q4⟩ := res_cells HRA.out hc5; have HR5 := hid_in (HRA.out.below hc5 HRA.out.lt); have HB5 := hid_in (HBA.out.trans (hc5.mono HBA.out.size)); clear hb5 hc5))
  exact post_Row 4 37 rfl (w.heap.size + 1) rfl 37 [.int .i64 C, .bool false, .int .i64 0, .string ⟨#[]⟩, .slice none 0 0] (set5_row HR5.out rfl _ _ _ _ _) _ Tryz.underlying37 rfl 5 info37 rfl rfl ⟨_, _, _, _, _, es, _, HP.out, rfl, nm_nil _, (HRU.out.below HB5.out).set5 HR5.out _ _ _ _ _, gr_set5 (below_but r HB5.out) (by omega) _ _ _ _ _⟩
set_option maxHeartbeats 4000000 in
set_option maxRecDepth 100000 in
theorem rdo_11 {w : World} {r : Nat} {es : List Ent} (h : RF w r es) (a z : Int) (p t d : ByteArray) (hp : p.size ≤ 9223372036854775807) (ht : t.size ≤ 9223372036854775807) (hc : checkS ⟨11, p, t, d, a, z⟩ = 0) (P : RA → List Ent → Prop) (hP : P (RA.err 0) es) :
    Calls Tryz.prog 15 #[.pointer (some ⟨r, 0, none⟩), .agg #[.int .i64 11, .string p, .string t, .string d, .int .i64 a, .int .i64 z]] w fun e w' => RDo w r P e w' := by
  obtain ⟨WA, HWA, HRO, HRA, HBA⟩ := op_box w 11 a z p t d
  have HRU := hid_in h
  have HRL := hid_in h.lt9
  have HCK := hid_in (fun W => Nd.rcheck_any ⟨11, p, t, d, a, z⟩ hp ht W)
  simp only [Opn.val] at HCK
  have HNA := hid_in (fun W => names_t p hp W)
  obtain ⟨c0, c1, c2, c3, c4, c5⟩ := op_cells HRO.out (Below.refl _ WA)
  have HK := hid_in (fun W (kb : Below WA.heap.size WA W) => op_cells HRO.out kb)
  rw [hc] at HCK
  have HP := hid_in hP
  generalize (nmsOf p).length = pl at *
  clear h hc hP
  go_enter Tryz.func15, Tryz.ntmps15
  go_upto_region 1 with fail
  refine wp_world HWA.out ?_
  go_upto_region 26 with (first | (go_at_call 33; refine (HCK.out _).mono ?_; rintro e w1 ⟨rfl, hb1⟩; obtain ⟨e0, e1, e2, e3, e4, e5⟩ := HK.out _ hb1; have HC1 := hid_in hb1; clear hb1) | (go_at_call 19; refine (HNA.out _).mono ?_; rintro e w2 ⟨np, nc, rfl, hv2, hb2⟩; have HV2 := hid_in hv2; have HC2 := hid_in (HC1.out.trans (hb2.mono HC1.out.size)); obtain ⟨f0, f1, f2, f3, f4, f5⟩ := HK.out _ HC2.out; clear hv2 hb2))
  obtain ⟨⟨g0, g1, g2, g3, g4⟩, q0, q1, q2, q3, q4⟩ := res_cells HRA.out HC2.out
  have HR5 := hid_in (HRA.out.below HC2.out HRA.out.lt)
  have HB5 := hid_in (HBA.out.trans (HC2.out.mono HBA.out.size))
  go_wp2_with fail
  exact post_Row 4 37 rfl (w.heap.size + 1) rfl 37 [.int .i64 0, .bool false, .int .i64 0, .string ⟨#[]⟩, .slice none 0 0] (set5_row HR5.out rfl _ _ _ _ _) _ Tryz.underlying37 rfl 5 info37 rfl rfl ⟨_, _, _, _, _, es, _, HP.out, rfl, nm_nil _, (HRU.out.below HB5.out).set5 HR5.out _ _ _ _ _, gr_set5 (below_but r HB5.out) (by omega) _ _ _ _ _⟩
set_option maxHeartbeats 4000000 in
set_option maxRecDepth 100000 in
theorem rdo_3 {w : World} {r : Nat} {es : List Ent} (h : RF w r es) (a z : Int) (p t d : ByteArray) (hp : p.size ≤ 9223372036854775807) (ht : t.size ≤ 9223372036854775807) (hc : checkS ⟨3, p, t, d, a, z⟩ = 0) (P : RA → List Ent → Prop) (hd : ∀ W nv, Below w.heap.size w W → Val W nv (nmsOf p) → Calls Tryz.prog 38 #[.pointer (some ⟨r, 0, none⟩), .agg #[.int .i64 3, .string p, .string t, .string d, .int .i64 a, .int .i64 z], nv] W fun e w' => RDo W r P e w') :
    Calls Tryz.prog 15 #[.pointer (some ⟨r, 0, none⟩), .agg #[.int .i64 3, .string p, .string t, .string d, .int .i64 a, .int .i64 z]] w fun e w' => RDo w r P e w' := by
  obtain ⟨WA, HWA, HRO, HRA, HBA⟩ := op_box w 3 a z p t d
  have HRU := hid_in h
  have HRL := hid_in h.lt9
  have HCK := hid_in (fun W => Nd.rcheck_any ⟨3, p, t, d, a, z⟩ hp ht W)
  simp only [Opn.val] at HCK
  have HNA := hid_in (fun W => names_t p hp W)
  obtain ⟨c0, c1, c2, c3, c4, c5⟩ := op_cells HRO.out (Below.refl _ WA)
  have HK := hid_in (fun W (kb : Below WA.heap.size WA W) => op_cells HRO.out kb)
  rw [hc] at HCK
  have HD := hid_in hd
  unfold RDo at HD
  generalize (nmsOf p).length = pl at *
  clear h hc hd
  go_enter Tryz.func15, Tryz.ntmps15
  go_upto_region 1 with fail
  refine wp_world HWA.out ?_
  go_upto_region 19 with (first | (go_at_call 33; refine (HCK.out _).mono ?_; rintro e w1 ⟨rfl, hb1⟩; obtain ⟨e0, e1, e2, e3, e4, e5⟩ := HK.out _ hb1; have HC1 := hid_in hb1; clear hb1) | (go_at_call 19; refine (HNA.out _).mono ?_; rintro e w2 ⟨np, nc, rfl, hv2, hb2⟩; have HV2 := hid_in hv2; have HC2 := hid_in (HC1.out.trans (hb2.mono HC1.out.size)); obtain ⟨f0, f1, f2, f3, f4, f5⟩ := HK.out _ HC2.out; clear hv2 hb2))
  clear c0 c1 c2 c3 c4 c5 e0 e1 e2 e3 e4 e5
  go_wp2_with (go_at_call 38; refine (HD.out _ _ (HBA.out.trans (HC2.out.mono HBA.out.size)) HV2.out).mono ?_; rintro e w3 ⟨rc, rd, rs, rx, rn, es3, v3, hP3, rfl, hn3, hf3, hg3⟩; obtain ⟨vp, vc, rfl⟩ := hn3.form; have hr3 := (HRA.out.below HC2.out HRA.out.lt).grown hg3 (fun e => by have e1 := Option.some.inj e; have e2 := HRL.out; omega); obtain ⟨⟨g0, g1, g2, g3, g4⟩, q0, q1, q2, q3, q4⟩ := res_cells hr3 (Below.refl _ w3); have HR3 := hid_in hr3; have HN3 := hid_in hn3; have HF3 := hid_in hf3; have HP3 := hid_in hP3; have HG3 := hid_in (gr_plus (HBA.out.trans (HC2.out.mono HBA.out.size)) hg3); clear hn3 hf3 hP3 hg3 hr3)
  exact post_Row 4 37 rfl (w.heap.size + 1) rfl 37 [.int .i64 rc, .bool rd, .int .i64 rs, .string rx, .slice vp rn.length vc] (set5_row HR3.out rfl _ _ _ _ _) _ Tryz.underlying37 rfl 5 info37 rfl rfl ⟨_, _, _, _, _, es3, _, HP3.out, rfl, nm_set5 HN3.out HR3.out (by decide) _ _ _ _ _, HF3.out.set5 HR3.out _ _ _ _ _, gr_set5 HG3.out (by omega) _ _ _ _ _⟩
set_option maxHeartbeats 4000000 in
set_option maxRecDepth 100000 in
theorem rdo_4 {w : World} {r : Nat} {es : List Ent} (h : RF w r es) (a z : Int) (p t d : ByteArray) (hp : p.size ≤ 9223372036854775807) (ht : t.size ≤ 9223372036854775807) (hc : checkS ⟨4, p, t, d, a, z⟩ = 0) (P : RA → List Ent → Prop) (hd : ∀ W nv, Below w.heap.size w W → Val W nv (nmsOf p) → Calls Tryz.prog 38 #[.pointer (some ⟨r, 0, none⟩), .agg #[.int .i64 4, .string p, .string t, .string d, .int .i64 a, .int .i64 z], nv] W fun e w' => RDo W r P e w') :
    Calls Tryz.prog 15 #[.pointer (some ⟨r, 0, none⟩), .agg #[.int .i64 4, .string p, .string t, .string d, .int .i64 a, .int .i64 z]] w fun e w' => RDo w r P e w' := by
  obtain ⟨WA, HWA, HRO, HRA, HBA⟩ := op_box w 4 a z p t d
  have HRU := hid_in h
  have HRL := hid_in h.lt9
  have HCK := hid_in (fun W => Nd.rcheck_any ⟨4, p, t, d, a, z⟩ hp ht W)
  simp only [Opn.val] at HCK
  have HNA := hid_in (fun W => names_t p hp W)
  obtain ⟨c0, c1, c2, c3, c4, c5⟩ := op_cells HRO.out (Below.refl _ WA)
  have HK := hid_in (fun W (kb : Below WA.heap.size WA W) => op_cells HRO.out kb)
  rw [hc] at HCK
  have HD := hid_in hd
  unfold RDo at HD
  generalize (nmsOf p).length = pl at *
  clear h hc hd
  go_enter Tryz.func15, Tryz.ntmps15
  go_upto_region 1 with fail
  refine wp_world HWA.out ?_
  go_upto_region 19 with (first | (go_at_call 33; refine (HCK.out _).mono ?_; rintro e w1 ⟨rfl, hb1⟩; obtain ⟨e0, e1, e2, e3, e4, e5⟩ := HK.out _ hb1; have HC1 := hid_in hb1; clear hb1) | (go_at_call 19; refine (HNA.out _).mono ?_; rintro e w2 ⟨np, nc, rfl, hv2, hb2⟩; have HV2 := hid_in hv2; have HC2 := hid_in (HC1.out.trans (hb2.mono HC1.out.size)); obtain ⟨f0, f1, f2, f3, f4, f5⟩ := HK.out _ HC2.out; clear hv2 hb2))
  clear c0 c1 c2 c3 c4 c5 e0 e1 e2 e3 e4 e5
  go_wp2_with (go_at_call 38; refine (HD.out _ _ (HBA.out.trans (HC2.out.mono HBA.out.size)) HV2.out).mono ?_; rintro e w3 ⟨rc, rd, rs, rx, rn, es3, v3, hP3, rfl, hn3, hf3, hg3⟩; obtain ⟨vp, vc, rfl⟩ := hn3.form; have hr3 := (HRA.out.below HC2.out HRA.out.lt).grown hg3 (fun e => by have e1 := Option.some.inj e; have e2 := HRL.out; omega); obtain ⟨⟨g0, g1, g2, g3, g4⟩, q0, q1, q2, q3, q4⟩ := res_cells hr3 (Below.refl _ w3); have HR3 := hid_in hr3; have HN3 := hid_in hn3; have HF3 := hid_in hf3; have HP3 := hid_in hP3; have HG3 := hid_in (gr_plus (HBA.out.trans (HC2.out.mono HBA.out.size)) hg3); clear hn3 hf3 hP3 hg3 hr3)
  exact post_Row 4 37 rfl (w.heap.size + 1) rfl 37 [.int .i64 rc, .bool rd, .int .i64 rs, .string rx, .slice vp rn.length vc] (set5_row HR3.out rfl _ _ _ _ _) _ Tryz.underlying37 rfl 5 info37 rfl rfl ⟨_, _, _, _, _, es3, _, HP3.out, rfl, nm_set5 HN3.out HR3.out (by decide) _ _ _ _ _, HF3.out.set5 HR3.out _ _ _ _ _, gr_set5 HG3.out (by omega) _ _ _ _ _⟩
set_option maxHeartbeats 4000000 in
set_option maxRecDepth 100000 in
theorem rdo_5 {w : World} {r : Nat} {es : List Ent} (h : RF w r es) (a z : Int) (p t d : ByteArray) (hp : p.size ≤ 9223372036854775807) (ht : t.size ≤ 9223372036854775807) (hc : checkS ⟨5, p, t, d, a, z⟩ = 0) (P : RA → List Ent → Prop) (hd : ∀ W nv, Below w.heap.size w W → Val W nv (nmsOf p) → Calls Tryz.prog 39 #[.pointer (some ⟨r, 0, none⟩), .agg #[.int .i64 5, .string p, .string t, .string d, .int .i64 a, .int .i64 z], nv] W fun e w' => RDo W r P e w') :
    Calls Tryz.prog 15 #[.pointer (some ⟨r, 0, none⟩), .agg #[.int .i64 5, .string p, .string t, .string d, .int .i64 a, .int .i64 z]] w fun e w' => RDo w r P e w' := by
  obtain ⟨WA, HWA, HRO, HRA, HBA⟩ := op_box w 5 a z p t d
  have HRU := hid_in h
  have HRL := hid_in h.lt9
  have HCK := hid_in (fun W => Nd.rcheck_any ⟨5, p, t, d, a, z⟩ hp ht W)
  simp only [Opn.val] at HCK
  have HNA := hid_in (fun W => names_t p hp W)
  obtain ⟨c0, c1, c2, c3, c4, c5⟩ := op_cells HRO.out (Below.refl _ WA)
  have HK := hid_in (fun W (kb : Below WA.heap.size WA W) => op_cells HRO.out kb)
  rw [hc] at HCK
  have HD := hid_in hd
  unfold RDo at HD
  generalize (nmsOf p).length = pl at *
  clear h hc hd
  go_enter Tryz.func15, Tryz.ntmps15
  go_upto_region 1 with fail
  refine wp_world HWA.out ?_
  go_upto_region 22 with (first | (go_at_call 33; refine (HCK.out _).mono ?_; rintro e w1 ⟨rfl, hb1⟩; obtain ⟨e0, e1, e2, e3, e4, e5⟩ := HK.out _ hb1; have HC1 := hid_in hb1; clear hb1) | (go_at_call 19; refine (HNA.out _).mono ?_; rintro e w2 ⟨np, nc, rfl, hv2, hb2⟩; have HV2 := hid_in hv2; have HC2 := hid_in (HC1.out.trans (hb2.mono HC1.out.size)); obtain ⟨f0, f1, f2, f3, f4, f5⟩ := HK.out _ HC2.out; clear hv2 hb2))
  clear c0 c1 c2 c3 c4 c5 e0 e1 e2 e3 e4 e5
  go_wp2_with (go_at_call 39; refine (HD.out _ _ (HBA.out.trans (HC2.out.mono HBA.out.size)) HV2.out).mono ?_; rintro e w3 ⟨rc, rd, rs, rx, rn, es3, v3, hP3, rfl, hn3, hf3, hg3⟩; obtain ⟨vp, vc, rfl⟩ := hn3.form; have hr3 := (HRA.out.below HC2.out HRA.out.lt).grown hg3 (fun e => by have e1 := Option.some.inj e; have e2 := HRL.out; omega); obtain ⟨⟨g0, g1, g2, g3, g4⟩, q0, q1, q2, q3, q4⟩ := res_cells hr3 (Below.refl _ w3); have HR3 := hid_in hr3; have HN3 := hid_in hn3; have HF3 := hid_in hf3; have HP3 := hid_in hP3; have HG3 := hid_in (gr_plus (HBA.out.trans (HC2.out.mono HBA.out.size)) hg3); clear hn3 hf3 hP3 hg3 hr3)
  exact post_Row 4 37 rfl (w.heap.size + 1) rfl 37 [.int .i64 rc, .bool rd, .int .i64 rs, .string rx, .slice vp rn.length vc] (set5_row HR3.out rfl _ _ _ _ _) _ Tryz.underlying37 rfl 5 info37 rfl rfl ⟨_, _, _, _, _, es3, _, HP3.out, rfl, nm_set5 HN3.out HR3.out (by decide) _ _ _ _ _, HF3.out.set5 HR3.out _ _ _ _ _, gr_set5 HG3.out (by omega) _ _ _ _ _⟩
set_option maxHeartbeats 4000000 in
set_option maxRecDepth 100000 in
theorem rdo_6 {w : World} {r : Nat} {es : List Ent} (h : RF w r es) (a z : Int) (p t d : ByteArray) (hp : p.size ≤ 9223372036854775807) (ht : t.size ≤ 9223372036854775807) (hc : checkS ⟨6, p, t, d, a, z⟩ = 0) (P : RA → List Ent → Prop) (hd : ∀ W nv, Below w.heap.size w W → Val W nv (nmsOf p) → Calls Tryz.prog 39 #[.pointer (some ⟨r, 0, none⟩), .agg #[.int .i64 6, .string p, .string t, .string d, .int .i64 a, .int .i64 z], nv] W fun e w' => RDo W r P e w') :
    Calls Tryz.prog 15 #[.pointer (some ⟨r, 0, none⟩), .agg #[.int .i64 6, .string p, .string t, .string d, .int .i64 a, .int .i64 z]] w fun e w' => RDo w r P e w' := by
  obtain ⟨WA, HWA, HRO, HRA, HBA⟩ := op_box w 6 a z p t d
  have HRU := hid_in h
  have HRL := hid_in h.lt9
  have HCK := hid_in (fun W => Nd.rcheck_any ⟨6, p, t, d, a, z⟩ hp ht W)
  simp only [Opn.val] at HCK
  have HNA := hid_in (fun W => names_t p hp W)
  obtain ⟨c0, c1, c2, c3, c4, c5⟩ := op_cells HRO.out (Below.refl _ WA)
  have HK := hid_in (fun W (kb : Below WA.heap.size WA W) => op_cells HRO.out kb)
  rw [hc] at HCK
  have HD := hid_in hd
  unfold RDo at HD
  generalize (nmsOf p).length = pl at *
  clear h hc hd
  go_enter Tryz.func15, Tryz.ntmps15
  go_upto_region 1 with fail
  refine wp_world HWA.out ?_
  go_upto_region 22 with (first | (go_at_call 33; refine (HCK.out _).mono ?_; rintro e w1 ⟨rfl, hb1⟩; obtain ⟨e0, e1, e2, e3, e4, e5⟩ := HK.out _ hb1; have HC1 := hid_in hb1; clear hb1) | (go_at_call 19; refine (HNA.out _).mono ?_; rintro e w2 ⟨np, nc, rfl, hv2, hb2⟩; have HV2 := hid_in hv2; have HC2 := hid_in (HC1.out.trans (hb2.mono HC1.out.size)); obtain ⟨f0, f1, f2, f3, f4, f5⟩ := HK.out _ HC2.out; clear hv2 hb2))
  clear c0 c1 c2 c3 c4 c5 e0 e1 e2 e3 e4 e5
  go_wp2_with (go_at_call 39; refine (HD.out _ _ (HBA.out.trans (HC2.out.mono HBA.out.size)) HV2.out).mono ?_; rintro e w3 ⟨rc, rd, rs, rx, rn, es3, v3, hP3, rfl, hn3, hf3, hg3⟩; obtain ⟨vp, vc, rfl⟩ := hn3.form; have hr3 := (HRA.out.below HC2.out HRA.out.lt).grown hg3 (fun e => by have e1 := Option.some.inj e; have e2 := HRL.out; omega); obtain ⟨⟨g0, g1, g2, g3, g4⟩, q0, q1, q2, q3, q4⟩ := res_cells hr3 (Below.refl _ w3); have HR3 := hid_in hr3; have HN3 := hid_in hn3; have HF3 := hid_in hf3; have HP3 := hid_in hP3; have HG3 := hid_in (gr_plus (HBA.out.trans (HC2.out.mono HBA.out.size)) hg3); clear hn3 hf3 hP3 hg3 hr3)
  exact post_Row 4 37 rfl (w.heap.size + 1) rfl 37 [.int .i64 rc, .bool rd, .int .i64 rs, .string rx, .slice vp rn.length vc] (set5_row HR3.out rfl _ _ _ _ _) _ Tryz.underlying37 rfl 5 info37 rfl rfl ⟨_, _, _, _, _, es3, _, HP3.out, rfl, nm_set5 HN3.out HR3.out (by decide) _ _ _ _ _, HF3.out.set5 HR3.out _ _ _ _ _, gr_set5 HG3.out (by omega) _ _ _ _ _⟩
set_option maxHeartbeats 4000000 in
set_option maxRecDepth 100000 in
theorem rdo_8 {w : World} {r : Nat} {es : List Ent} (h : RF w r es) (a z : Int) (p t d : ByteArray) (hp : p.size ≤ 9223372036854775807) (ht : t.size ≤ 9223372036854775807) (hc : checkS ⟨8, p, t, d, a, z⟩ = 0) (P : RA → List Ent → Prop) (hd : ∀ W nv, Below w.heap.size w W → Val W nv (nmsOf p) → Calls Tryz.prog 41 #[.pointer (some ⟨r, 0, none⟩), .agg #[.int .i64 8, .string p, .string t, .string d, .int .i64 a, .int .i64 z], nv] W fun e w' => RDo W r P e w') :
    Calls Tryz.prog 15 #[.pointer (some ⟨r, 0, none⟩), .agg #[.int .i64 8, .string p, .string t, .string d, .int .i64 a, .int .i64 z]] w fun e w' => RDo w r P e w' := by
  obtain ⟨WA, HWA, HRO, HRA, HBA⟩ := op_box w 8 a z p t d
  have HRU := hid_in h
  have HRL := hid_in h.lt9
  have HCK := hid_in (fun W => Nd.rcheck_any ⟨8, p, t, d, a, z⟩ hp ht W)
  simp only [Opn.val] at HCK
  have HNA := hid_in (fun W => names_t p hp W)
  obtain ⟨c0, c1, c2, c3, c4, c5⟩ := op_cells HRO.out (Below.refl _ WA)
  have HK := hid_in (fun W (kb : Below WA.heap.size WA W) => op_cells HRO.out kb)
  rw [hc] at HCK
  have HD := hid_in hd
  unfold RDo at HD
  generalize (nmsOf p).length = pl at *
  clear h hc hd
  go_enter Tryz.func15, Tryz.ntmps15
  go_upto_region 1 with fail
  refine wp_world HWA.out ?_
  go_upto_region 27 with (first | (go_at_call 33; refine (HCK.out _).mono ?_; rintro e w1 ⟨rfl, hb1⟩; obtain ⟨e0, e1, e2, e3, e4, e5⟩ := HK.out _ hb1; have HC1 := hid_in hb1; clear hb1) | (go_at_call 19; refine (HNA.out _).mono ?_; rintro e w2 ⟨np, nc, rfl, hv2, hb2⟩; have HV2 := hid_in hv2; have HC2 := hid_in (HC1.out.trans (hb2.mono HC1.out.size)); obtain ⟨f0, f1, f2, f3, f4, f5⟩ := HK.out _ HC2.out; clear hv2 hb2))
  clear c0 c1 c2 c3 c4 c5 e0 e1 e2 e3 e4 e5
  go_wp2_with (go_at_call 41; refine (HD.out _ _ (HBA.out.trans (HC2.out.mono HBA.out.size)) HV2.out).mono ?_; rintro e w3 ⟨rc, rd, rs, rx, rn, es3, v3, hP3, rfl, hn3, hf3, hg3⟩; obtain ⟨vp, vc, rfl⟩ := hn3.form; have hr3 := (HRA.out.below HC2.out HRA.out.lt).grown hg3 (fun e => by have e1 := Option.some.inj e; have e2 := HRL.out; omega); obtain ⟨⟨g0, g1, g2, g3, g4⟩, q0, q1, q2, q3, q4⟩ := res_cells hr3 (Below.refl _ w3); have HR3 := hid_in hr3; have HN3 := hid_in hn3; have HF3 := hid_in hf3; have HP3 := hid_in hP3; have HG3 := hid_in (gr_plus (HBA.out.trans (HC2.out.mono HBA.out.size)) hg3); clear hn3 hf3 hP3 hg3 hr3)
  exact post_Row 4 37 rfl (w.heap.size + 1) rfl 37 [.int .i64 rc, .bool rd, .int .i64 rs, .string rx, .slice vp rn.length vc] (set5_row HR3.out rfl _ _ _ _ _) _ Tryz.underlying37 rfl 5 info37 rfl rfl ⟨_, _, _, _, _, es3, _, HP3.out, rfl, nm_set5 HN3.out HR3.out (by decide) _ _ _ _ _, HF3.out.set5 HR3.out _ _ _ _ _, gr_set5 HG3.out (by omega) _ _ _ _ _⟩
set_option maxHeartbeats 4000000 in
set_option maxRecDepth 100000 in
theorem rdo_9 {w : World} {r : Nat} {es : List Ent} (h : RF w r es) (a z : Int) (p t d : ByteArray) (hp : p.size ≤ 9223372036854775807) (ht : t.size ≤ 9223372036854775807) (hc : checkS ⟨9, p, t, d, a, z⟩ = 0) (P : RA → List Ent → Prop) (hd : ∀ W nv, Below w.heap.size w W → Val W nv (nmsOf p) → Calls Tryz.prog 41 #[.pointer (some ⟨r, 0, none⟩), .agg #[.int .i64 9, .string p, .string t, .string d, .int .i64 a, .int .i64 z], nv] W fun e w' => RDo W r P e w') :
    Calls Tryz.prog 15 #[.pointer (some ⟨r, 0, none⟩), .agg #[.int .i64 9, .string p, .string t, .string d, .int .i64 a, .int .i64 z]] w fun e w' => RDo w r P e w' := by
  obtain ⟨WA, HWA, HRO, HRA, HBA⟩ := op_box w 9 a z p t d
  have HRU := hid_in h
  have HRL := hid_in h.lt9
  have HCK := hid_in (fun W => Nd.rcheck_any ⟨9, p, t, d, a, z⟩ hp ht W)
  simp only [Opn.val] at HCK
  have HNA := hid_in (fun W => names_t p hp W)
  obtain ⟨c0, c1, c2, c3, c4, c5⟩ := op_cells HRO.out (Below.refl _ WA)
  have HK := hid_in (fun W (kb : Below WA.heap.size WA W) => op_cells HRO.out kb)
  rw [hc] at HCK
  have HD := hid_in hd
  unfold RDo at HD
  generalize (nmsOf p).length = pl at *
  clear h hc hd
  go_enter Tryz.func15, Tryz.ntmps15
  go_upto_region 1 with fail
  refine wp_world HWA.out ?_
  go_upto_region 27 with (first | (go_at_call 33; refine (HCK.out _).mono ?_; rintro e w1 ⟨rfl, hb1⟩; obtain ⟨e0, e1, e2, e3, e4, e5⟩ := HK.out _ hb1; have HC1 := hid_in hb1; clear hb1) | (go_at_call 19; refine (HNA.out _).mono ?_; rintro e w2 ⟨np, nc, rfl, hv2, hb2⟩; have HV2 := hid_in hv2; have HC2 := hid_in (HC1.out.trans (hb2.mono HC1.out.size)); obtain ⟨f0, f1, f2, f3, f4, f5⟩ := HK.out _ HC2.out; clear hv2 hb2))
  clear c0 c1 c2 c3 c4 c5 e0 e1 e2 e3 e4 e5
  go_wp2_with (go_at_call 41; refine (HD.out _ _ (HBA.out.trans (HC2.out.mono HBA.out.size)) HV2.out).mono ?_; rintro e w3 ⟨rc, rd, rs, rx, rn, es3, v3, hP3, rfl, hn3, hf3, hg3⟩; obtain ⟨vp, vc, rfl⟩ := hn3.form; have hr3 := (HRA.out.below HC2.out HRA.out.lt).grown hg3 (fun e => by have e1 := Option.some.inj e; have e2 := HRL.out; omega); obtain ⟨⟨g0, g1, g2, g3, g4⟩, q0, q1, q2, q3, q4⟩ := res_cells hr3 (Below.refl _ w3); have HR3 := hid_in hr3; have HN3 := hid_in hn3; have HF3 := hid_in hf3; have HP3 := hid_in hP3; have HG3 := hid_in (gr_plus (HBA.out.trans (HC2.out.mono HBA.out.size)) hg3); clear hn3 hf3 hP3 hg3 hr3)
  exact post_Row 4 37 rfl (w.heap.size + 1) rfl 37 [.int .i64 rc, .bool rd, .int .i64 rs, .string rx, .slice vp rn.length vc] (set5_row HR3.out rfl _ _ _ _ _) _ Tryz.underlying37 rfl 5 info37 rfl rfl ⟨_, _, _, _, _, es3, _, HP3.out, rfl, nm_set5 HN3.out HR3.out (by decide) _ _ _ _ _, HF3.out.set5 HR3.out _ _ _ _ _, gr_set5 HG3.out (by omega) _ _ _ _ _⟩
set_option maxHeartbeats 4000000 in
set_option maxRecDepth 100000 in
theorem rdo_10 {w : World} {r : Nat} {es : List Ent} (h : RF w r es) (a z : Int) (p t d : ByteArray) (hp : p.size ≤ 9223372036854775807) (ht : t.size ≤ 9223372036854775807) (hc : checkS ⟨10, p, t, d, a, z⟩ = 0) (P : RA → List Ent → Prop) (hd : ∀ W nv, Below w.heap.size w W → Val W nv (nmsOf p) → Calls Tryz.prog 41 #[.pointer (some ⟨r, 0, none⟩), .agg #[.int .i64 10, .string p, .string t, .string d, .int .i64 a, .int .i64 z], nv] W fun e w' => RDo W r P e w') :
    Calls Tryz.prog 15 #[.pointer (some ⟨r, 0, none⟩), .agg #[.int .i64 10, .string p, .string t, .string d, .int .i64 a, .int .i64 z]] w fun e w' => RDo w r P e w' := by
  obtain ⟨WA, HWA, HRO, HRA, HBA⟩ := op_box w 10 a z p t d
  have HRU := hid_in h
  have HRL := hid_in h.lt9
  have HCK := hid_in (fun W => Nd.rcheck_any ⟨10, p, t, d, a, z⟩ hp ht W)
  simp only [Opn.val] at HCK
  have HNA := hid_in (fun W => names_t p hp W)
  obtain ⟨c0, c1, c2, c3, c4, c5⟩ := op_cells HRO.out (Below.refl _ WA)
  have HK := hid_in (fun W (kb : Below WA.heap.size WA W) => op_cells HRO.out kb)
  rw [hc] at HCK
  have HD := hid_in hd
  unfold RDo at HD
  generalize (nmsOf p).length = pl at *
  clear h hc hd
  go_enter Tryz.func15, Tryz.ntmps15
  go_upto_region 1 with fail
  refine wp_world HWA.out ?_
  go_upto_region 27 with (first | (go_at_call 33; refine (HCK.out _).mono ?_; rintro e w1 ⟨rfl, hb1⟩; obtain ⟨e0, e1, e2, e3, e4, e5⟩ := HK.out _ hb1; have HC1 := hid_in hb1; clear hb1) | (go_at_call 19; refine (HNA.out _).mono ?_; rintro e w2 ⟨np, nc, rfl, hv2, hb2⟩; have HV2 := hid_in hv2; have HC2 := hid_in (HC1.out.trans (hb2.mono HC1.out.size)); obtain ⟨f0, f1, f2, f3, f4, f5⟩ := HK.out _ HC2.out; clear hv2 hb2))
  clear c0 c1 c2 c3 c4 c5 e0 e1 e2 e3 e4 e5
  go_wp2_with (go_at_call 41; refine (HD.out _ _ (HBA.out.trans (HC2.out.mono HBA.out.size)) HV2.out).mono ?_; rintro e w3 ⟨rc, rd, rs, rx, rn, es3, v3, hP3, rfl, hn3, hf3, hg3⟩; obtain ⟨vp, vc, rfl⟩ := hn3.form; have hr3 := (HRA.out.below HC2.out HRA.out.lt).grown hg3 (fun e => by have e1 := Option.some.inj e; have e2 := HRL.out; omega); obtain ⟨⟨g0, g1, g2, g3, g4⟩, q0, q1, q2, q3, q4⟩ := res_cells hr3 (Below.refl _ w3); have HR3 := hid_in hr3; have HN3 := hid_in hn3; have HF3 := hid_in hf3; have HP3 := hid_in hP3; have HG3 := hid_in (gr_plus (HBA.out.trans (HC2.out.mono HBA.out.size)) hg3); clear hn3 hf3 hP3 hg3 hr3)
  exact post_Row 4 37 rfl (w.heap.size + 1) rfl 37 [.int .i64 rc, .bool rd, .int .i64 rs, .string rx, .slice vp rn.length vc] (set5_row HR3.out rfl _ _ _ _ _) _ Tryz.underlying37 rfl 5 info37 rfl rfl ⟨_, _, _, _, _, es3, _, HP3.out, rfl, nm_set5 HN3.out HR3.out (by decide) _ _ _ _ _, HF3.out.set5 HR3.out _ _ _ _ _, gr_set5 HG3.out (by omega) _ _ _ _ _⟩
set_option maxHeartbeats 4000000 in
set_option maxRecDepth 100000 in
theorem rdo_7 {w : World} {r : Nat} {es : List Ent} (h : RF w r es) (a z : Int) (p t d : ByteArray) (hp : p.size ≤ 9223372036854775807) (ht : t.size ≤ 9223372036854775807) (hc : checkS ⟨7, p, t, d, a, z⟩ = 0) (P : RA → List Ent → Prop) (hd : ∀ W nv tv, Below w.heap.size w W → Val W nv (nmsOf p) → Val W tv (nmsOf t) → Calls Tryz.prog 40 #[.pointer (some ⟨r, 0, none⟩), .agg #[.int .i64 7, .string p, .string t, .string d, .int .i64 a, .int .i64 z], nv, tv] W fun e w' => RDo W r P e w') :
    Calls Tryz.prog 15 #[.pointer (some ⟨r, 0, none⟩), .agg #[.int .i64 7, .string p, .string t, .string d, .int .i64 a, .int .i64 z]] w fun e w' => RDo w r P e w' := by
  obtain ⟨WA, HWA, HRO, HRA, HBA⟩ := op_box w 7 a z p t d
  have HRU := hid_in h
  have HRL := hid_in h.lt9
  have HCK := hid_in (fun W => Nd.rcheck_any ⟨7, p, t, d, a, z⟩ hp ht W)
  simp only [Opn.val] at HCK
  have HNA := hid_in (fun W => names_t p hp W)
  obtain ⟨c0, c1, c2, c3, c4, c5⟩ := op_cells HRO.out (Below.refl _ WA)
  have HK := hid_in (fun W (kb : Below WA.heap.size WA W) => op_cells HRO.out kb)
  rw [hc] at HCK
  have HD := hid_in hd
  unfold RDo at HD
  have HNT := hid_in (fun W => names_t t ht W)
  generalize (nmsOf p).length = pl at *
  generalize (nmsOf t).length = tl at *
  clear h hc hd
  go_enter Tryz.func15, Tryz.ntmps15
  go_upto_region 1 with fail
  refine wp_world HWA.out ?_
  go_upto_region 24 with (first | (go_at_call 33; refine (HCK.out _).mono ?_; rintro e w1 ⟨rfl, hb1⟩; obtain ⟨e0, e1, e2, e3, e4, e5⟩ := HK.out _ hb1; have HC1 := hid_in hb1; clear hb1) | (go_at_call 19; refine (HNA.out _).mono ?_; rintro e w2 ⟨np, nc, rfl, hv2, hb2⟩; have HV2 := hid_in hv2; have HC2 := hid_in (HC1.out.trans (hb2.mono HC1.out.size)); obtain ⟨f0, f1, f2, f3, f4, f5⟩ := HK.out _ HC2.out; clear hv2 hb2))
  have HRG : Hid (w2.rangeAt w.heap.size 0 ([.int .i64 7, .string p, .string t, .string d, .int .i64 a, .int .i64 z] : List Value)) := hid_in (row_rg (HRO.out.below HC2.out HRO.out.lt))
  refine wp_region_held_drew (S := fun W => W.rangeAt w.heap.size 0 ([.int .i64 7, .string p, .string t, .string d, .int .i64 a, .int .i64 z] : List Value) ∧ W.cell? ⟨w.heap.size, 2, none⟩ = some (.string t)) (by kernel_rfl) ⟨HRG.out, (HK.out _ HC2.out).2.2.1⟩ (fun hHeld => ?_)
  refine take_put (i := 0) (d := 68) (v := ?_) rfl rfl (by kernel_rfl) (by kernel_rfl) (by kernel_rfl) (fun _ _ _ h => h) (Or.inl ⟨by kernel_rfl, ?_⟩) hHeld ?_
  rotate_left
  · (intro w hSw; (try dsimp only at hSw); go_simp; (try with_reducible rfl))
  simp only [Act.put, List.setIfInBounds_toArray, List.set_cons_zero, List.set_cons_succ]
  refine take_put (i := 1) (d := 69) (v := .agg ([.int .i64 7, .string p, .string t, .string d, .int .i64 a, .int .i64 z] : List Value).toArray) rfl rfl (by kernel_rfl) (by kernel_rfl) (by kernel_rfl) (fun _ _ _ h => h) (yieldsIf_load_mid (by rfl) 40 _ rfl _ _ rfl ([.int .i64 7, .string p, .string t, .string d, .int .i64 a, .int .i64 z] : List Value) _ (fun w hSw => hSw.1) Tryz.underlying40 rfl info40r) hHeld ?_
  simp only [Act.put, List.setIfInBounds_toArray, List.set_cons_zero, List.set_cons_succ]
  refine take_put (i := 2) (d := 70) (v := ?_) rfl rfl (by kernel_rfl) (by kernel_rfl) (by kernel_rfl) (fun _ _ _ h => h) (Or.inl ⟨by kernel_rfl, ?_⟩) hHeld ?_
  rotate_left
  · (intro w hSw; (try dsimp only at hSw); go_simp; (try with_reducible rfl))
  simp only [Act.put, List.setIfInBounds_toArray, List.set_cons_zero, List.set_cons_succ]
  refine take_put (i := 3) (d := 71) (v := ?_) rfl rfl (by kernel_rfl) (by kernel_rfl) (by kernel_rfl) (fun _ _ _ h => h) (Or.inl ⟨by kernel_rfl, ?_⟩) hHeld ?_
  rotate_left
  · (intro w hSw; (try dsimp only at hSw); go_simp; (try with_reducible rfl))
  simp only [Act.put, List.setIfInBounds_toArray, List.set_cons_zero, List.set_cons_succ]
  refine take_put (i := 4) (d := 72) (v := ?_) rfl rfl (by kernel_rfl) (by kernel_rfl) (by kernel_rfl) (fun _ _ _ h => h) (Or.inl ⟨by kernel_rfl, ?_⟩) hHeld ?_
  rotate_left
  · (intro w hSw; (try dsimp only at hSw); go_simp; (try with_reducible rfl))
  simp only [Act.put, List.setIfInBounds_toArray, List.set_cons_zero, List.set_cons_succ]
  refine wpAnyH_ready (rs := [5]) (by kernel_rfl) (by simp) ?_
  refine AllReadyH.cons rfl (fun K hK => ?_) AllReadyH.nil
  rw [if_pos (by rfl)]
  go_simp
  refine (HNT.out _).mono ?_
  rintro e w3 ⟨tp, tc, rfl, hv3, hb3⟩
  (try replace hb3 := nodrew hb3)
  have HV3 := hid_in hv3
  have HX3 := hid_in hb3
  have HC3 := hid_in (HC2.out.trans (hb3.mono HC2.out.size))
  clear hv3 hb3
  go_simp
  refine hK.out _ _ (by first | exact ⟨rg_bel HRG.out HX3.out, (HK.out _ HC3.out).2.2.1⟩ | exact ⟨rg_bel HRG.out (Nd.below_drewN HX3.out 1), (HK.out _ (Nd.below_drewN HC3.out 1)).2.2.1⟩) (fun hHeld => ?_)
  clear hK K
  refine wpAnyH_ready (rs := [6]) (by kernel_rfl) (by simp) ?_
  refine AllReadyH.cons rfl (fun K hK => ?_) AllReadyH.nil
  rw [if_pos (by rfl)]
  go_simp
  refine (HD.out _ _ _ (by first | exact HBA.out.trans (HC3.out.mono HBA.out.size) | exact Nd.below_drewN (HBA.out.trans (HC3.out.mono HBA.out.size)) 1 | exact Nd.below_drewN (HBA.out.trans (HC3.out.mono HBA.out.size)) 2) (by first | exact HV2.out.below HX3.out | exact (HV2.out.below HX3.out).below (Nd.below_drewN (Below.refl _ _) 1)) (by first | exact HV3.out | exact (HV3.out).below (Nd.below_drewN (Below.refl _ _) 1))).mono ?_
  rintro e w4 ⟨rc, rd, rs, rx, rn, es3, v3, hP3, rfl, hn3, hf3, hg3⟩
  (try replace hg3 := nodrewg hg3)
  obtain ⟨vp, vc, rfl⟩ := hn3.form
  have hr3 := (HRA.out.below HC3.out HRA.out.lt).grown hg3 (fun e => by have e1 := Option.some.inj e; have e2 := HRL.out; omega)
  have ho3 := (HRO.out.below HC3.out HRO.out.lt).grown hg3 (fun e => by have e1 := Option.some.inj e; have e2 := HRL.out; omega)
  obtain ⟨⟨g0, g1, g2, g3, g4⟩, q0, q1, q2, q3, q4⟩ := res_cells hr3 (Below.refl _ w4)
  have HR3 := hid_in hr3
  have HO3 := hid_in ho3
  have HN3 := hid_in hn3
  have HF3 := hid_in hf3
  have HP3 := hid_in hP3
  have HG3 := hid_in (gr_plus (HBA.out.trans (HC3.out.mono HBA.out.size)) hg3)
  clear hn3 hf3 hP3 hg3 hr3 ho3
  go_simp
  refine hK.out _ _ (by first | exact ⟨row_rg HO3.out, HO3.out.cell 2⟩ | exact ⟨row_rg HO3.out.drew1, HO3.out.drew1.cell 2⟩) (fun hHeld => ?_)
  clear hK K
  refine wpAnyH_ready (rs := [7]) (by kernel_rfl) (by simp) ?_
  refine AllReadyH.cons rfl (fun K hK => ?_) AllReadyH.nil
  rw [if_pos (by rfl)]
  go_simp
  refine hK.out _ _ (And.intro (row_rg ((((((HO3.out.set_other _ _ (by simp)).set_other _ _ (by simp)).set_other _ _ (by simp)).set_other _ _ (by simp)).set_other _ _ (by simp)))) ((((((HO3.out.set_other _ _ (by simp)).set_other _ _ (by simp)).set_other _ _ (by simp)).set_other _ _ (by simp)).set_other _ _ (by simp)).cell 2)) (fun hHeld => ?_)
  clear hK K
  refine wpAnyH_done (by kernel_rfl) ?_ _
  go_wp2_with fail
  exact post_Row 4 37 rfl (w.heap.size + 1) rfl 37 [.int .i64 rc, .bool rd, .int .i64 rs, .string rx, .slice vp rn.length vc] (set5_row HR3.out rfl _ _ _ _ _) _ Tryz.underlying37 rfl 5 info37 rfl rfl ⟨_, _, _, _, _, es3, _, HP3.out, rfl, nm_set5 HN3.out HR3.out (by decide) _ _ _ _ _, HF3.out.set5 HR3.out _ _ _ _ _, gr_set5 HG3.out (by omega) _ _ _ _ _⟩
set_option maxHeartbeats 4000000 in
set_option maxRecDepth 100000 in
theorem rdo_1a {w : World} {r : Nat} {es : List Ent} (h : RF w r es) (a z : Int) (p t d : ByteArray) (hp : p.size ≤ 9223372036854775807) (ht : t.size ≤ 9223372036854775807) (_hg : GoodL es) (_hnd : (es.map (·.names)).Nodup) (_hn : es.length ≤ 40000) (hc : checkS ⟨1, p, t, d, a, z⟩ = 0) (P : RA → List Ent → Prop) (cN : nmsOf p = []) (hP : P (RA.err 5) es) :
    Calls Tryz.prog 15 #[.pointer (some ⟨r, 0, none⟩), .agg #[.int .i64 1, .string p, .string t, .string d, .int .i64 a, .int .i64 z]] w fun e w' => RDo w r P e w' := by
  obtain ⟨WA, HWA, HRO, HRA, HBA⟩ := op_box w 1 a z p t d
  have HRU := hid_in h
  have HRL := hid_in h.lt9
  have HCK := hid_in (fun W => Nd.rcheck_any ⟨1, p, t, d, a, z⟩ hp ht W)
  simp only [Opn.val] at HCK
  have HNA := hid_in (fun W => names_t p hp W)
  obtain ⟨c0, c1, c2, c3, c4, c5⟩ := op_cells HRO.out (Below.refl _ WA)
  have HK := hid_in (fun W (kb : Below WA.heap.size WA W) => op_cells HRO.out kb)
  rw [hc] at HCK
  have HP := hid_in hP
  have HXL := hid_in (gp_nms p).lens
  have hpl8 : ((nmsOf p).length : Int) ≤ 8 := by have := (gp_nms p).2; omega
  have hp1 : (nmsOf p).length = 0 := by rw [cN]; rfl
  rw [hp1] at HNA
  clear h hc hP _hg _hnd _hn cN hp1 hpl8
  go_enter Tryz.func15, Tryz.ntmps15
  go_upto_region 1 with fail
  refine wp_world HWA.out ?_
  go_wp2_with (first | (go_at_call 33; refine (HCK.out _).mono ?_; rintro e w1 ⟨rfl, hb1⟩; obtain ⟨e0, e1, e2, e3, e4, e5⟩ := HK.out _ hb1; have HC1 := hid_in hb1; clear hb1) | (go_at_call 19; refine (HNA.out _).mono ?_; rintro e w2 ⟨np, nc, rfl, hv2, hb2⟩; have HV2 := hid_in hv2; have HC2 := hid_in (HC1.out.trans (hb2.mono HC1.out.size)); obtain ⟨f0, f1, f2, f3, f4, f5⟩ := HK.out _ HC2.out; clear hv2 hb2) | (go_at_call 34; refine (rfail_any _ _).mono ?_; rintro e w5 ⟨rfl, hb5⟩; have hc5 := (HC2.out).trans (hb5.mono (HC2.out).size); obtain ⟨⟨g0, g1, g2, g3, g4⟩, q0, q1, q2, q3, q4⟩ := res_cells HRA.out hc5; have HR5 := hid_in (HRA.out.below hc5 HRA.out.lt); have HB5 := hid_in (HBA.out.trans (hc5.mono HBA.out.size)); clear hb5 hc5))
  exact post_Row 4 37 rfl (w.heap.size + 1) rfl 37 [.int .i64 5, .bool false, .int .i64 0, .string ⟨#[]⟩, .slice none 0 0] (set5_row HR5.out rfl _ _ _ _ _) _ Tryz.underlying37 rfl 5 info37 rfl rfl ⟨_, _, _, _, _, es, _, HP.out, rfl, nm_nil _, (HRU.out.below HB5.out).set5 HR5.out _ _ _ _ _, gr_set5 (below_but r HB5.out) (by omega) _ _ _ _ _⟩
set_option maxHeartbeats 4000000 in
set_option maxRecDepth 100000 in
theorem rdo_1b {w : World} {r : Nat} {es : List Ent} (h : RF w r es) (a z : Int) (p t d : ByteArray) (hp : p.size ≤ 9223372036854775807) (ht : t.size ≤ 9223372036854775807) (hg : GoodL es) (hnd : (es.map (·.names)).Nodup) (_hn : es.length ≤ 40000) (hc : checkS ⟨1, p, t, d, a, z⟩ = 0) (P : RA → List Ent → Prop) (cN : nmsOf p ≠ []) (kk : Int) (hD : dirR es (nmsOf p) = kk) (hk : kk ≠ 0) (hP : P (RA.err kk) es) :
    Calls Tryz.prog 15 #[.pointer (some ⟨r, 0, none⟩), .agg #[.int .i64 1, .string p, .string t, .string d, .int .i64 a, .int .i64 z]] w fun e w' => RDo w r P e w' := by
  obtain ⟨WA, HWA, HRO, HRA, HBA⟩ := op_box w 1 a z p t d
  have HRU := hid_in h
  have HRL := hid_in h.lt9
  have HCK := hid_in (fun W => Nd.rcheck_any ⟨1, p, t, d, a, z⟩ hp ht W)
  simp only [Opn.val] at HCK
  have HNA := hid_in (fun W => names_t p hp W)
  obtain ⟨c0, c1, c2, c3, c4, c5⟩ := op_cells HRO.out (Below.refl _ WA)
  have HK := hid_in (fun W (kb : Below WA.heap.size WA W) => op_cells HRO.out kb)
  rw [hc] at HCK
  have HP := hid_in hP
  have HXL := hid_in (gp_nms p).lens
  have hpl8 : ((nmsOf p).length : Int) ≤ 8 := by have := (gp_nms p).2; omega
  have hp0 : ¬ ((nmsOf p).length : Int) = 0 := fun e => cN (List.length_eq_zero_iff.1 (by omega))
  have hp1 : (((nmsOf p).length : Int) == 0) = false := by rw [beq_eq_false_iff_ne]; exact hp0
  have HDR := hid_in (fun W nv (k : Below w.heap.size w W) (hv : Val W nv (nmsOf p)) => rdirOf_any (h.below k) hg hnd hv (gp_nms p) cN)
  rw [hD] at HDR
  have hk2 : (kk != 0) = true := by simpa using hk
  generalize (nmsOf p).length = pl at *
  clear h hc hP hg hnd _hn cN hD hk
  go_enter Tryz.func15, Tryz.ntmps15
  go_upto_region 1 with fail
  refine wp_world HWA.out ?_
  go_wp2_with (first | (go_at_call 33; refine (HCK.out _).mono ?_; rintro e w1 ⟨rfl, hb1⟩; obtain ⟨e0, e1, e2, e3, e4, e5⟩ := HK.out _ hb1; have HC1 := hid_in hb1; clear hb1) | (go_at_call 19; refine (HNA.out _).mono ?_; rintro e w2 ⟨np, nc, rfl, hv2, hb2⟩; have HV2 := hid_in hv2; have HC2 := hid_in (HC1.out.trans (hb2.mono HC1.out.size)); obtain ⟨f0, f1, f2, f3, f4, f5⟩ := HK.out _ HC2.out; clear hv2 hb2) | (go_at_call 35; refine (HDR.out _ _ (HBA.out.trans (HC2.out.mono HBA.out.size)) HV2.out).mono ?_; rintro e w3 ⟨rfl, hb3⟩; have HX3 := hid_in hb3; have HC3 := hid_in (HC2.out.trans (hb3.mono HC2.out.size)); clear hb3) | (go_at_call 34; refine (rfail_any _ _).mono ?_; rintro e w5 ⟨rfl, hb5⟩; have hc5 := (HC3.out).trans (hb5.mono (HC3.out).size); obtain ⟨⟨g0, g1, g2, g3, g4⟩, q0, q1, q2, q3, q4⟩ := res_cells HRA.out hc5; have HR5 := hid_in (HRA.out.below hc5 HRA.out.lt); have HB5 := hid_in (HBA.out.trans (hc5.mono HBA.out.size)); clear hb5 hc5))
  exact post_Row 4 37 rfl (w.heap.size + 1) rfl 37 [.int .i64 kk, .bool false, .int .i64 0, .string ⟨#[]⟩, .slice none 0 0] (set5_row HR5.out rfl _ _ _ _ _) _ Tryz.underlying37 rfl 5 info37 rfl rfl ⟨_, _, _, _, _, es, _, HP.out, rfl, nm_nil _, (HRU.out.below HB5.out).set5 HR5.out _ _ _ _ _, gr_set5 (below_but r HB5.out) (by omega) _ _ _ _ _⟩
set_option maxHeartbeats 4000000 in
set_option maxRecDepth 100000 in
theorem rdo_1c {w : World} {r : Nat} {es : List Ent} (h : RF w r es) (a z : Int) (p t d : ByteArray) (hp : p.size ≤ 9223372036854775807) (ht : t.size ≤ 9223372036854775807) (hg : GoodL es) (hnd : (es.map (·.names)).Nodup) (_hn : es.length ≤ 40000) (hc : checkS ⟨1, p, t, d, a, z⟩ = 0) (P : RA → List Ent → Prop) (cN : nmsOf p ≠ []) (hD : dirR es (nmsOf p) = 0) (O : Ent) (hO : entAt es (nmsOf p) = some O) (hP : P (RA.err 5) es) :
    Calls Tryz.prog 15 #[.pointer (some ⟨r, 0, none⟩), .agg #[.int .i64 1, .string p, .string t, .string d, .int .i64 a, .int .i64 z]] w fun e w' => RDo w r P e w' := by
  obtain ⟨WA, HWA, HRO, HRA, HBA⟩ := op_box w 1 a z p t d
  have HRU := hid_in h
  have HRL := hid_in h.lt9
  have HCK := hid_in (fun W => Nd.rcheck_any ⟨1, p, t, d, a, z⟩ hp ht W)
  simp only [Opn.val] at HCK
  have HNA := hid_in (fun W => names_t p hp W)
  obtain ⟨c0, c1, c2, c3, c4, c5⟩ := op_cells HRO.out (Below.refl _ WA)
  have HK := hid_in (fun W (kb : Below WA.heap.size WA W) => op_cells HRO.out kb)
  rw [hc] at HCK
  have HP := hid_in hP
  have HXL := hid_in (gp_nms p).lens
  have hpl8 : ((nmsOf p).length : Int) ≤ 8 := by have := (gp_nms p).2; omega
  have hp0 : ¬ ((nmsOf p).length : Int) = 0 := fun e => cN (List.length_eq_zero_iff.1 (by omega))
  have hp1 : (((nmsOf p).length : Int) == 0) = false := by rw [beq_eq_false_iff_ne]; exact hp0
  have HDR := hid_in (fun W nv (k : Below w.heap.size w W) (hv : Val W nv (nmsOf p)) => rdirOf_any (h.below k) hg hnd hv (gp_nms p) cN)
  have HPL := hid_in (fun W nv (k : Below w.heap.size w W) (hv : Val W nv (nmsOf p)) => rplace_any (h.below k) hg hv (gp_nms p))
  have HND := hid_in hnd
  rw [hD] at HDR
  have HNO := hid_in hO
  generalize (nmsOf p).length = pl at *
  clear h hc hP hg hnd _hn cN hD hO
  go_enter Tryz.func15, Tryz.ntmps15
  go_upto_region 1 with fail
  refine wp_world HWA.out ?_
  go_wp2_with (first | (go_at_call 33; refine (HCK.out _).mono ?_; rintro e w1 ⟨rfl, hb1⟩; obtain ⟨e0, e1, e2, e3, e4, e5⟩ := HK.out _ hb1; have HC1 := hid_in hb1; clear hb1) | (go_at_call 19; refine (HNA.out _).mono ?_; rintro e w2 ⟨np, nc, rfl, hv2, hb2⟩; have HV2 := hid_in hv2; have HC2 := hid_in (HC1.out.trans (hb2.mono HC1.out.size)); obtain ⟨f0, f1, f2, f3, f4, f5⟩ := HK.out _ HC2.out; clear hv2 hb2) | (go_at_call 35; refine (HDR.out _ _ (HBA.out.trans (HC2.out.mono HBA.out.size)) HV2.out).mono ?_; rintro e w3 ⟨rfl, hb3⟩; have HX3 := hid_in hb3; have HC3 := hid_in (HC2.out.trans (hb3.mono HC2.out.size)); clear hb3) | (go_at_call 36; refine (HPL.out _ _ (HBA.out.trans (HC3.out.mono HBA.out.size)) (HV2.out.below HX3.out)).mono ?_; rintro e w4 ⟨kk, rfl, hat, hb4⟩; obtain ⟨ix, rfl, hix⟩ := at_one9 HND.out hat HNO.out; have i0 : ¬ (ix : Int) < 0 := (by omega); have i1 : 0 ≤ (ix : Int) := (by omega); clear hix; have HX4 := hid_in (HX3.out.trans (hb4.mono HX3.out.size)); have HC4 := hid_in (HC3.out.trans (hb4.mono HC3.out.size)); clear hat hb4) | (go_at_call 34; refine (rfail_any _ _).mono ?_; rintro e w5 ⟨rfl, hb5⟩; have hc5 := (HC4.out).trans (hb5.mono (HC4.out).size); obtain ⟨⟨g0, g1, g2, g3, g4⟩, q0, q1, q2, q3, q4⟩ := res_cells HRA.out hc5; have HR5 := hid_in (HRA.out.below hc5 HRA.out.lt); have HB5 := hid_in (HBA.out.trans (hc5.mono HBA.out.size)); clear hb5 hc5))
  exact post_Row 4 37 rfl (w.heap.size + 1) rfl 37 [.int .i64 5, .bool false, .int .i64 0, .string ⟨#[]⟩, .slice none 0 0] (set5_row HR5.out rfl _ _ _ _ _) _ Tryz.underlying37 rfl 5 info37 rfl rfl ⟨_, _, _, _, _, es, _, HP.out, rfl, nm_nil _, (HRU.out.below HB5.out).set5 HR5.out _ _ _ _ _, gr_set5 (below_but r HB5.out) (by omega) _ _ _ _ _⟩
set_option maxHeartbeats 4000000 in
set_option maxRecDepth 100000 in
theorem rdo_1d {w : World} {r : Nat} {es : List Ent} (h : RF w r es) (a z : Int) (p t d : ByteArray) (hp : p.size ≤ 9223372036854775807) (ht : t.size ≤ 9223372036854775807) (hg : GoodL es) (hnd : (es.map (·.names)).Nodup) (hn : es.length ≤ 40000) (hc : checkS ⟨1, p, t, d, a, z⟩ = 0) (P : RA → List Ent → Prop) (cN : nmsOf p ≠ []) (hD : dirR es (nmsOf p) = 0) (hO : entAt es (nmsOf p) = none) (hP : P (RA.err 0) (insE es ⟨nmsOf p, true, ⟨#[]⟩⟩)) :
    Calls Tryz.prog 15 #[.pointer (some ⟨r, 0, none⟩), .agg #[.int .i64 1, .string p, .string t, .string d, .int .i64 a, .int .i64 z]] w fun e w' => RDo w r P e w' := by
  obtain ⟨WA, HWA, HRO, HRA, HBA⟩ := op_box w 1 a z p t d
  have HRU := hid_in h
  have HRL := hid_in h.lt9
  have HCK := hid_in (fun W => Nd.rcheck_any ⟨1, p, t, d, a, z⟩ hp ht W)
  simp only [Opn.val] at HCK
  have HNA := hid_in (fun W => names_t p hp W)
  obtain ⟨c0, c1, c2, c3, c4, c5⟩ := op_cells HRO.out (Below.refl _ WA)
  have HK := hid_in (fun W (kb : Below WA.heap.size WA W) => op_cells HRO.out kb)
  rw [hc] at HCK
  have HP := hid_in hP
  have HXL := hid_in (gp_nms p).lens
  have hpl8 : ((nmsOf p).length : Int) ≤ 8 := by have := (gp_nms p).2; omega
  have hp0 : ¬ ((nmsOf p).length : Int) = 0 := fun e => cN (List.length_eq_zero_iff.1 (by omega))
  have hp1 : (((nmsOf p).length : Int) == 0) = false := by rw [beq_eq_false_iff_ne]; exact hp0
  have HDR := hid_in (fun W nv (k : Below w.heap.size w W) (hv : Val W nv (nmsOf p)) => rdirOf_any (h.below k) hg hnd hv (gp_nms p) cN)
  have HPL := hid_in (fun W nv (k : Below w.heap.size w W) (hv : Val W nv (nmsOf p)) => rplace_any (h.below k) hg hv (gp_nms p))
  have HND := hid_in hnd
  rw [hD] at HDR
  have HNO := hid_in hO
  obtain ⟨lp, lc, hrow0, hfo0⟩ := h.at9
  have HROW := hid_in hrow0
  have HSH := hid_in (fun W nv (hv : Val W nv (nmsOf p)) => rshow_one (gp_nms p) hv)
  have HIN : Hid (∀ W, Below w.heap.size w W → Calls Tryz.prog 37 #[.slice lp es.length lc, .agg #[.string (B (showS (nmsOf p))), .bool true, .string ⟨#[]⟩]] W fun e w' => (∃ u, e = .returned u ∧ FO w' W.heap.size u ((insE es ⟨nmsOf p, true, ⟨#[]⟩⟩).map Ent.fil)) ∧ Below W.heap.size W w') := hid_in (fun W k => by
    have h1 := Rf.insert_any W _ (es.map Ent.fil) (⟨nmsOf p, true, ⟨#[]⟩⟩ : Ent).fil (hfo0.below k).fls (by rw [List.length_map]; omega) (by have := gp_size (gp_nms p); show (B (showS (nmsOf p))).size ≤ _; omega) (fun g hg2 => by obtain ⟨x, hx, rfl⟩ := List.mem_map.1 hg2; have := gp_size (hg x hx).1; show (B (showS x.names)).size ≤ _; omega)
    rw [ins_fil es ⟨nmsOf p, true, ⟨#[]⟩⟩ (fun x hx => (hg x hx).1) (gp_nms p)] at h1
    exact h1)
  obtain ⟨tx, HTX⟩ : ∃ tx, Hid (B (showS (nmsOf p)) = tx) := ⟨_, hid_in rfl⟩
  rw [HTX.out] at HSH HIN
  generalize (nmsOf p).length = pl at *
  clear h hc hP hg hnd hn cN hD hO hfo0 hrow0
  go_enter Tryz.func15, Tryz.ntmps15
  go_upto_region 1 with fail
  refine wp_world HWA.out ?_
  go_upto_region 15 with (first | (go_at_call 33; refine (HCK.out _).mono ?_; rintro e w1 ⟨rfl, hb1⟩; obtain ⟨e0, e1, e2, e3, e4, e5⟩ := HK.out _ hb1; have HC1 := hid_in hb1; clear hb1) | (go_at_call 19; refine (HNA.out _).mono ?_; rintro e w2 ⟨np, nc, rfl, hv2, hb2⟩; have HV2 := hid_in hv2; have HC2 := hid_in (HC1.out.trans (hb2.mono HC1.out.size)); obtain ⟨f0, f1, f2, f3, f4, f5⟩ := HK.out _ HC2.out; clear hv2 hb2) | (go_at_call 35; refine (HDR.out _ _ (HBA.out.trans (HC2.out.mono HBA.out.size)) HV2.out).mono ?_; rintro e w3 ⟨rfl, hb3⟩; have HX3 := hid_in hb3; have HC3 := hid_in (HC2.out.trans (hb3.mono HC2.out.size)); clear hb3) | (go_at_call 36; refine (HPL.out _ _ (HBA.out.trans (HC3.out.mono HBA.out.size)) (HV2.out.below HX3.out)).mono ?_; rintro e w4 ⟨kk, rfl, hat, hb4⟩; obtain rfl := at_none9 hat HNO.out; have HX4 := hid_in (HX3.out.trans (hb4.mono HX3.out.size)); have HC4 := hid_in (HC3.out.trans (hb4.mono HC3.out.size)); clear hat hb4))
  have hrow := HROW.out
  have m0 := (hrow.below (HBA.out.trans (HC4.out.mono HBA.out.size)) hrow.lt).cell 0
  simp only [List.getElem?_cons_zero] at m0
  clear c0 c1 c2 c3 c4 c5 e0 e1 e2 e3 e4 e5
  refine wp_region_held_drew (S := fun W => W.cell? ⟨w.heap.size, 0, none⟩ = some (.int .i64 1)) (by kernel_rfl) (HK.out _ HC4.out).1 (fun hHeld => ?_)
  refine take_put (i := 0) (d := 37) (v := ?_) rfl rfl (by kernel_rfl) (by kernel_rfl) (by kernel_rfl) (fun _ _ _ h => h) (Or.inl ⟨by kernel_rfl, ?_⟩) hHeld ?_
  rotate_left
  · (intro w hSw; (try dsimp only at hSw); go_simp; (try with_reducible rfl))
  simp only [Act.put, List.setIfInBounds_toArray, List.set_cons_zero, List.set_cons_succ]
  refine take_put (i := 1) (d := 38) (v := ?_) rfl rfl (by kernel_rfl) (by kernel_rfl) (by kernel_rfl) (fun _ _ _ h => h) (Or.inl ⟨by kernel_rfl, ?_⟩) hHeld ?_
  rotate_left
  · (intro w hSw; (try dsimp only at hSw); go_simp; (try with_reducible rfl))
  simp only [Act.put, List.setIfInBounds_toArray, List.set_cons_zero, List.set_cons_succ]
  refine take_put (i := 2) (d := 39) (v := ?_) rfl rfl (by kernel_rfl) (by kernel_rfl) (by kernel_rfl) (fun _ _ _ h => h) (Or.inl ⟨by kernel_rfl, ?_⟩) hHeld ?_
  rotate_left
  · (intro w hSw; (try dsimp only at hSw); go_simp; (try with_reducible rfl))
  simp only [Act.put, List.setIfInBounds_toArray, List.set_cons_zero, List.set_cons_succ]
  refine take_put (i := 3) (d := 40) (v := ?_) rfl rfl (by kernel_rfl) (by kernel_rfl) (by kernel_rfl) (fun _ _ _ h => h) (Or.inl ⟨by kernel_rfl, ?_⟩) hHeld ?_
  rotate_left
  · (intro w hSw; (try dsimp only at hSw); go_simp; (try with_reducible rfl))
  simp only [Act.put, List.setIfInBounds_toArray, List.set_cons_zero, List.set_cons_succ]
  refine take_put (i := 5) (d := 42) (v := ?_) rfl rfl (by kernel_rfl) (by kernel_rfl) (by kernel_rfl) (fun _ _ _ h => h) (Or.inl ⟨by kernel_rfl, ?_⟩) hHeld ?_
  rotate_left
  · (intro w hSw; (try dsimp only at hSw); go_simp; (try with_reducible rfl))
  simp only [Act.put, List.setIfInBounds_toArray, List.set_cons_zero, List.set_cons_succ]
  refine take_put (i := 7) (d := 44) (v := ?_) rfl rfl (by kernel_rfl) (by kernel_rfl) (by kernel_rfl) (fun _ _ _ h => h) (Or.inl ⟨by kernel_rfl, ?_⟩) hHeld ?_
  rotate_left
  · (intro w hSw; (try dsimp only at hSw); go_simp; (try with_reducible rfl))
  simp only [Act.put, List.setIfInBounds_toArray, List.set_cons_zero, List.set_cons_succ]
  refine take_put (i := 8) (d := 45) (v := ?_) rfl rfl (by kernel_rfl) (by kernel_rfl) (by kernel_rfl) (fun _ _ _ h => h) (Or.inl ⟨by kernel_rfl, ?_⟩) hHeld ?_
  rotate_left
  · (intro w hSw; (try dsimp only at hSw); go_simp; (try with_reducible rfl))
  simp only [Act.put, List.setIfInBounds_toArray, List.set_cons_zero, List.set_cons_succ]
  refine take_put (i := 9) (d := 46) (v := ?_) rfl rfl (by kernel_rfl) (by kernel_rfl) (by kernel_rfl) (fun _ _ _ h => h) (Or.inl ⟨by kernel_rfl, ?_⟩) hHeld ?_
  rotate_left
  · (intro w hSw; (try dsimp only at hSw); go_simp; (try with_reducible rfl))
  simp only [Act.put, List.setIfInBounds_toArray, List.set_cons_zero, List.set_cons_succ]
  refine wpAnyH_ready (rs := [4, 6]) (by kernel_rfl) (by simp) ?_
  refine AllReadyH.cons rfl (fun K hK => ?_) (AllReadyH.cons rfl (fun K hK => ?_) AllReadyH.nil)
  · rw [if_pos (by rfl)]
    go_simp
    refine hK.out _ _ (by first | exact (HK.out _ HC4.out).1 | exact (HK.out _ (Nd.below_drewN HC4.out 1)).1) (fun hHeld => ?_)
    clear hK K
    refine wpAnyH_ready (rs := [6]) (by kernel_rfl) (by simp) ?_
    refine AllReadyH.cons rfl (fun K hK => ?_) AllReadyH.nil
    rw [if_pos (by rfl)]
    go_simp
    refine (HSH.out _ _ (by first | exact HV2.out.below HX4.out | exact (HV2.out.below HX4.out).below (Nd.below_drewN (Below.refl _ _) 1))).mono ?_
    rintro e w6 ⟨rfl, hb6⟩
    (try replace hb6 := nodrew hb6)
    have HX6 := hid_in hb6
    have HC6 := hid_in (HC4.out.trans (hb6.mono HC4.out.size))
    clear hb6
    have m6 := (hrow.below (HBA.out.trans (HC6.out.mono HBA.out.size)) hrow.lt).cell 0
    simp only [List.getElem?_cons_zero] at m6
    go_simp
    refine hK.out _ _ (by first | exact (HK.out _ HC6.out).1 | exact (HK.out _ (Nd.below_drewN HC6.out 1)).1 | exact (HK.out _ (Nd.below_drewN HC6.out 2)).1) (fun hHeld => ?_)
    clear hK K
    refine take_put (i := 10) (d := 47) (v := ?_) rfl rfl (by kernel_rfl) (by kernel_rfl) (by kernel_rfl) (fun _ _ _ h => h) (Or.inl ⟨by kernel_rfl, ?_⟩) hHeld ?_
    rotate_left
    · (intro w hSw; (try dsimp only at hSw); go_simp; (try with_reducible rfl))
    simp only [Act.put, List.setIfInBounds_toArray, List.set_cons_zero, List.set_cons_succ]
    refine wpAnyH_ready (rs := [11]) (by kernel_rfl) (by simp) ?_
    refine AllReadyH.cons rfl (fun K hK => ?_) AllReadyH.nil
    rw [if_pos (by rfl)]
    go_simp
    refine (HIN.out _ (by first | exact HBA.out.trans (HC6.out.mono HBA.out.size) | exact Nd.below_drewN (HBA.out.trans (HC6.out.mono HBA.out.size)) 1 | exact Nd.below_drewN (HBA.out.trans (HC6.out.mono HBA.out.size)) 2)).mono ?_
    rintro e w7 ⟨⟨u7, rfl, ho7⟩, hb7⟩
    (try replace hb7 := nodrew hb7)
    obtain ⟨p7, l7, k7, rfl⟩ := fo_form ho7
    have HO7 := hid_in ho7
    have HC7 := hid_in (HC6.out.trans (hb7.mono HC6.out.size))
    have HB7 := hid_in (HBA.out.trans (HC7.out.mono HBA.out.size))
    have HZ7 := hid_in (HBA.out.trans (HC6.out.mono HBA.out.size)).size
    have hrw := hrow.below HB7.out hrow.lt
    have m7 := hrw.cell 0
    have z7 := hrw.frozen 0
    simp only [List.getElem?_cons_zero] at m7
    clear ho7 hb7
    go_simp
    refine hK.out _ _ (by first | exact (HK.out _ HC7.out).1 | exact (HK.out _ (Nd.below_drewN HC7.out 1)).1) (fun hHeld => ?_)
    clear hK K
    refine take_put (i := 12) (d := 49) (v := ?_) rfl rfl (by kernel_rfl) (by kernel_rfl) (by kernel_rfl) (fun _ _ _ h => h) (Or.inl ⟨by kernel_rfl, ?_⟩) hHeld ?_
    rotate_left
    · (intro w hSw; (try dsimp only at hSw); go_simp; (try with_reducible rfl))
    simp only [Act.put, List.setIfInBounds_toArray, List.set_cons_zero, List.set_cons_succ]
    refine take_put (i := 13) (d := 50) (v := ?_) rfl rfl (by kernel_rfl) (by kernel_rfl) (by kernel_rfl) (fun _ _ _ h => h) (Or.inl ⟨by kernel_rfl, ?_⟩) hHeld ?_
    rotate_left
    · (intro w hSw; (try dsimp only at hSw); go_simp; (try with_reducible rfl))
    simp only [Act.put, List.setIfInBounds_toArray, List.set_cons_zero, List.set_cons_succ]
    refine wpAnyH_ready (rs := [14]) (by kernel_rfl) (by simp) ?_
    refine AllReadyH.cons rfl (fun K hK => ?_) AllReadyH.nil
    rw [if_pos (by rfl)]
    go_simp
    have HPU := hid_in (RF.put hrow HB7.out (Rf.FO.mono HO7.out HZ7.out))
    have HRX : Hid (Row (w7.setCell ⟨r, 0, none⟩ (.slice p7 l7 k7)) (w.heap.size + 1) [.int .i64 0, .bool false, .int .i64 0, .string ⟨#[]⟩, .slice none 0 0] 37) := hid_in ((HRA.out.below HC7.out HRA.out.lt).set_other _ _ (by have := HRL.out; simp; omega))
    have HRO8 := (HRO.out.below HC7.out HRO.out.lt).set_other ⟨r, 0, none⟩ (.slice p7 l7 k7) (by have := HRL.out; simp; omega)
    refine hK.out _ _ (HRO8.cell 0) (fun hHeld => ?_)
    clear hK K
    refine wpAnyH_done (by kernel_rfl) ?_ _
    obtain ⟨w8, HW8⟩ : ∃ w8, Hid (w7.setCell ⟨r, 0, none⟩ (.slice p7 l7 k7) = w8) := ⟨_, hid_in rfl⟩
    rw [HW8.out] at HRX HPU
    go_upto_region 16 with fail
    refine wp_world HW8.out ?_
    clear m7 z7 HRO8 hrw
    obtain ⟨⟨g0, g1, g2, g3, g4⟩, q0, q1, q2, q3, q4⟩ := res_cells HRX.out (Below.refl _ _)
    go_wp2_with fail
    exact post_Row 4 37 rfl (w.heap.size + 1) rfl 37 [.int .i64 0, .bool false, .int .i64 0, .string ⟨#[]⟩, .slice none 0 0] (set5_row HRX.out rfl _ _ _ _ _) _ Tryz.underlying37 rfl 5 info37 rfl rfl ⟨_, _, _, _, _, _, _, HP.out, rfl, nm_nil _, HPU.out.1.set5 HRX.out _ _ _ _ _, gr_set5 HPU.out.2 (by omega) _ _ _ _ _⟩
  · rw [if_pos (by rfl)]
    go_simp
    refine (HSH.out _ _ (by first | exact HV2.out.below HX4.out | exact (HV2.out.below HX4.out).below (Nd.below_drewN (Below.refl _ _) 1))).mono ?_
    rintro e w6 ⟨rfl, hb6⟩
    (try replace hb6 := nodrew hb6)
    have HX6 := hid_in hb6
    have HC6 := hid_in (HC4.out.trans (hb6.mono HC4.out.size))
    clear hb6
    have m6 := (hrow.below (HBA.out.trans (HC6.out.mono HBA.out.size)) hrow.lt).cell 0
    simp only [List.getElem?_cons_zero] at m6
    go_simp
    refine hK.out _ _ (by first | exact (HK.out _ HC6.out).1 | exact (HK.out _ (Nd.below_drewN HC6.out 1)).1 | exact (HK.out _ (Nd.below_drewN HC6.out 2)).1) (fun hHeld => ?_)
    clear hK K
    refine take_put (i := 10) (d := 47) (v := ?_) rfl rfl (by kernel_rfl) (by kernel_rfl) (by kernel_rfl) (fun _ _ _ h => h) (Or.inl ⟨by kernel_rfl, ?_⟩) hHeld ?_
    rotate_left
    · (intro w hSw; (try dsimp only at hSw); go_simp; (try with_reducible rfl))
    simp only [Act.put, List.setIfInBounds_toArray, List.set_cons_zero, List.set_cons_succ]
    refine wpAnyH_ready (rs := [4]) (by kernel_rfl) (by simp) ?_
    refine AllReadyH.cons rfl (fun K hK => ?_) AllReadyH.nil
    rw [if_pos (by rfl)]
    go_simp
    refine hK.out _ _ (by first | exact (HK.out _ HC6.out).1 | exact (HK.out _ (Nd.below_drewN HC6.out 1)).1 | exact (HK.out _ (Nd.below_drewN HC6.out 2)).1) (fun hHeld => ?_)
    clear hK K
    refine wpAnyH_ready (rs := [11]) (by kernel_rfl) (by simp) ?_
    refine AllReadyH.cons rfl (fun K hK => ?_) AllReadyH.nil
    rw [if_pos (by rfl)]
    go_simp
    refine (HIN.out _ (by first | exact HBA.out.trans (HC6.out.mono HBA.out.size) | exact Nd.below_drewN (HBA.out.trans (HC6.out.mono HBA.out.size)) 1 | exact Nd.below_drewN (HBA.out.trans (HC6.out.mono HBA.out.size)) 2)).mono ?_
    rintro e w7 ⟨⟨u7, rfl, ho7⟩, hb7⟩
    (try replace hb7 := nodrew hb7)
    obtain ⟨p7, l7, k7, rfl⟩ := fo_form ho7
    have HO7 := hid_in ho7
    have HC7 := hid_in (HC6.out.trans (hb7.mono HC6.out.size))
    have HB7 := hid_in (HBA.out.trans (HC7.out.mono HBA.out.size))
    have HZ7 := hid_in (HBA.out.trans (HC6.out.mono HBA.out.size)).size
    have hrw := hrow.below HB7.out hrow.lt
    have m7 := hrw.cell 0
    have z7 := hrw.frozen 0
    simp only [List.getElem?_cons_zero] at m7
    clear ho7 hb7
    go_simp
    refine hK.out _ _ (by first | exact (HK.out _ HC7.out).1 | exact (HK.out _ (Nd.below_drewN HC7.out 1)).1) (fun hHeld => ?_)
    clear hK K
    refine take_put (i := 12) (d := 49) (v := ?_) rfl rfl (by kernel_rfl) (by kernel_rfl) (by kernel_rfl) (fun _ _ _ h => h) (Or.inl ⟨by kernel_rfl, ?_⟩) hHeld ?_
    rotate_left
    · (intro w hSw; (try dsimp only at hSw); go_simp; (try with_reducible rfl))
    simp only [Act.put, List.setIfInBounds_toArray, List.set_cons_zero, List.set_cons_succ]
    refine take_put (i := 13) (d := 50) (v := ?_) rfl rfl (by kernel_rfl) (by kernel_rfl) (by kernel_rfl) (fun _ _ _ h => h) (Or.inl ⟨by kernel_rfl, ?_⟩) hHeld ?_
    rotate_left
    · (intro w hSw; (try dsimp only at hSw); go_simp; (try with_reducible rfl))
    simp only [Act.put, List.setIfInBounds_toArray, List.set_cons_zero, List.set_cons_succ]
    refine wpAnyH_ready (rs := [14]) (by kernel_rfl) (by simp) ?_
    refine AllReadyH.cons rfl (fun K hK => ?_) AllReadyH.nil
    rw [if_pos (by rfl)]
    go_simp
    have HPU := hid_in (RF.put hrow HB7.out (Rf.FO.mono HO7.out HZ7.out))
    have HRX : Hid (Row (w7.setCell ⟨r, 0, none⟩ (.slice p7 l7 k7)) (w.heap.size + 1) [.int .i64 0, .bool false, .int .i64 0, .string ⟨#[]⟩, .slice none 0 0] 37) := hid_in ((HRA.out.below HC7.out HRA.out.lt).set_other _ _ (by have := HRL.out; simp; omega))
    have HRO8 := (HRO.out.below HC7.out HRO.out.lt).set_other ⟨r, 0, none⟩ (.slice p7 l7 k7) (by have := HRL.out; simp; omega)
    refine hK.out _ _ (HRO8.cell 0) (fun hHeld => ?_)
    clear hK K
    refine wpAnyH_done (by kernel_rfl) ?_ _
    obtain ⟨w8, HW8⟩ : ∃ w8, Hid (w7.setCell ⟨r, 0, none⟩ (.slice p7 l7 k7) = w8) := ⟨_, hid_in rfl⟩
    rw [HW8.out] at HRX HPU
    go_upto_region 16 with fail
    refine wp_world HW8.out ?_
    clear m7 z7 HRO8 hrw
    obtain ⟨⟨g0, g1, g2, g3, g4⟩, q0, q1, q2, q3, q4⟩ := res_cells HRX.out (Below.refl _ _)
    go_wp2_with fail
    exact post_Row 4 37 rfl (w.heap.size + 1) rfl 37 [.int .i64 0, .bool false, .int .i64 0, .string ⟨#[]⟩, .slice none 0 0] (set5_row HRX.out rfl _ _ _ _ _) _ Tryz.underlying37 rfl 5 info37 rfl rfl ⟨_, _, _, _, _, _, _, HP.out, rfl, nm_nil _, HPU.out.1.set5 HRX.out _ _ _ _ _, gr_set5 HPU.out.2 (by omega) _ _ _ _ _⟩
set_option maxHeartbeats 4000000 in
set_option maxRecDepth 100000 in
theorem rdo_2a {w : World} {r : Nat} {es : List Ent} (h : RF w r es) (a z : Int) (p t d : ByteArray) (hp : p.size ≤ 9223372036854775807) (ht : t.size ≤ 9223372036854775807) (_hg : GoodL es) (_hnd : (es.map (·.names)).Nodup) (_hn : es.length ≤ 40000) (hc : checkS ⟨2, p, t, d, a, z⟩ = 0) (P : RA → List Ent → Prop) (cN : nmsOf p = []) (hP : P (RA.err 5) es) :
    Calls Tryz.prog 15 #[.pointer (some ⟨r, 0, none⟩), .agg #[.int .i64 2, .string p, .string t, .string d, .int .i64 a, .int .i64 z]] w fun e w' => RDo w r P e w' := by
  obtain ⟨WA, HWA, HRO, HRA, HBA⟩ := op_box w 2 a z p t d
  have HRU := hid_in h
  have HRL := hid_in h.lt9
  have HCK := hid_in (fun W => Nd.rcheck_any ⟨2, p, t, d, a, z⟩ hp ht W)
  simp only [Opn.val] at HCK
  have HNA := hid_in (fun W => names_t p hp W)
  obtain ⟨c0, c1, c2, c3, c4, c5⟩ := op_cells HRO.out (Below.refl _ WA)
  have HK := hid_in (fun W (kb : Below WA.heap.size WA W) => op_cells HRO.out kb)
  rw [hc] at HCK
  have HP := hid_in hP
  have HXL := hid_in (gp_nms p).lens
  have hpl8 : ((nmsOf p).length : Int) ≤ 8 := by have := (gp_nms p).2; omega
  have hp1 : (nmsOf p).length = 0 := by rw [cN]; rfl
  rw [hp1] at HNA
  clear h hc hP _hg _hnd _hn cN hp1 hpl8
  go_enter Tryz.func15, Tryz.ntmps15
  go_upto_region 1 with fail
  refine wp_world HWA.out ?_
  go_wp2_with (first | (go_at_call 33; refine (HCK.out _).mono ?_; rintro e w1 ⟨rfl, hb1⟩; obtain ⟨e0, e1, e2, e3, e4, e5⟩ := HK.out _ hb1; have HC1 := hid_in hb1; clear hb1) | (go_at_call 19; refine (HNA.out _).mono ?_; rintro e w2 ⟨np, nc, rfl, hv2, hb2⟩; have HV2 := hid_in hv2; have HC2 := hid_in (HC1.out.trans (hb2.mono HC1.out.size)); obtain ⟨f0, f1, f2, f3, f4, f5⟩ := HK.out _ HC2.out; clear hv2 hb2) | (go_at_call 34; refine (rfail_any _ _).mono ?_; rintro e w5 ⟨rfl, hb5⟩; have hc5 := (HC2.out).trans (hb5.mono (HC2.out).size); obtain ⟨⟨g0, g1, g2, g3, g4⟩, q0, q1, q2, q3, q4⟩ := res_cells HRA.out hc5; have HR5 := hid_in (HRA.out.below hc5 HRA.out.lt); have HB5 := hid_in (HBA.out.trans (hc5.mono HBA.out.size)); clear hb5 hc5))
  exact post_Row 4 37 rfl (w.heap.size + 1) rfl 37 [.int .i64 5, .bool false, .int .i64 0, .string ⟨#[]⟩, .slice none 0 0] (set5_row HR5.out rfl _ _ _ _ _) _ Tryz.underlying37 rfl 5 info37 rfl rfl ⟨_, _, _, _, _, es, _, HP.out, rfl, nm_nil _, (HRU.out.below HB5.out).set5 HR5.out _ _ _ _ _, gr_set5 (below_but r HB5.out) (by omega) _ _ _ _ _⟩
set_option maxHeartbeats 4000000 in
set_option maxRecDepth 100000 in
theorem rdo_2b {w : World} {r : Nat} {es : List Ent} (h : RF w r es) (a z : Int) (p t d : ByteArray) (hp : p.size ≤ 9223372036854775807) (ht : t.size ≤ 9223372036854775807) (hg : GoodL es) (hnd : (es.map (·.names)).Nodup) (_hn : es.length ≤ 40000) (hc : checkS ⟨2, p, t, d, a, z⟩ = 0) (P : RA → List Ent → Prop) (cN : nmsOf p ≠ []) (kk : Int) (hD : dirR es (nmsOf p) = kk) (hk : kk ≠ 0) (hP : P (RA.err kk) es) :
    Calls Tryz.prog 15 #[.pointer (some ⟨r, 0, none⟩), .agg #[.int .i64 2, .string p, .string t, .string d, .int .i64 a, .int .i64 z]] w fun e w' => RDo w r P e w' := by
  obtain ⟨WA, HWA, HRO, HRA, HBA⟩ := op_box w 2 a z p t d
  have HRU := hid_in h
  have HRL := hid_in h.lt9
  have HCK := hid_in (fun W => Nd.rcheck_any ⟨2, p, t, d, a, z⟩ hp ht W)
  simp only [Opn.val] at HCK
  have HNA := hid_in (fun W => names_t p hp W)
  obtain ⟨c0, c1, c2, c3, c4, c5⟩ := op_cells HRO.out (Below.refl _ WA)
  have HK := hid_in (fun W (kb : Below WA.heap.size WA W) => op_cells HRO.out kb)
  rw [hc] at HCK
  have HP := hid_in hP
  have HXL := hid_in (gp_nms p).lens
  have hpl8 : ((nmsOf p).length : Int) ≤ 8 := by have := (gp_nms p).2; omega
  have hp0 : ¬ ((nmsOf p).length : Int) = 0 := fun e => cN (List.length_eq_zero_iff.1 (by omega))
  have hp1 : (((nmsOf p).length : Int) == 0) = false := by rw [beq_eq_false_iff_ne]; exact hp0
  have HDR := hid_in (fun W nv (k : Below w.heap.size w W) (hv : Val W nv (nmsOf p)) => rdirOf_any (h.below k) hg hnd hv (gp_nms p) cN)
  rw [hD] at HDR
  have hk2 : (kk != 0) = true := by simpa using hk
  generalize (nmsOf p).length = pl at *
  clear h hc hP hg hnd _hn cN hD hk
  go_enter Tryz.func15, Tryz.ntmps15
  go_upto_region 1 with fail
  refine wp_world HWA.out ?_
  go_wp2_with (first | (go_at_call 33; refine (HCK.out _).mono ?_; rintro e w1 ⟨rfl, hb1⟩; obtain ⟨e0, e1, e2, e3, e4, e5⟩ := HK.out _ hb1; have HC1 := hid_in hb1; clear hb1) | (go_at_call 19; refine (HNA.out _).mono ?_; rintro e w2 ⟨np, nc, rfl, hv2, hb2⟩; have HV2 := hid_in hv2; have HC2 := hid_in (HC1.out.trans (hb2.mono HC1.out.size)); obtain ⟨f0, f1, f2, f3, f4, f5⟩ := HK.out _ HC2.out; clear hv2 hb2) | (go_at_call 35; refine (HDR.out _ _ (HBA.out.trans (HC2.out.mono HBA.out.size)) HV2.out).mono ?_; rintro e w3 ⟨rfl, hb3⟩; have HX3 := hid_in hb3; have HC3 := hid_in (HC2.out.trans (hb3.mono HC2.out.size)); clear hb3) | (go_at_call 34; refine (rfail_any _ _).mono ?_; rintro e w5 ⟨rfl, hb5⟩; have hc5 := (HC3.out).trans (hb5.mono (HC3.out).size); obtain ⟨⟨g0, g1, g2, g3, g4⟩, q0, q1, q2, q3, q4⟩ := res_cells HRA.out hc5; have HR5 := hid_in (HRA.out.below hc5 HRA.out.lt); have HB5 := hid_in (HBA.out.trans (hc5.mono HBA.out.size)); clear hb5 hc5))
  exact post_Row 4 37 rfl (w.heap.size + 1) rfl 37 [.int .i64 kk, .bool false, .int .i64 0, .string ⟨#[]⟩, .slice none 0 0] (set5_row HR5.out rfl _ _ _ _ _) _ Tryz.underlying37 rfl 5 info37 rfl rfl ⟨_, _, _, _, _, es, _, HP.out, rfl, nm_nil _, (HRU.out.below HB5.out).set5 HR5.out _ _ _ _ _, gr_set5 (below_but r HB5.out) (by omega) _ _ _ _ _⟩
set_option maxHeartbeats 4000000 in
set_option maxRecDepth 100000 in
theorem rdo_2c {w : World} {r : Nat} {es : List Ent} (h : RF w r es) (a z : Int) (p t d : ByteArray) (hp : p.size ≤ 9223372036854775807) (ht : t.size ≤ 9223372036854775807) (hg : GoodL es) (hnd : (es.map (·.names)).Nodup) (_hn : es.length ≤ 40000) (hc : checkS ⟨2, p, t, d, a, z⟩ = 0) (P : RA → List Ent → Prop) (cN : nmsOf p ≠ []) (hD : dirR es (nmsOf p) = 0) (O : Ent) (hO : entAt es (nmsOf p) = some O) (hP : P (RA.err 5) es) :
    Calls Tryz.prog 15 #[.pointer (some ⟨r, 0, none⟩), .agg #[.int .i64 2, .string p, .string t, .string d, .int .i64 a, .int .i64 z]] w fun e w' => RDo w r P e w' := by
  obtain ⟨WA, HWA, HRO, HRA, HBA⟩ := op_box w 2 a z p t d
  have HRU := hid_in h
  have HRL := hid_in h.lt9
  have HCK := hid_in (fun W => Nd.rcheck_any ⟨2, p, t, d, a, z⟩ hp ht W)
  simp only [Opn.val] at HCK
  have HNA := hid_in (fun W => names_t p hp W)
  obtain ⟨c0, c1, c2, c3, c4, c5⟩ := op_cells HRO.out (Below.refl _ WA)
  have HK := hid_in (fun W (kb : Below WA.heap.size WA W) => op_cells HRO.out kb)
  rw [hc] at HCK
  have HP := hid_in hP
  have HXL := hid_in (gp_nms p).lens
  have hpl8 : ((nmsOf p).length : Int) ≤ 8 := by have := (gp_nms p).2; omega
  have hp0 : ¬ ((nmsOf p).length : Int) = 0 := fun e => cN (List.length_eq_zero_iff.1 (by omega))
  have hp1 : (((nmsOf p).length : Int) == 0) = false := by rw [beq_eq_false_iff_ne]; exact hp0
  have HDR := hid_in (fun W nv (k : Below w.heap.size w W) (hv : Val W nv (nmsOf p)) => rdirOf_any (h.below k) hg hnd hv (gp_nms p) cN)
  have HPL := hid_in (fun W nv (k : Below w.heap.size w W) (hv : Val W nv (nmsOf p)) => rplace_any (h.below k) hg hv (gp_nms p))
  have HND := hid_in hnd
  rw [hD] at HDR
  have HNO := hid_in hO
  generalize (nmsOf p).length = pl at *
  clear h hc hP hg hnd _hn cN hD hO
  go_enter Tryz.func15, Tryz.ntmps15
  go_upto_region 1 with fail
  refine wp_world HWA.out ?_
  go_wp2_with (first | (go_at_call 33; refine (HCK.out _).mono ?_; rintro e w1 ⟨rfl, hb1⟩; obtain ⟨e0, e1, e2, e3, e4, e5⟩ := HK.out _ hb1; have HC1 := hid_in hb1; clear hb1) | (go_at_call 19; refine (HNA.out _).mono ?_; rintro e w2 ⟨np, nc, rfl, hv2, hb2⟩; have HV2 := hid_in hv2; have HC2 := hid_in (HC1.out.trans (hb2.mono HC1.out.size)); obtain ⟨f0, f1, f2, f3, f4, f5⟩ := HK.out _ HC2.out; clear hv2 hb2) | (go_at_call 35; refine (HDR.out _ _ (HBA.out.trans (HC2.out.mono HBA.out.size)) HV2.out).mono ?_; rintro e w3 ⟨rfl, hb3⟩; have HX3 := hid_in hb3; have HC3 := hid_in (HC2.out.trans (hb3.mono HC2.out.size)); clear hb3) | (go_at_call 36; refine (HPL.out _ _ (HBA.out.trans (HC3.out.mono HBA.out.size)) (HV2.out.below HX3.out)).mono ?_; rintro e w4 ⟨kk, rfl, hat, hb4⟩; obtain ⟨ix, rfl, hix⟩ := at_one9 HND.out hat HNO.out; have i0 : ¬ (ix : Int) < 0 := (by omega); have i1 : 0 ≤ (ix : Int) := (by omega); clear hix; have HX4 := hid_in (HX3.out.trans (hb4.mono HX3.out.size)); have HC4 := hid_in (HC3.out.trans (hb4.mono HC3.out.size)); clear hat hb4) | (go_at_call 34; refine (rfail_any _ _).mono ?_; rintro e w5 ⟨rfl, hb5⟩; have hc5 := (HC4.out).trans (hb5.mono (HC4.out).size); obtain ⟨⟨g0, g1, g2, g3, g4⟩, q0, q1, q2, q3, q4⟩ := res_cells HRA.out hc5; have HR5 := hid_in (HRA.out.below hc5 HRA.out.lt); have HB5 := hid_in (HBA.out.trans (hc5.mono HBA.out.size)); clear hb5 hc5))
  exact post_Row 4 37 rfl (w.heap.size + 1) rfl 37 [.int .i64 5, .bool false, .int .i64 0, .string ⟨#[]⟩, .slice none 0 0] (set5_row HR5.out rfl _ _ _ _ _) _ Tryz.underlying37 rfl 5 info37 rfl rfl ⟨_, _, _, _, _, es, _, HP.out, rfl, nm_nil _, (HRU.out.below HB5.out).set5 HR5.out _ _ _ _ _, gr_set5 (below_but r HB5.out) (by omega) _ _ _ _ _⟩
set_option maxHeartbeats 4000000 in
set_option maxRecDepth 100000 in
theorem rdo_2d {w : World} {r : Nat} {es : List Ent} (h : RF w r es) (a z : Int) (p t d : ByteArray) (hp : p.size ≤ 9223372036854775807) (ht : t.size ≤ 9223372036854775807) (hg : GoodL es) (hnd : (es.map (·.names)).Nodup) (hn : es.length ≤ 40000) (hc : checkS ⟨2, p, t, d, a, z⟩ = 0) (P : RA → List Ent → Prop) (cN : nmsOf p ≠ []) (hD : dirR es (nmsOf p) = 0) (hO : entAt es (nmsOf p) = none) (hP : P (RA.err 0) (insE es ⟨nmsOf p, false, ⟨#[]⟩⟩)) :
    Calls Tryz.prog 15 #[.pointer (some ⟨r, 0, none⟩), .agg #[.int .i64 2, .string p, .string t, .string d, .int .i64 a, .int .i64 z]] w fun e w' => RDo w r P e w' := by
  obtain ⟨WA, HWA, HRO, HRA, HBA⟩ := op_box w 2 a z p t d
  have HRU := hid_in h
  have HRL := hid_in h.lt9
  have HCK := hid_in (fun W => Nd.rcheck_any ⟨2, p, t, d, a, z⟩ hp ht W)
  simp only [Opn.val] at HCK
  have HNA := hid_in (fun W => names_t p hp W)
  obtain ⟨c0, c1, c2, c3, c4, c5⟩ := op_cells HRO.out (Below.refl _ WA)
  have HK := hid_in (fun W (kb : Below WA.heap.size WA W) => op_cells HRO.out kb)
  rw [hc] at HCK
  have HP := hid_in hP
  have HXL := hid_in (gp_nms p).lens
  have hpl8 : ((nmsOf p).length : Int) ≤ 8 := by have := (gp_nms p).2; omega
  have hp0 : ¬ ((nmsOf p).length : Int) = 0 := fun e => cN (List.length_eq_zero_iff.1 (by omega))
  have hp1 : (((nmsOf p).length : Int) == 0) = false := by rw [beq_eq_false_iff_ne]; exact hp0
  have HDR := hid_in (fun W nv (k : Below w.heap.size w W) (hv : Val W nv (nmsOf p)) => rdirOf_any (h.below k) hg hnd hv (gp_nms p) cN)
  have HPL := hid_in (fun W nv (k : Below w.heap.size w W) (hv : Val W nv (nmsOf p)) => rplace_any (h.below k) hg hv (gp_nms p))
  have HND := hid_in hnd
  rw [hD] at HDR
  have HNO := hid_in hO
  obtain ⟨lp, lc, hrow0, hfo0⟩ := h.at9
  have HROW := hid_in hrow0
  have HSH := hid_in (fun W nv (hv : Val W nv (nmsOf p)) => rshow_one (gp_nms p) hv)
  have HIN : Hid (∀ W, Below w.heap.size w W → Calls Tryz.prog 37 #[.slice lp es.length lc, .agg #[.string (B (showS (nmsOf p))), .bool false, .string ⟨#[]⟩]] W fun e w' => (∃ u, e = .returned u ∧ FO w' W.heap.size u ((insE es ⟨nmsOf p, false, ⟨#[]⟩⟩).map Ent.fil)) ∧ Below W.heap.size W w') := hid_in (fun W k => by
    have h1 := Rf.insert_any W _ (es.map Ent.fil) (⟨nmsOf p, false, ⟨#[]⟩⟩ : Ent).fil (hfo0.below k).fls (by rw [List.length_map]; omega) (by have := gp_size (gp_nms p); show (B (showS (nmsOf p))).size ≤ _; omega) (fun g hg2 => by obtain ⟨x, hx, rfl⟩ := List.mem_map.1 hg2; have := gp_size (hg x hx).1; show (B (showS x.names)).size ≤ _; omega)
    rw [ins_fil es ⟨nmsOf p, false, ⟨#[]⟩⟩ (fun x hx => (hg x hx).1) (gp_nms p)] at h1
    exact h1)
  obtain ⟨tx, HTX⟩ : ∃ tx, Hid (B (showS (nmsOf p)) = tx) := ⟨_, hid_in rfl⟩
  rw [HTX.out] at HSH HIN
  generalize (nmsOf p).length = pl at *
  clear h hc hP hg hnd hn cN hD hO hfo0 hrow0
  go_enter Tryz.func15, Tryz.ntmps15
  go_upto_region 1 with fail
  refine wp_world HWA.out ?_
  go_upto_region 15 with (first | (go_at_call 33; refine (HCK.out _).mono ?_; rintro e w1 ⟨rfl, hb1⟩; obtain ⟨e0, e1, e2, e3, e4, e5⟩ := HK.out _ hb1; have HC1 := hid_in hb1; clear hb1) | (go_at_call 19; refine (HNA.out _).mono ?_; rintro e w2 ⟨np, nc, rfl, hv2, hb2⟩; have HV2 := hid_in hv2; have HC2 := hid_in (HC1.out.trans (hb2.mono HC1.out.size)); obtain ⟨f0, f1, f2, f3, f4, f5⟩ := HK.out _ HC2.out; clear hv2 hb2) | (go_at_call 35; refine (HDR.out _ _ (HBA.out.trans (HC2.out.mono HBA.out.size)) HV2.out).mono ?_; rintro e w3 ⟨rfl, hb3⟩; have HX3 := hid_in hb3; have HC3 := hid_in (HC2.out.trans (hb3.mono HC2.out.size)); clear hb3) | (go_at_call 36; refine (HPL.out _ _ (HBA.out.trans (HC3.out.mono HBA.out.size)) (HV2.out.below HX3.out)).mono ?_; rintro e w4 ⟨kk, rfl, hat, hb4⟩; obtain rfl := at_none9 hat HNO.out; have HX4 := hid_in (HX3.out.trans (hb4.mono HX3.out.size)); have HC4 := hid_in (HC3.out.trans (hb4.mono HC3.out.size)); clear hat hb4))
  have hrow := HROW.out
  have m0 := (hrow.below (HBA.out.trans (HC4.out.mono HBA.out.size)) hrow.lt).cell 0
  simp only [List.getElem?_cons_zero] at m0
  clear c0 c1 c2 c3 c4 c5 e0 e1 e2 e3 e4 e5
  refine wp_region_held_drew (S := fun W => W.cell? ⟨w.heap.size, 0, none⟩ = some (.int .i64 2)) (by kernel_rfl) (HK.out _ HC4.out).1 (fun hHeld => ?_)
  refine take_put (i := 0) (d := 37) (v := ?_) rfl rfl (by kernel_rfl) (by kernel_rfl) (by kernel_rfl) (fun _ _ _ h => h) (Or.inl ⟨by kernel_rfl, ?_⟩) hHeld ?_
  rotate_left
  · (intro w hSw; (try dsimp only at hSw); go_simp; (try with_reducible rfl))
  simp only [Act.put, List.setIfInBounds_toArray, List.set_cons_zero, List.set_cons_succ]
  refine take_put (i := 1) (d := 38) (v := ?_) rfl rfl (by kernel_rfl) (by kernel_rfl) (by kernel_rfl) (fun _ _ _ h => h) (Or.inl ⟨by kernel_rfl, ?_⟩) hHeld ?_
  rotate_left
  · (intro w hSw; (try dsimp only at hSw); go_simp; (try with_reducible rfl))
  simp only [Act.put, List.setIfInBounds_toArray, List.set_cons_zero, List.set_cons_succ]
  refine take_put (i := 2) (d := 39) (v := ?_) rfl rfl (by kernel_rfl) (by kernel_rfl) (by kernel_rfl) (fun _ _ _ h => h) (Or.inl ⟨by kernel_rfl, ?_⟩) hHeld ?_
  rotate_left
  · (intro w hSw; (try dsimp only at hSw); go_simp; (try with_reducible rfl))
  simp only [Act.put, List.setIfInBounds_toArray, List.set_cons_zero, List.set_cons_succ]
  refine take_put (i := 3) (d := 40) (v := ?_) rfl rfl (by kernel_rfl) (by kernel_rfl) (by kernel_rfl) (fun _ _ _ h => h) (Or.inl ⟨by kernel_rfl, ?_⟩) hHeld ?_
  rotate_left
  · (intro w hSw; (try dsimp only at hSw); go_simp; (try with_reducible rfl))
  simp only [Act.put, List.setIfInBounds_toArray, List.set_cons_zero, List.set_cons_succ]
  refine take_put (i := 5) (d := 42) (v := ?_) rfl rfl (by kernel_rfl) (by kernel_rfl) (by kernel_rfl) (fun _ _ _ h => h) (Or.inl ⟨by kernel_rfl, ?_⟩) hHeld ?_
  rotate_left
  · (intro w hSw; (try dsimp only at hSw); go_simp; (try with_reducible rfl))
  simp only [Act.put, List.setIfInBounds_toArray, List.set_cons_zero, List.set_cons_succ]
  refine take_put (i := 7) (d := 44) (v := ?_) rfl rfl (by kernel_rfl) (by kernel_rfl) (by kernel_rfl) (fun _ _ _ h => h) (Or.inl ⟨by kernel_rfl, ?_⟩) hHeld ?_
  rotate_left
  · (intro w hSw; (try dsimp only at hSw); go_simp; (try with_reducible rfl))
  simp only [Act.put, List.setIfInBounds_toArray, List.set_cons_zero, List.set_cons_succ]
  refine take_put (i := 8) (d := 45) (v := ?_) rfl rfl (by kernel_rfl) (by kernel_rfl) (by kernel_rfl) (fun _ _ _ h => h) (Or.inl ⟨by kernel_rfl, ?_⟩) hHeld ?_
  rotate_left
  · (intro w hSw; (try dsimp only at hSw); go_simp; (try with_reducible rfl))
  simp only [Act.put, List.setIfInBounds_toArray, List.set_cons_zero, List.set_cons_succ]
  refine take_put (i := 9) (d := 46) (v := ?_) rfl rfl (by kernel_rfl) (by kernel_rfl) (by kernel_rfl) (fun _ _ _ h => h) (Or.inl ⟨by kernel_rfl, ?_⟩) hHeld ?_
  rotate_left
  · (intro w hSw; (try dsimp only at hSw); go_simp; (try with_reducible rfl))
  simp only [Act.put, List.setIfInBounds_toArray, List.set_cons_zero, List.set_cons_succ]
  refine wpAnyH_ready (rs := [4, 6]) (by kernel_rfl) (by simp) ?_
  refine AllReadyH.cons rfl (fun K hK => ?_) (AllReadyH.cons rfl (fun K hK => ?_) AllReadyH.nil)
  · rw [if_pos (by rfl)]
    go_simp
    refine hK.out _ _ (by first | exact (HK.out _ HC4.out).1 | exact (HK.out _ (Nd.below_drewN HC4.out 1)).1) (fun hHeld => ?_)
    clear hK K
    refine wpAnyH_ready (rs := [6]) (by kernel_rfl) (by simp) ?_
    refine AllReadyH.cons rfl (fun K hK => ?_) AllReadyH.nil
    rw [if_pos (by rfl)]
    go_simp
    refine (HSH.out _ _ (by first | exact HV2.out.below HX4.out | exact (HV2.out.below HX4.out).below (Nd.below_drewN (Below.refl _ _) 1))).mono ?_
    rintro e w6 ⟨rfl, hb6⟩
    (try replace hb6 := nodrew hb6)
    have HX6 := hid_in hb6
    have HC6 := hid_in (HC4.out.trans (hb6.mono HC4.out.size))
    clear hb6
    have m6 := (hrow.below (HBA.out.trans (HC6.out.mono HBA.out.size)) hrow.lt).cell 0
    simp only [List.getElem?_cons_zero] at m6
    go_simp
    refine hK.out _ _ (by first | exact (HK.out _ HC6.out).1 | exact (HK.out _ (Nd.below_drewN HC6.out 1)).1 | exact (HK.out _ (Nd.below_drewN HC6.out 2)).1) (fun hHeld => ?_)
    clear hK K
    refine take_put (i := 10) (d := 47) (v := ?_) rfl rfl (by kernel_rfl) (by kernel_rfl) (by kernel_rfl) (fun _ _ _ h => h) (Or.inl ⟨by kernel_rfl, ?_⟩) hHeld ?_
    rotate_left
    · (intro w hSw; (try dsimp only at hSw); go_simp; (try with_reducible rfl))
    simp only [Act.put, List.setIfInBounds_toArray, List.set_cons_zero, List.set_cons_succ]
    refine wpAnyH_ready (rs := [11]) (by kernel_rfl) (by simp) ?_
    refine AllReadyH.cons rfl (fun K hK => ?_) AllReadyH.nil
    rw [if_pos (by rfl)]
    go_simp
    refine (HIN.out _ (by first | exact HBA.out.trans (HC6.out.mono HBA.out.size) | exact Nd.below_drewN (HBA.out.trans (HC6.out.mono HBA.out.size)) 1 | exact Nd.below_drewN (HBA.out.trans (HC6.out.mono HBA.out.size)) 2)).mono ?_
    rintro e w7 ⟨⟨u7, rfl, ho7⟩, hb7⟩
    (try replace hb7 := nodrew hb7)
    obtain ⟨p7, l7, k7, rfl⟩ := fo_form ho7
    have HO7 := hid_in ho7
    have HC7 := hid_in (HC6.out.trans (hb7.mono HC6.out.size))
    have HB7 := hid_in (HBA.out.trans (HC7.out.mono HBA.out.size))
    have HZ7 := hid_in (HBA.out.trans (HC6.out.mono HBA.out.size)).size
    have hrw := hrow.below HB7.out hrow.lt
    have m7 := hrw.cell 0
    have z7 := hrw.frozen 0
    simp only [List.getElem?_cons_zero] at m7
    clear ho7 hb7
    go_simp
    refine hK.out _ _ (by first | exact (HK.out _ HC7.out).1 | exact (HK.out _ (Nd.below_drewN HC7.out 1)).1) (fun hHeld => ?_)
    clear hK K
    refine take_put (i := 12) (d := 49) (v := ?_) rfl rfl (by kernel_rfl) (by kernel_rfl) (by kernel_rfl) (fun _ _ _ h => h) (Or.inl ⟨by kernel_rfl, ?_⟩) hHeld ?_
    rotate_left
    · (intro w hSw; (try dsimp only at hSw); go_simp; (try with_reducible rfl))
    simp only [Act.put, List.setIfInBounds_toArray, List.set_cons_zero, List.set_cons_succ]
    refine take_put (i := 13) (d := 50) (v := ?_) rfl rfl (by kernel_rfl) (by kernel_rfl) (by kernel_rfl) (fun _ _ _ h => h) (Or.inl ⟨by kernel_rfl, ?_⟩) hHeld ?_
    rotate_left
    · (intro w hSw; (try dsimp only at hSw); go_simp; (try with_reducible rfl))
    simp only [Act.put, List.setIfInBounds_toArray, List.set_cons_zero, List.set_cons_succ]
    refine wpAnyH_ready (rs := [14]) (by kernel_rfl) (by simp) ?_
    refine AllReadyH.cons rfl (fun K hK => ?_) AllReadyH.nil
    rw [if_pos (by rfl)]
    go_simp
    have HPU := hid_in (RF.put hrow HB7.out (Rf.FO.mono HO7.out HZ7.out))
    have HRX : Hid (Row (w7.setCell ⟨r, 0, none⟩ (.slice p7 l7 k7)) (w.heap.size + 1) [.int .i64 0, .bool false, .int .i64 0, .string ⟨#[]⟩, .slice none 0 0] 37) := hid_in ((HRA.out.below HC7.out HRA.out.lt).set_other _ _ (by have := HRL.out; simp; omega))
    have HRO8 := (HRO.out.below HC7.out HRO.out.lt).set_other ⟨r, 0, none⟩ (.slice p7 l7 k7) (by have := HRL.out; simp; omega)
    refine hK.out _ _ (HRO8.cell 0) (fun hHeld => ?_)
    clear hK K
    refine wpAnyH_done (by kernel_rfl) ?_ _
    obtain ⟨w8, HW8⟩ : ∃ w8, Hid (w7.setCell ⟨r, 0, none⟩ (.slice p7 l7 k7) = w8) := ⟨_, hid_in rfl⟩
    rw [HW8.out] at HRX HPU
    go_upto_region 16 with fail
    refine wp_world HW8.out ?_
    clear m7 z7 HRO8 hrw
    obtain ⟨⟨g0, g1, g2, g3, g4⟩, q0, q1, q2, q3, q4⟩ := res_cells HRX.out (Below.refl _ _)
    go_wp2_with fail
    exact post_Row 4 37 rfl (w.heap.size + 1) rfl 37 [.int .i64 0, .bool false, .int .i64 0, .string ⟨#[]⟩, .slice none 0 0] (set5_row HRX.out rfl _ _ _ _ _) _ Tryz.underlying37 rfl 5 info37 rfl rfl ⟨_, _, _, _, _, _, _, HP.out, rfl, nm_nil _, HPU.out.1.set5 HRX.out _ _ _ _ _, gr_set5 HPU.out.2 (by omega) _ _ _ _ _⟩
  · rw [if_pos (by rfl)]
    go_simp
    refine (HSH.out _ _ (by first | exact HV2.out.below HX4.out | exact (HV2.out.below HX4.out).below (Nd.below_drewN (Below.refl _ _) 1))).mono ?_
    rintro e w6 ⟨rfl, hb6⟩
    (try replace hb6 := nodrew hb6)
    have HX6 := hid_in hb6
    have HC6 := hid_in (HC4.out.trans (hb6.mono HC4.out.size))
    clear hb6
    have m6 := (hrow.below (HBA.out.trans (HC6.out.mono HBA.out.size)) hrow.lt).cell 0
    simp only [List.getElem?_cons_zero] at m6
    go_simp
    refine hK.out _ _ (by first | exact (HK.out _ HC6.out).1 | exact (HK.out _ (Nd.below_drewN HC6.out 1)).1 | exact (HK.out _ (Nd.below_drewN HC6.out 2)).1) (fun hHeld => ?_)
    clear hK K
    refine take_put (i := 10) (d := 47) (v := ?_) rfl rfl (by kernel_rfl) (by kernel_rfl) (by kernel_rfl) (fun _ _ _ h => h) (Or.inl ⟨by kernel_rfl, ?_⟩) hHeld ?_
    rotate_left
    · (intro w hSw; (try dsimp only at hSw); go_simp; (try with_reducible rfl))
    simp only [Act.put, List.setIfInBounds_toArray, List.set_cons_zero, List.set_cons_succ]
    refine wpAnyH_ready (rs := [4]) (by kernel_rfl) (by simp) ?_
    refine AllReadyH.cons rfl (fun K hK => ?_) AllReadyH.nil
    rw [if_pos (by rfl)]
    go_simp
    refine hK.out _ _ (by first | exact (HK.out _ HC6.out).1 | exact (HK.out _ (Nd.below_drewN HC6.out 1)).1 | exact (HK.out _ (Nd.below_drewN HC6.out 2)).1) (fun hHeld => ?_)
    clear hK K
    refine wpAnyH_ready (rs := [11]) (by kernel_rfl) (by simp) ?_
    refine AllReadyH.cons rfl (fun K hK => ?_) AllReadyH.nil
    rw [if_pos (by rfl)]
    go_simp
    refine (HIN.out _ (by first | exact HBA.out.trans (HC6.out.mono HBA.out.size) | exact Nd.below_drewN (HBA.out.trans (HC6.out.mono HBA.out.size)) 1 | exact Nd.below_drewN (HBA.out.trans (HC6.out.mono HBA.out.size)) 2)).mono ?_
    rintro e w7 ⟨⟨u7, rfl, ho7⟩, hb7⟩
    (try replace hb7 := nodrew hb7)
    obtain ⟨p7, l7, k7, rfl⟩ := fo_form ho7
    have HO7 := hid_in ho7
    have HC7 := hid_in (HC6.out.trans (hb7.mono HC6.out.size))
    have HB7 := hid_in (HBA.out.trans (HC7.out.mono HBA.out.size))
    have HZ7 := hid_in (HBA.out.trans (HC6.out.mono HBA.out.size)).size
    have hrw := hrow.below HB7.out hrow.lt
    have m7 := hrw.cell 0
    have z7 := hrw.frozen 0
    simp only [List.getElem?_cons_zero] at m7
    clear ho7 hb7
    go_simp
    refine hK.out _ _ (by first | exact (HK.out _ HC7.out).1 | exact (HK.out _ (Nd.below_drewN HC7.out 1)).1) (fun hHeld => ?_)
    clear hK K
    refine take_put (i := 12) (d := 49) (v := ?_) rfl rfl (by kernel_rfl) (by kernel_rfl) (by kernel_rfl) (fun _ _ _ h => h) (Or.inl ⟨by kernel_rfl, ?_⟩) hHeld ?_
    rotate_left
    · (intro w hSw; (try dsimp only at hSw); go_simp; (try with_reducible rfl))
    simp only [Act.put, List.setIfInBounds_toArray, List.set_cons_zero, List.set_cons_succ]
    refine take_put (i := 13) (d := 50) (v := ?_) rfl rfl (by kernel_rfl) (by kernel_rfl) (by kernel_rfl) (fun _ _ _ h => h) (Or.inl ⟨by kernel_rfl, ?_⟩) hHeld ?_
    rotate_left
    · (intro w hSw; (try dsimp only at hSw); go_simp; (try with_reducible rfl))
    simp only [Act.put, List.setIfInBounds_toArray, List.set_cons_zero, List.set_cons_succ]
    refine wpAnyH_ready (rs := [14]) (by kernel_rfl) (by simp) ?_
    refine AllReadyH.cons rfl (fun K hK => ?_) AllReadyH.nil
    rw [if_pos (by rfl)]
    go_simp
    have HPU := hid_in (RF.put hrow HB7.out (Rf.FO.mono HO7.out HZ7.out))
    have HRX : Hid (Row (w7.setCell ⟨r, 0, none⟩ (.slice p7 l7 k7)) (w.heap.size + 1) [.int .i64 0, .bool false, .int .i64 0, .string ⟨#[]⟩, .slice none 0 0] 37) := hid_in ((HRA.out.below HC7.out HRA.out.lt).set_other _ _ (by have := HRL.out; simp; omega))
    have HRO8 := (HRO.out.below HC7.out HRO.out.lt).set_other ⟨r, 0, none⟩ (.slice p7 l7 k7) (by have := HRL.out; simp; omega)
    refine hK.out _ _ (HRO8.cell 0) (fun hHeld => ?_)
    clear hK K
    refine wpAnyH_done (by kernel_rfl) ?_ _
    obtain ⟨w8, HW8⟩ : ∃ w8, Hid (w7.setCell ⟨r, 0, none⟩ (.slice p7 l7 k7) = w8) := ⟨_, hid_in rfl⟩
    rw [HW8.out] at HRX HPU
    go_upto_region 16 with fail
    refine wp_world HW8.out ?_
    clear m7 z7 HRO8 hrw
    obtain ⟨⟨g0, g1, g2, g3, g4⟩, q0, q1, q2, q3, q4⟩ := res_cells HRX.out (Below.refl _ _)
    go_wp2_with fail
    exact post_Row 4 37 rfl (w.heap.size + 1) rfl 37 [.int .i64 0, .bool false, .int .i64 0, .string ⟨#[]⟩, .slice none 0 0] (set5_row HRX.out rfl _ _ _ _ _) _ Tryz.underlying37 rfl 5 info37 rfl rfl ⟨_, _, _, _, _, _, _, HP.out, rfl, nm_nil _, HPU.out.1.set5 HRX.out _ _ _ _ _, gr_set5 HPU.out.2 (by omega) _ _ _ _ _⟩
end Go.Proofs.YtngehkmdanhgpaaGreat.Pl
