/-
  The reference's rename: what is refused.
-/
import Derived.Laws.CopyOwn
import Derived.Deep.RegionLaw
import Derived.Deep.DrawnRows
import Derived.Deep.CutRange
import Derived.Lib.SlBytesConst
import Derived.Lib.AppendZeros
import Derived.Laws.Tables
import Derived.Test.YtngehkmdanhgpaaGreatQ00
import Derived.Test.YtngehkmdanhgpaaGreatQ01
import Derived.Test.YtngehkmdanhgpaaGreatQ02
import Derived.Test.YtngehkmdanhgpaaGreatQ03
import Derived.Test.YtngehkmdanhgpaaGreatQ04
import Derived.Test.YtngehkmdanhgpaaGreatQ05
import Derived.Test.YtngehkmdanhgpaaGreatQ06
import Derived.Test.YtngehkmdanhgpaaGreatQ07
import Derived.Test.YtngehkmdanhgpaaGreatQ08
import Derived.Test.YtngehkmdanhgpaaGreatQ09
import Derived.Test.YtngehkmdanhgpaaGreatQ10
import Derived.Test.YtngehkmdanhgpaaGreatQ11
import Derived.Test.YtngehkmdanhgpaaGreatQ12
import Derived.Test.YtngehkmdanhgpaaGreatQ13
import Derived.Test.YtngehkmdanhgpaaGreatQ14
import Derived.Test.YtngehkmdanhgpaaGreatQ15
import Derived.Test.YtngehkmdanhgpaaGreatQ16
import Derived.Test.YtngehkmdanhgpaaGreatQ17
import Derived.Test.YtngehkmdanhgpaaGreatQ18
import Derived.Test.YtngehkmdanhgpaaGreatQ19
import Derived.Test.YtngehkmdanhgpaaGreatQ20
import Derived.Test.YtngehkmdanhgpaaGreatQ21
import Derived.Test.YtngehkmdanhgpaaGreatQ22
import Derived.Test.YtngehkmdanhgpaaGreatQ23
import Derived.Test.YtngehkmdanhgpaaGreatQ24
import Derived.Test.YtngehkmdanhgpaaGreatQ25
import Derived.Test.YtngehkmdanhgpaaGreatQ26
import Derived.Test.YtngehkmdanhgpaaGreatQ27
import Derived.Test.YtngehkmdanhgpaaGreatQ28
import Derived.Test.YtngehkmdanhgpaaGreatQ29
import Derived.Test.YtngehkmdanhgpaaGreatQ30
import Derived.Test.YtngehkmdanhgpaaGreatQ31
import Derived.Test.YtngehkmdanhgpaaGreatQ32
import Derived.Test.YtngehkmdanhgpaaGreatQ33
import Derived.Test.YtngehkmdanhgpaaGreatQ34
import Derived.Test.YtngehkmdanhgpaaGreatQ35
import Derived.Test.YtngehkmdanhgpaaGreatQ36
import Derived.Test.YtngehkmdanhgpaaGreatQ37
import Derived.Test.YtngehkmdanhgpaaGreatQ38
import Derived.Test.YtngehkmdanhgpaaGreatQ39
import Derived.Test.YtngehkmdanhgpaaGreatQ40
namespace Go.Proofs.YtngehkmdanhgpaaGreat.Pl
open Go.RowKit
open Vp (Str B bl Val cmpL parseS showS splitS withinS IsPath sv)
open Nd (take_put Row wp_world post_Row post_Row2 grownBy_setCell below_of_grown)
open Rf (Fil Fls FO fcells fcells_len)
set_option maxHeartbeats 8000000 in
set_option maxRecDepth 100000 in
theorem rn_l1 {w : World} {r : Nat} {es : List Ent} (h : RF w r es) (hg : GoodL es) (hnd : (es.map (·.names)).Nodup) (_hn : es.length ≤ 40000) {pv qv : Value} {ps qs : List Str} (hp : Val w pv ps) (hq : Val w qv qs) (gp : Gp ps) (gq : Gp qs) (k a z : Int) (p t d : ByteArray) (c : ps = []) :
    Calls Tryz.prog 40 #[.pointer (some ⟨r, 0, none⟩), .agg #[.int .i64 k, .string p, .string t, .string d, .int .i64 a, .int .i64 z], pv, qv] w fun e w' => RmP w r es es 132 e w' := by
  obtain ⟨pp, pc, rfl⟩ : ∃ p c, pv = .slice p ps.length c := by obtain ⟨p, c, e, _⟩ := hp; exact ⟨p, c, e⟩
  obtain ⟨qp, qc, rfl⟩ : ∃ p c, qv = .slice p qs.length c := by obtain ⟨p, c, e, _⟩ := hq; exact ⟨p, c, e⟩
  obtain ⟨WA, HWA, HRO, HRA, HBA⟩ := op_box w k a z p t d
  have HRU := hid_in h
  have HLK := hid_in (fun W (k : Below w.heap.size w W) => rlook_any (h.below k) hg hnd (hp.below k) gp)
  have hpl8 : (ps.length : Int) ≤ 8 := by have := gp.2; omega
  have hql8 : (qs.length : Int) ≤ 8 := by have := gq.2; omega
  have hp1 : ps.length = 0 := by rw [c]; rfl
  rw [hp1]
  clear h hg hnd _hn hp hq gp gq c HLK hpl8 hp1
  go_enter Tryz.func40, Tryz.ntmps40
  go_upto_region 1 with fail
  refine wp_world HWA.out ?_
  go_wp2_with (first | (go_at_call 34; refine (rfail_any _ _).mono ?_; rintro e w5 ⟨rfl, hb5⟩; have hc5 := hb5; obtain ⟨⟨g0, g1, g2, g3, g4⟩, q0, q1, q2, q3, q4⟩ := res_cells HRA.out hc5; have HR5 := hid_in (HRA.out.below hc5 HRA.out.lt); have HB5 := hid_in (HBA.out.trans (hc5.mono HBA.out.size)); clear hb5 hc5))
  exact post_Row 8 37 rfl (w.heap.size + 1) rfl 37 [.int .i64 132, .bool false, .int .i64 0, .string ⟨#[]⟩, .slice none 0 0] (((((HR5.out.set_same 0 _).set_same 1 _).set_same 2 _).set_same 3 _).set_same 4 _) _ Tryz.underlying37 rfl 5 info37 rfl rfl (RmP.no HRU.out rfl (by decide) (s5_below HB5.out (by omega) _ _ _ _ _))
set_option maxHeartbeats 8000000 in
set_option maxRecDepth 100000 in
theorem rn_l2 {w : World} {r : Nat} {es : List Ent} (h : RF w r es) (hg : GoodL es) (hnd : (es.map (·.names)).Nodup) (_hn : es.length ≤ 40000) {pv qv : Value} {ps qs : List Str} (hp : Val w pv ps) (hq : Val w qv qs) (gp : Gp ps) (gq : Gp qs) (k a z : Int) (p t d : ByteArray) (c1 : ps ≠ []) (c : qs = []) :
    Calls Tryz.prog 40 #[.pointer (some ⟨r, 0, none⟩), .agg #[.int .i64 k, .string p, .string t, .string d, .int .i64 a, .int .i64 z], pv, qv] w fun e w' => RmP w r es es 132 e w' := by
  obtain ⟨pp, pc, rfl⟩ : ∃ p c, pv = .slice p ps.length c := by obtain ⟨p, c, e, _⟩ := hp; exact ⟨p, c, e⟩
  obtain ⟨qp, qc, rfl⟩ : ∃ p c, qv = .slice p qs.length c := by obtain ⟨p, c, e, _⟩ := hq; exact ⟨p, c, e⟩
  obtain ⟨WA, HWA, HRO, HRA, HBA⟩ := op_box w k a z p t d
  have HRU := hid_in h
  have HLK := hid_in (fun W (k : Below w.heap.size w W) => rlook_any (h.below k) hg hnd (hp.below k) gp)
  have hpl8 : (ps.length : Int) ≤ 8 := by have := gp.2; omega
  have hql8 : (qs.length : Int) ≤ 8 := by have := gq.2; omega
  have hp1 : ((ps.length : Int) == 0) = false := by rw [beq_eq_false_iff_ne]; exact fun e => c1 (List.length_eq_zero_iff.1 (by omega))
  have hq1 : qs.length = 0 := by rw [c]; rfl
  rw [hq1]
  generalize ps.length = pl at *
  clear h hg hnd _hn hp hq gp gq c c1 HLK hql8 hq1
  go_enter Tryz.func40, Tryz.ntmps40
  go_upto_region 1 with fail
  refine wp_world HWA.out ?_
  go_wp2_with (first | (go_at_call 34; refine (rfail_any _ _).mono ?_; rintro e w5 ⟨rfl, hb5⟩; have hc5 := hb5; obtain ⟨⟨g0, g1, g2, g3, g4⟩, q0, q1, q2, q3, q4⟩ := res_cells HRA.out hc5; have HR5 := hid_in (HRA.out.below hc5 HRA.out.lt); have HB5 := hid_in (HBA.out.trans (hc5.mono HBA.out.size)); clear hb5 hc5))
  exact post_Row 8 37 rfl (w.heap.size + 1) rfl 37 [.int .i64 132, .bool false, .int .i64 0, .string ⟨#[]⟩, .slice none 0 0] (((((HR5.out.set_same 0 _).set_same 1 _).set_same 2 _).set_same 3 _).set_same 4 _) _ Tryz.underlying37 rfl 5 info37 rfl rfl (RmP.no HRU.out rfl (by decide) (s5_below HB5.out (by omega) _ _ _ _ _))
set_option maxHeartbeats 8000000 in
set_option maxRecDepth 100000 in
theorem rn_l3 {w : World} {r : Nat} {es : List Ent} (h : RF w r es) (hg : GoodL es) (hnd : (es.map (·.names)).Nodup) (_hn : es.length ≤ 40000) {pv qv : Value} {ps qs : List Str} (hp : Val w pv ps) (hq : Val w qv qs) (gp : Gp ps) (gq : Gp qs) (k a z : Int) (p t d : ByteArray) (c1 : ps ≠ []) (c2 : qs ≠ []) (X : Ent) (kk : Int) (hX : lookR es ps = (X, kk)) (hk : kk ≠ 0) :
    Calls Tryz.prog 40 #[.pointer (some ⟨r, 0, none⟩), .agg #[.int .i64 k, .string p, .string t, .string d, .int .i64 a, .int .i64 z], pv, qv] w fun e w' => RmP w r es es kk e w' := by
  obtain ⟨pp, pc, rfl⟩ : ∃ p c, pv = .slice p ps.length c := by obtain ⟨p, c, e, _⟩ := hp; exact ⟨p, c, e⟩
  obtain ⟨qp, qc, rfl⟩ : ∃ p c, qv = .slice p qs.length c := by obtain ⟨p, c, e, _⟩ := hq; exact ⟨p, c, e⟩
  obtain ⟨WA, HWA, HRO, HRA, HBA⟩ := op_box w k a z p t d
  have HRU := hid_in h
  have HLK := hid_in (fun W (k : Below w.heap.size w W) => rlook_any (h.below k) hg hnd (hp.below k) gp)
  have hpl8 : (ps.length : Int) ≤ 8 := by have := gp.2; omega
  have hql8 : (qs.length : Int) ≤ 8 := by have := gq.2; omega
  have hp0 : ¬ (ps.length : Int) = 0 := fun e => c1 (List.length_eq_zero_iff.1 (by omega))
  have hq0 : ¬ (qs.length : Int) = 0 := fun e => c2 (List.length_eq_zero_iff.1 (by omega))
  have hp1 : ((ps.length : Int) == 0) = false := by rw [beq_eq_false_iff_ne]; exact hp0
  have hq1 : ((qs.length : Int) == 0) = false := by rw [beq_eq_false_iff_ne]; exact hq0
  rw [hX] at HLK
  unfold lkV at HLK
  rw [if_neg hk] at HLK
  have hk2 : (kk != 0) = true := by simpa using hk
  have hk3 : (kk == 0) = false := by simpa using hk
  have HK := hid_in hk
  generalize ps.length = pl at *
  generalize qs.length = ql at *
  clear h hg hnd _hn hp hq gp gq c1 c2 hX hk
  go_enter Tryz.func40, Tryz.ntmps40
  go_upto_region 1 with fail
  refine wp_world HWA.out ?_
  go_wp2_with (first | (go_at_call 74; refine (HLK.out _ HBA.out).mono ?_; rintro e w2 ⟨rfl, hb2⟩; have HC2 := hid_in hb2; clear hb2) | (go_at_call 34; refine (rfail_any _ _).mono ?_; rintro e w5 ⟨rfl, hb5⟩; have hc5 := (HC2.out.alloc HC2.out.size _).trans (hb5.mono (HC2.out.alloc HC2.out.size _).size); obtain ⟨⟨g0, g1, g2, g3, g4⟩, q0, q1, q2, q3, q4⟩ := res_cells HRA.out hc5; have HR5 := hid_in (HRA.out.below hc5 HRA.out.lt); have HB5 := hid_in (HBA.out.trans (hc5.mono HBA.out.size)); clear hb5 hc5))
  exact post_Row 8 37 rfl (w.heap.size + 1) rfl 37 [.int .i64 kk, .bool false, .int .i64 0, .string ⟨#[]⟩, .slice none 0 0] (((((HR5.out.set_same 0 _).set_same 1 _).set_same 2 _).set_same 3 _).set_same 4 _) _ Tryz.underlying37 rfl 5 info37 rfl rfl (RmP.no HRU.out rfl HK.out (s5_below HB5.out (by omega) _ _ _ _ _))
set_option maxHeartbeats 8000000 in
set_option maxRecDepth 100000 in
theorem rn_l4 {w : World} {r : Nat} {es : List Ent} (h : RF w r es) (hg : GoodL es) (hnd : (es.map (·.names)).Nodup) (_hn : es.length ≤ 40000) {pv qv : Value} {ps qs : List Str} (hp : Val w pv ps) (hq : Val w qv qs) (gp : Gp ps) (gq : Gp qs) (k a z : Int) (p t d : ByteArray) (c1 : ps ≠ []) (c2 : qs ≠ []) (X : Ent) (hX : lookR es ps = (X, 0)) (kk : Int) (hD : dirR es qs = kk) (hk : kk ≠ 0) :
    Calls Tryz.prog 40 #[.pointer (some ⟨r, 0, none⟩), .agg #[.int .i64 k, .string p, .string t, .string d, .int .i64 a, .int .i64 z], pv, qv] w fun e w' => RmP w r es es kk e w' := by
  obtain ⟨pp, pc, rfl⟩ : ∃ p c, pv = .slice p ps.length c := by obtain ⟨p, c, e, _⟩ := hp; exact ⟨p, c, e⟩
  obtain ⟨qp, qc, rfl⟩ : ∃ p c, qv = .slice p qs.length c := by obtain ⟨p, c, e, _⟩ := hq; exact ⟨p, c, e⟩
  obtain ⟨WA, HWA, HRO, HRA, HBA⟩ := op_box w k a z p t d
  have HRU := hid_in h
  have HLK := hid_in (fun W (k : Below w.heap.size w W) => rlook_any (h.below k) hg hnd (hp.below k) gp)
  have hpl8 : (ps.length : Int) ≤ 8 := by have := gp.2; omega
  have hql8 : (qs.length : Int) ≤ 8 := by have := gq.2; omega
  have hp0 : ¬ (ps.length : Int) = 0 := fun e => c1 (List.length_eq_zero_iff.1 (by omega))
  have hq0 : ¬ (qs.length : Int) = 0 := fun e => c2 (List.length_eq_zero_iff.1 (by omega))
  have hp1 : ((ps.length : Int) == 0) = false := by rw [beq_eq_false_iff_ne]; exact hp0
  have hq1 : ((qs.length : Int) == 0) = false := by rw [beq_eq_false_iff_ne]; exact hq0
  obtain ⟨sn, sd, sx⟩ := X
  rw [hX] at HLK
  unfold lkV at HLK
  rw [if_pos rfl] at HLK
  simp only at HLK
  have HDR := hid_in (fun W (k : Below w.heap.size w W) => rdirOf_any (h.below k) hg hnd (hq.below k) gq c2)
  rw [hD] at HDR
  have hk2 : (kk != 0) = true := by simpa using hk
  have HK := hid_in hk
  generalize ps.length = pl at *
  generalize qs.length = ql at *
  generalize B (showS sn) = sp at *
  clear h hg hnd _hn hp hq gp gq c1 c2 hX hD hk
  go_enter Tryz.func40, Tryz.ntmps40
  go_upto_region 1 with fail
  refine wp_world HWA.out ?_
  go_upto_region 4 with (go_at_call 74; refine (HLK.out _ HBA.out).mono ?_; rintro e w2 ⟨rfl, hb2⟩; have HC2 := hid_in hb2; clear hb2)
  obtain ⟨W3, HW3⟩ : ∃ W3, Hid (w2.alloc (.cells #[.string sp, .bool sd, .string sx] 48) = W3) := ⟨_, hid_in rfl⟩
  have HC3 : Hid (Below WA.heap.size WA W3) := hid_in (by rw [← HW3.out]; exact HC2.out.alloc HC2.out.size _)
  have HX3 : Hid (Row W3 w2.heap.size [.string sp, .bool sd, .string sx] 48) := hid_in (by rw [← HW3.out]; exact Row.new w2 [.string sp, .bool sd, .string sx] 48)
  have HBX : Hid (WA.heap.size ≤ w2.heap.size) := hid_in HC2.out.size
  refine wp_world HW3.out ?_
  generalize w2.heap.size = bx at *
  clear HW3 HC2 HLK
  go_wp2_with (first | (go_at_call 35; refine (HDR.out _ (bel2 HBA.out HC3.out)).mono ?_; rintro e w4 ⟨rfl, hb4⟩; have HE4 := hid_in hb4; clear hb4) | (go_at_call 34; refine (rfail_any _ _).mono ?_; rintro e w5 ⟨rfl, hb5⟩; have hc5 := (HC3.out.trans (HE4.out.mono HC3.out.size)).trans (hb5.mono (HC3.out.trans (HE4.out.mono HC3.out.size)).size); obtain ⟨⟨g0, g1, g2, g3, g4⟩, q0, q1, q2, q3, q4⟩ := res_cells HRA.out hc5; have HR5 := hid_in (HRA.out.below hc5 HRA.out.lt); have HB5 := hid_in (HBA.out.trans (hc5.mono HBA.out.size)); clear hb5 hc5))
  exact post_Row 8 37 rfl (w.heap.size + 1) rfl 37 [.int .i64 kk, .bool false, .int .i64 0, .string ⟨#[]⟩, .slice none 0 0] (((((HR5.out.set_same 0 _).set_same 1 _).set_same 2 _).set_same 3 _).set_same 4 _) _ Tryz.underlying37 rfl 5 info37 rfl rfl (RmP.no HRU.out rfl HK.out (s5_below HB5.out (by omega) _ _ _ _ _))
set_option maxHeartbeats 8000000 in
set_option maxRecDepth 100000 in
theorem rn_l5 {w : World} {r : Nat} {es : List Ent} (h : RF w r es) (hg : GoodL es) (hnd : (es.map (·.names)).Nodup) (_hn : es.length ≤ 40000) {pv qv : Value} {ps qs : List Str} (hp : Val w pv ps) (hq : Val w qv qs) (gp : Gp ps) (gq : Gp qs) (k a z : Int) (p t d : ByteArray) (c1 : ps ≠ []) (c2 : qs ≠ []) (X : Ent) (hX : lookR es ps = (X, 0)) (hD : dirR es qs = 0) (c : ps = qs) :
    Calls Tryz.prog 40 #[.pointer (some ⟨r, 0, none⟩), .agg #[.int .i64 k, .string p, .string t, .string d, .int .i64 a, .int .i64 z], pv, qv] w fun e w' => RmP w r es es 0 e w' := by
  obtain ⟨pp, pc, rfl⟩ : ∃ p c, pv = .slice p ps.length c := by obtain ⟨p, c, e, _⟩ := hp; exact ⟨p, c, e⟩
  obtain ⟨qp, qc, rfl⟩ : ∃ p c, qv = .slice p qs.length c := by obtain ⟨p, c, e, _⟩ := hq; exact ⟨p, c, e⟩
  obtain ⟨WA, HWA, HRO, HRA, HBA⟩ := op_box w k a z p t d
  have HRU := hid_in h
  have HLK := hid_in (fun W (k : Below w.heap.size w W) => rlook_any (h.below k) hg hnd (hp.below k) gp)
  have hpl8 : (ps.length : Int) ≤ 8 := by have := gp.2; omega
  have hql8 : (qs.length : Int) ≤ 8 := by have := gq.2; omega
  have hp0 : ¬ (ps.length : Int) = 0 := fun e => c1 (List.length_eq_zero_iff.1 (by omega))
  have hq0 : ¬ (qs.length : Int) = 0 := fun e => c2 (List.length_eq_zero_iff.1 (by omega))
  have hp1 : ((ps.length : Int) == 0) = false := by rw [beq_eq_false_iff_ne]; exact hp0
  have hq1 : ((qs.length : Int) == 0) = false := by rw [beq_eq_false_iff_ne]; exact hq0
  obtain ⟨sn, sd, sx⟩ := X
  rw [hX] at HLK
  unfold lkV at HLK
  rw [if_pos rfl] at HLK
  simp only at HLK
  have HDR := hid_in (fun W (k : Below w.heap.size w W) => rdirOf_any (h.below k) hg hnd (hq.below k) gq c2)
  have HCM := hid_in (fun W (k : Below w.heap.size w W) => rcomp_one (hp.below k) (hq.below k))
  rw [hD] at HDR
  rw [(Vp.cmpL_is.zero ps qs).2 c] at HCM
  generalize ps.length = pl at *
  generalize qs.length = ql at *
  generalize B (showS sn) = sp at *
  clear h hg hnd _hn hp hq gp gq c1 c2 hX hD c
  go_enter Tryz.func40, Tryz.ntmps40
  go_upto_region 1 with fail
  refine wp_world HWA.out ?_
  go_upto_region 4 with (go_at_call 74; refine (HLK.out _ HBA.out).mono ?_; rintro e w2 ⟨rfl, hb2⟩; have HC2 := hid_in hb2; clear hb2)
  obtain ⟨W3, HW3⟩ : ∃ W3, Hid (w2.alloc (.cells #[.string sp, .bool sd, .string sx] 48) = W3) := ⟨_, hid_in rfl⟩
  have HC3 : Hid (Below WA.heap.size WA W3) := hid_in (by rw [← HW3.out]; exact HC2.out.alloc HC2.out.size _)
  have HX3 : Hid (Row W3 w2.heap.size [.string sp, .bool sd, .string sx] 48) := hid_in (by rw [← HW3.out]; exact Row.new w2 [.string sp, .bool sd, .string sx] 48)
  have HBX : Hid (WA.heap.size ≤ w2.heap.size) := hid_in HC2.out.size
  refine wp_world HW3.out ?_
  generalize w2.heap.size = bx at *
  clear HW3 HC2 HLK
  go_upto_region 9 with (first | (go_at_call 35; refine (HDR.out _ (bel2 HBA.out HC3.out)).mono ?_; rintro e w4 ⟨rfl, hb4⟩; have HE4 := hid_in hb4; clear hb4) | (go_at_call 21; refine (HCM.out _ (bel2 HBA.out (HC3.out.trans (HE4.out.mono HC3.out.size)))).mono ?_; rintro e w6 ⟨rfl, hb6⟩; have HE6 := hid_in (HE4.out.trans (hb6.mono HE4.out.size)); clear hb6))
  have HC6 := hid_in (HC3.out.trans (HE6.out.mono HC3.out.size))
  obtain ⟨⟨g0, g1, g2, g3, g4⟩, q0, q1, q2, q3, q4⟩ := res_cells HRA.out HC6.out
  have HR6 := hid_in (HRA.out.below HC6.out HRA.out.lt)
  have HB6 := hid_in (bel2 HBA.out HC6.out)
  go_wp2_with fail
  exact post_Row 8 37 rfl (w.heap.size + 1) rfl 37 [.int .i64 0, .bool false, .int .i64 0, .string ⟨#[]⟩, .slice none 0 0] (((((HR6.out.set_same 0 _).set_same 1 _).set_same 2 _).set_same 3 _).set_same 4 _) _ Tryz.underlying37 rfl 5 info37 rfl rfl (RmP.yes rfl ((HRU.out.below HB6.out).set5 HR6.out _ _ _ _ _) (gr_set5 (below_but r HB6.out) (by omega) _ _ _ _ _))
set_option maxHeartbeats 8000000 in
set_option maxRecDepth 100000 in
theorem rn_l6 {w : World} {r : Nat} {es : List Ent} (h : RF w r es) (hg : GoodL es) (hnd : (es.map (·.names)).Nodup) (_hn : es.length ≤ 40000) {pv qv : Value} {ps qs : List Str} (hp : Val w pv ps) (hq : Val w qv qs) (gp : Gp ps) (gq : Gp qs) (k a z : Int) (p t d : ByteArray) (c1 : ps ≠ []) (c2 : qs ≠ []) (X : Ent) (hX : lookR es ps = (X, 0)) (hD : dirR es qs = 0) (c4 : ps ≠ qs) (c : withinS qs ps = true) :
    Calls Tryz.prog 40 #[.pointer (some ⟨r, 0, none⟩), .agg #[.int .i64 k, .string p, .string t, .string d, .int .i64 a, .int .i64 z], pv, qv] w fun e w' => RmP w r es es 131 e w' := by
  obtain ⟨pp, pc, rfl⟩ : ∃ p c, pv = .slice p ps.length c := by obtain ⟨p, c, e, _⟩ := hp; exact ⟨p, c, e⟩
  obtain ⟨qp, qc, rfl⟩ : ∃ p c, qv = .slice p qs.length c := by obtain ⟨p, c, e, _⟩ := hq; exact ⟨p, c, e⟩
  obtain ⟨WA, HWA, HRO, HRA, HBA⟩ := op_box w k a z p t d
  have HRU := hid_in h
  have HLK := hid_in (fun W (k : Below w.heap.size w W) => rlook_any (h.below k) hg hnd (hp.below k) gp)
  have hpl8 : (ps.length : Int) ≤ 8 := by have := gp.2; omega
  have hql8 : (qs.length : Int) ≤ 8 := by have := gq.2; omega
  have hp0 : ¬ (ps.length : Int) = 0 := fun e => c1 (List.length_eq_zero_iff.1 (by omega))
  have hq0 : ¬ (qs.length : Int) = 0 := fun e => c2 (List.length_eq_zero_iff.1 (by omega))
  have hp1 : ((ps.length : Int) == 0) = false := by rw [beq_eq_false_iff_ne]; exact hp0
  have hq1 : ((qs.length : Int) == 0) = false := by rw [beq_eq_false_iff_ne]; exact hq0
  obtain ⟨sn, sd, sx⟩ := X
  rw [hX] at HLK
  unfold lkV at HLK
  rw [if_pos rfl] at HLK
  simp only at HLK
  have HDR := hid_in (fun W (k : Below w.heap.size w W) => rdirOf_any (h.below k) hg hnd (hq.below k) gq c2)
  have HCM := hid_in (fun W (k : Below w.heap.size w W) => rcomp_one (hp.below k) (hq.below k))
  have HWI := hid_in (fun W (k : Below w.heap.size w W) => Vp.rwithin_v (hq.below k) (hp.below k))
  obtain ⟨CM, HCN⟩ : ∃ CM, Hid (cmpL ps qs = CM) := ⟨_, hid_in rfl⟩
  have hcm : (CM == 0) = false := by rw [beq_eq_false_iff_ne, ← HCN.out]; exact fun e => c4 ((Vp.cmpL_is.zero ps qs).1 e)
  rw [HCN.out] at HCM
  rw [hD] at HDR
  rw [c] at HWI
  generalize ps.length = pl at *
  generalize qs.length = ql at *
  generalize B (showS sn) = sp at *
  clear h hg hnd _hn hp hq gp gq c1 c2 hX hD c c4 HCN
  go_enter Tryz.func40, Tryz.ntmps40
  go_upto_region 1 with fail
  refine wp_world HWA.out ?_
  go_upto_region 4 with (go_at_call 74; refine (HLK.out _ HBA.out).mono ?_; rintro e w2 ⟨rfl, hb2⟩; have HC2 := hid_in hb2; clear hb2)
  obtain ⟨W3, HW3⟩ : ∃ W3, Hid (w2.alloc (.cells #[.string sp, .bool sd, .string sx] 48) = W3) := ⟨_, hid_in rfl⟩
  have HC3 : Hid (Below WA.heap.size WA W3) := hid_in (by rw [← HW3.out]; exact HC2.out.alloc HC2.out.size _)
  have HX3 : Hid (Row W3 w2.heap.size [.string sp, .bool sd, .string sx] 48) := hid_in (by rw [← HW3.out]; exact Row.new w2 [.string sp, .bool sd, .string sx] 48)
  have HBX : Hid (WA.heap.size ≤ w2.heap.size) := hid_in HC2.out.size
  refine wp_world HW3.out ?_
  generalize w2.heap.size = bx at *
  clear HW3 HC2 HLK
  go_wp2_with (first | (go_at_call 35; refine (HDR.out _ (bel2 HBA.out HC3.out)).mono ?_; rintro e w4 ⟨rfl, hb4⟩; have HE4 := hid_in hb4; clear hb4) | (go_at_call 21; refine (HCM.out _ (bel2 HBA.out (HC3.out.trans (HE4.out.mono HC3.out.size)))).mono ?_; rintro e w6 ⟨rfl, hb6⟩; have HE6 := hid_in (HE4.out.trans (hb6.mono HE4.out.size)); clear hb6) | (go_at_call 58; refine (HWI.out _ (bel2 HBA.out (HC3.out.trans (HE6.out.mono HC3.out.size)))).mono ?_; rintro e w7 ⟨rfl, hd7⟩; have hb7 : Below w6.heap.size w6 w7 := (by obtain ⟨m, hm⟩ := hd7; rw [hm]; exact Nd.below_drewN (Below.refl _ _) m); clear hd7; have HE7 := hid_in (HE6.out.trans (hb7.mono HE6.out.size)); clear hb7) | (go_at_call 34; refine (rfail_any _ _).mono ?_; rintro e w5 ⟨rfl, hb5⟩; have hc5 := (HC3.out.trans (HE7.out.mono HC3.out.size)).trans (hb5.mono (HC3.out.trans (HE7.out.mono HC3.out.size)).size); obtain ⟨⟨g0, g1, g2, g3, g4⟩, q0, q1, q2, q3, q4⟩ := res_cells HRA.out hc5; have HR5 := hid_in (HRA.out.below hc5 HRA.out.lt); have HB5 := hid_in (HBA.out.trans (hc5.mono HBA.out.size)); clear hb5 hc5))
  exact post_Row 8 37 rfl (w.heap.size + 1) rfl 37 [.int .i64 131, .bool false, .int .i64 0, .string ⟨#[]⟩, .slice none 0 0] (((((HR5.out.set_same 0 _).set_same 1 _).set_same 2 _).set_same 3 _).set_same 4 _) _ Tryz.underlying37 rfl 5 info37 rfl rfl (RmP.no HRU.out rfl (by decide) (s5_below HB5.out (by omega) _ _ _ _ _))
set_option maxHeartbeats 8000000 in
set_option maxRecDepth 100000 in
theorem rn_l7 {w : World} {r : Nat} {es : List Ent} (h : RF w r es) (hg : GoodL es) (hnd : (es.map (·.names)).Nodup) (_hn : es.length ≤ 40000) {pv qv : Value} {ps qs : List Str} (hp : Val w pv ps) (hq : Val w qv qs) (gp : Gp ps) (gq : Gp qs) (k a z : Int) (p t d : ByteArray) (c1 : ps ≠ []) (c2 : qs ≠ []) (X : Ent) (hX : lookR es ps = (X, 0)) (hD : dirR es qs = 0) (c4 : ps ≠ qs) (c5 : withinS qs ps = false) (O : Ent) (hO : entAt es qs = some O) (hxd : X.dir = false) (hod : O.dir = true)  :
    Calls Tryz.prog 40 #[.pointer (some ⟨r, 0, none⟩), .agg #[.int .i64 k, .string p, .string t, .string d, .int .i64 a, .int .i64 z], pv, qv] w fun e w' => RmP w r es es 71 e w' := by
  obtain ⟨pp, pc, rfl⟩ : ∃ p c, pv = .slice p ps.length c := by obtain ⟨p, c, e, _⟩ := hp; exact ⟨p, c, e⟩
  obtain ⟨qp, qc, rfl⟩ : ∃ p c, qv = .slice p qs.length c := by obtain ⟨p, c, e, _⟩ := hq; exact ⟨p, c, e⟩
  obtain ⟨WA, HWA, HRO, HRA, HBA⟩ := op_box w k a z p t d
  have HRU := hid_in h
  have HLK := hid_in (fun W (k : Below w.heap.size w W) => rlook_any (h.below k) hg hnd (hp.below k) gp)
  have hpl8 : (ps.length : Int) ≤ 8 := by have := gp.2; omega
  have hql8 : (qs.length : Int) ≤ 8 := by have := gq.2; omega
  have hp0 : ¬ (ps.length : Int) = 0 := fun e => c1 (List.length_eq_zero_iff.1 (by omega))
  have hq0 : ¬ (qs.length : Int) = 0 := fun e => c2 (List.length_eq_zero_iff.1 (by omega))
  have hp1 : ((ps.length : Int) == 0) = false := by rw [beq_eq_false_iff_ne]; exact hp0
  have hq1 : ((qs.length : Int) == 0) = false := by rw [beq_eq_false_iff_ne]; exact hq0
  obtain ⟨sn, sd, sx⟩ := X
  obtain ⟨on, od, ox⟩ := O
  simp only at hxd hod
  subst hxd hod
  rw [hX] at HLK
  unfold lkV at HLK
  rw [if_pos rfl] at HLK
  simp only at HLK
  have HDR := hid_in (fun W (k : Below w.heap.size w W) => rdirOf_any (h.below k) hg hnd (hq.below k) gq c2)
  have HCM := hid_in (fun W (k : Below w.heap.size w W) => rcomp_one (hp.below k) (hq.below k))
  have HWI := hid_in (fun W (k : Below w.heap.size w W) => Vp.rwithin_v (hq.below k) (hp.below k))
  obtain ⟨CM, HCN⟩ : ∃ CM, Hid (cmpL ps qs = CM) := ⟨_, hid_in rfl⟩
  have hcm : (CM == 0) = false := by rw [beq_eq_false_iff_ne, ← HCN.out]; exact fun e => c4 ((Vp.cmpL_is.zero ps qs).1 e)
  rw [HCN.out] at HCM
  have HPL := hid_in (fun W (k : Below w.heap.size w W) => rplace_any (h.below k) hg (hq.below k) gq)
  have HND := hid_in hnd
  rw [hD] at HDR
  rw [c5] at HWI
  have HNO := hid_in hO
  generalize ps.length = pl at *
  generalize qs.length = ql at *
  generalize B (showS sn) = sp at *
  clear h hg hnd _hn hp hq gp gq c1 c2 hX hD c4 c5 hO HCN
  go_enter Tryz.func40, Tryz.ntmps40
  go_upto_region 1 with fail
  refine wp_world HWA.out ?_
  go_upto_region 4 with (go_at_call 74; refine (HLK.out _ HBA.out).mono ?_; rintro e w2 ⟨rfl, hb2⟩; have HC2 := hid_in hb2; clear hb2)
  obtain ⟨W3, HW3⟩ : ∃ W3, Hid (w2.alloc (.cells #[.string sp, .bool false, .string sx] 48) = W3) := ⟨_, hid_in rfl⟩
  have HC3 : Hid (Below WA.heap.size WA W3) := hid_in (by rw [← HW3.out]; exact HC2.out.alloc HC2.out.size _)
  have HX3 : Hid (Row W3 w2.heap.size [.string sp, .bool false, .string sx] 48) := hid_in (by rw [← HW3.out]; exact Row.new w2 [.string sp, .bool false, .string sx] 48)
  have HBX : Hid (WA.heap.size ≤ w2.heap.size) := hid_in HC2.out.size
  refine wp_world HW3.out ?_
  generalize w2.heap.size = bx at *
  clear HW3 HC2 HLK
  go_upto_region 13 with (first | (go_at_call 35; refine (HDR.out _ (bel2 HBA.out HC3.out)).mono ?_; rintro e w4 ⟨rfl, hb4⟩; have HE4 := hid_in hb4; clear hb4) | (go_at_call 21; refine (HCM.out _ (bel2 HBA.out (HC3.out.trans (HE4.out.mono HC3.out.size)))).mono ?_; rintro e w6 ⟨rfl, hb6⟩; have HE6 := hid_in (HE4.out.trans (hb6.mono HE4.out.size)); clear hb6) | (go_at_call 58; refine (HWI.out _ (bel2 HBA.out (HC3.out.trans (HE6.out.mono HC3.out.size)))).mono ?_; rintro e w7 ⟨rfl, hd7⟩; have hb7 : Below w6.heap.size w6 w7 := (by obtain ⟨m, hm⟩ := hd7; rw [hm]; exact Nd.below_drewN (Below.refl _ _) m); clear hd7; have HE7 := hid_in (HE6.out.trans (hb7.mono HE6.out.size)); clear hb7) | (go_at_call 36; refine (HPL.out _ (bel2 HBA.out (HC3.out.trans (HE7.out.mono HC3.out.size)))).mono ?_; rintro e w8 ⟨kk, rfl, hat, hb8⟩; obtain ⟨ix, rfl, hix⟩ := at_one9 HND.out hat HNO.out; have HIX := hid_in hix; clear hat hix; have HE8 := hid_in (HE7.out.trans (hb8.mono HE7.out.size)); clear hb8))
  obtain ⟨lp, lc, lb, lo, hc1, hc2, hrow, -, hat⟩ := HRU.out.at_
  obtain ⟨rfl, -, hcd, -⟩ := hat _ (bel2 HBA.out (HC3.out.trans (HE8.out.mono HC3.out.size))) ix _ HIX.out
  have hil := (List.getElem?_eq_some_iff.1 HIX.out).1
  have i0 : ¬ (ix : Int) < 0 := by omega
  have i1 : 0 ≤ (ix : Int) := by omega
  have i2 : (ix : Int) < (es.length : Int) := by omega
  have m0 := (hrow.below (bel2 HBA.out (HC3.out.trans (HE8.out.mono HC3.out.size))) hrow.lt).cell 0
  simp only [List.getElem?_cons_zero] at m0
  have x1 := (HX3.out.below HE8.out HX3.out.lt).cell 1
  simp only [List.getElem?_cons_succ, List.getElem?_cons_zero] at x1 hcd
  generalize es.length = en at *
  clear hat hrow hc1 hc2 hil
  go_wp2_with (first | (go_at_call 34; refine (rfail_any _ _).mono ?_; rintro e w5 ⟨rfl, hb5⟩; have hc5 := (HC3.out.trans (HE8.out.mono HC3.out.size)).trans (hb5.mono (HC3.out.trans (HE8.out.mono HC3.out.size)).size); obtain ⟨⟨g0, g1, g2, g3, g4⟩, q0, q1, q2, q3, q4⟩ := res_cells HRA.out hc5; have HR5 := hid_in (HRA.out.below hc5 HRA.out.lt); have HB5 := hid_in (HBA.out.trans (hc5.mono HBA.out.size)); clear hb5 hc5))
  exact post_Row 8 37 rfl (w.heap.size + 1) rfl 37 [.int .i64 71, .bool false, .int .i64 0, .string ⟨#[]⟩, .slice none 0 0] (((((HR5.out.set_same 0 _).set_same 1 _).set_same 2 _).set_same 3 _).set_same 4 _) _ Tryz.underlying37 rfl 5 info37 rfl rfl (RmP.no HRU.out rfl (by decide) (s5_below HB5.out (by omega) _ _ _ _ _))
set_option maxHeartbeats 8000000 in
set_option maxRecDepth 100000 in
theorem rn_l8 {w : World} {r : Nat} {es : List Ent} (h : RF w r es) (hg : GoodL es) (hnd : (es.map (·.names)).Nodup) (_hn : es.length ≤ 40000) {pv qv : Value} {ps qs : List Str} (hp : Val w pv ps) (hq : Val w qv qs) (gp : Gp ps) (gq : Gp qs) (k a z : Int) (p t d : ByteArray) (c1 : ps ≠ []) (c2 : qs ≠ []) (X : Ent) (hX : lookR es ps = (X, 0)) (hD : dirR es qs = 0) (c4 : ps ≠ qs) (c5 : withinS qs ps = false) (O : Ent) (hO : entAt es qs = some O) (hxd : X.dir = true) (hod : O.dir = false)  :
    Calls Tryz.prog 40 #[.pointer (some ⟨r, 0, none⟩), .agg #[.int .i64 k, .string p, .string t, .string d, .int .i64 a, .int .i64 z], pv, qv] w fun e w' => RmP w r es es 70 e w' := by
  obtain ⟨pp, pc, rfl⟩ : ∃ p c, pv = .slice p ps.length c := by obtain ⟨p, c, e, _⟩ := hp; exact ⟨p, c, e⟩
  obtain ⟨qp, qc, rfl⟩ : ∃ p c, qv = .slice p qs.length c := by obtain ⟨p, c, e, _⟩ := hq; exact ⟨p, c, e⟩
  obtain ⟨WA, HWA, HRO, HRA, HBA⟩ := op_box w k a z p t d
  have HRU := hid_in h
  have HLK := hid_in (fun W (k : Below w.heap.size w W) => rlook_any (h.below k) hg hnd (hp.below k) gp)
  have hpl8 : (ps.length : Int) ≤ 8 := by have := gp.2; omega
  have hql8 : (qs.length : Int) ≤ 8 := by have := gq.2; omega
  have hp0 : ¬ (ps.length : Int) = 0 := fun e => c1 (List.length_eq_zero_iff.1 (by omega))
  have hq0 : ¬ (qs.length : Int) = 0 := fun e => c2 (List.length_eq_zero_iff.1 (by omega))
  have hp1 : ((ps.length : Int) == 0) = false := by rw [beq_eq_false_iff_ne]; exact hp0
  have hq1 : ((qs.length : Int) == 0) = false := by rw [beq_eq_false_iff_ne]; exact hq0
  obtain ⟨sn, sd, sx⟩ := X
  obtain ⟨on, od, ox⟩ := O
  simp only at hxd hod
  subst hxd hod
  rw [hX] at HLK
  unfold lkV at HLK
  rw [if_pos rfl] at HLK
  simp only at HLK
  have HDR := hid_in (fun W (k : Below w.heap.size w W) => rdirOf_any (h.below k) hg hnd (hq.below k) gq c2)
  have HCM := hid_in (fun W (k : Below w.heap.size w W) => rcomp_one (hp.below k) (hq.below k))
  have HWI := hid_in (fun W (k : Below w.heap.size w W) => Vp.rwithin_v (hq.below k) (hp.below k))
  obtain ⟨CM, HCN⟩ : ∃ CM, Hid (cmpL ps qs = CM) := ⟨_, hid_in rfl⟩
  have hcm : (CM == 0) = false := by rw [beq_eq_false_iff_ne, ← HCN.out]; exact fun e => c4 ((Vp.cmpL_is.zero ps qs).1 e)
  rw [HCN.out] at HCM
  have HPL := hid_in (fun W (k : Below w.heap.size w W) => rplace_any (h.below k) hg (hq.below k) gq)
  have HND := hid_in hnd
  rw [hD] at HDR
  rw [c5] at HWI
  have HNO := hid_in hO
  generalize ps.length = pl at *
  generalize qs.length = ql at *
  generalize B (showS sn) = sp at *
  clear h hg hnd _hn hp hq gp gq c1 c2 hX hD c4 c5 hO HCN
  go_enter Tryz.func40, Tryz.ntmps40
  go_upto_region 1 with fail
  refine wp_world HWA.out ?_
  go_upto_region 4 with (go_at_call 74; refine (HLK.out _ HBA.out).mono ?_; rintro e w2 ⟨rfl, hb2⟩; have HC2 := hid_in hb2; clear hb2)
  obtain ⟨W3, HW3⟩ : ∃ W3, Hid (w2.alloc (.cells #[.string sp, .bool true, .string sx] 48) = W3) := ⟨_, hid_in rfl⟩
  have HC3 : Hid (Below WA.heap.size WA W3) := hid_in (by rw [← HW3.out]; exact HC2.out.alloc HC2.out.size _)
  have HX3 : Hid (Row W3 w2.heap.size [.string sp, .bool true, .string sx] 48) := hid_in (by rw [← HW3.out]; exact Row.new w2 [.string sp, .bool true, .string sx] 48)
  have HBX : Hid (WA.heap.size ≤ w2.heap.size) := hid_in HC2.out.size
  refine wp_world HW3.out ?_
  generalize w2.heap.size = bx at *
  clear HW3 HC2 HLK
  go_upto_region 13 with (first | (go_at_call 35; refine (HDR.out _ (bel2 HBA.out HC3.out)).mono ?_; rintro e w4 ⟨rfl, hb4⟩; have HE4 := hid_in hb4; clear hb4) | (go_at_call 21; refine (HCM.out _ (bel2 HBA.out (HC3.out.trans (HE4.out.mono HC3.out.size)))).mono ?_; rintro e w6 ⟨rfl, hb6⟩; have HE6 := hid_in (HE4.out.trans (hb6.mono HE4.out.size)); clear hb6) | (go_at_call 58; refine (HWI.out _ (bel2 HBA.out (HC3.out.trans (HE6.out.mono HC3.out.size)))).mono ?_; rintro e w7 ⟨rfl, hd7⟩; have hb7 : Below w6.heap.size w6 w7 := (by obtain ⟨m, hm⟩ := hd7; rw [hm]; exact Nd.below_drewN (Below.refl _ _) m); clear hd7; have HE7 := hid_in (HE6.out.trans (hb7.mono HE6.out.size)); clear hb7) | (go_at_call 36; refine (HPL.out _ (bel2 HBA.out (HC3.out.trans (HE7.out.mono HC3.out.size)))).mono ?_; rintro e w8 ⟨kk, rfl, hat, hb8⟩; obtain ⟨ix, rfl, hix⟩ := at_one9 HND.out hat HNO.out; have HIX := hid_in hix; clear hat hix; have HE8 := hid_in (HE7.out.trans (hb8.mono HE7.out.size)); clear hb8))
  obtain ⟨lp, lc, lb, lo, hc1, hc2, hrow, -, hat⟩ := HRU.out.at_
  obtain ⟨rfl, -, hcd, -⟩ := hat _ (bel2 HBA.out (HC3.out.trans (HE8.out.mono HC3.out.size))) ix _ HIX.out
  have hil := (List.getElem?_eq_some_iff.1 HIX.out).1
  have i0 : ¬ (ix : Int) < 0 := by omega
  have i1 : 0 ≤ (ix : Int) := by omega
  have i2 : (ix : Int) < (es.length : Int) := by omega
  have m0 := (hrow.below (bel2 HBA.out (HC3.out.trans (HE8.out.mono HC3.out.size))) hrow.lt).cell 0
  simp only [List.getElem?_cons_zero] at m0
  have x1 := (HX3.out.below HE8.out HX3.out.lt).cell 1
  simp only [List.getElem?_cons_succ, List.getElem?_cons_zero] at x1 hcd
  generalize es.length = en at *
  clear hat hrow hc1 hc2 hil
  go_wp2_with (first | (go_at_call 34; refine (rfail_any _ _).mono ?_; rintro e w5 ⟨rfl, hb5⟩; have hc5 := (HC3.out.trans (HE8.out.mono HC3.out.size)).trans (hb5.mono (HC3.out.trans (HE8.out.mono HC3.out.size)).size); obtain ⟨⟨g0, g1, g2, g3, g4⟩, q0, q1, q2, q3, q4⟩ := res_cells HRA.out hc5; have HR5 := hid_in (HRA.out.below hc5 HRA.out.lt); have HB5 := hid_in (HBA.out.trans (hc5.mono HBA.out.size)); clear hb5 hc5))
  exact post_Row 8 37 rfl (w.heap.size + 1) rfl 37 [.int .i64 70, .bool false, .int .i64 0, .string ⟨#[]⟩, .slice none 0 0] (((((HR5.out.set_same 0 _).set_same 1 _).set_same 2 _).set_same 3 _).set_same 4 _) _ Tryz.underlying37 rfl 5 info37 rfl rfl (RmP.no HRU.out rfl (by decide) (s5_below HB5.out (by omega) _ _ _ _ _))
set_option maxHeartbeats 8000000 in
set_option maxRecDepth 100000 in
theorem rn_l9 {w : World} {r : Nat} {es : List Ent} (h : RF w r es) (hg : GoodL es) (hnd : (es.map (·.names)).Nodup) (hn : es.length ≤ 40000) {pv qv : Value} {ps qs : List Str} (hp : Val w pv ps) (hq : Val w qv qs) (gp : Gp ps) (gq : Gp qs) (k a z : Int) (p t d : ByteArray) (c1 : ps ≠ []) (c2 : qs ≠ []) (X : Ent) (hX : lookR es ps = (X, 0)) (hD : dirR es qs = 0) (c4 : ps ≠ qs) (c5 : withinS qs ps = false) (O : Ent) (hO : entAt es qs = some O) (hxd : X.dir = true) (hod : O.dir = true) (hbl : 0 < (es.filter (belowE qs)).length) :
    Calls Tryz.prog 40 #[.pointer (some ⟨r, 0, none⟩), .agg #[.int .i64 k, .string p, .string t, .string d, .int .i64 a, .int .i64 z], pv, qv] w fun e w' => RmP w r es es 130 e w' := by
  obtain ⟨pp, pc, rfl⟩ : ∃ p c, pv = .slice p ps.length c := by obtain ⟨p, c, e, _⟩ := hp; exact ⟨p, c, e⟩
  obtain ⟨qp, qc, rfl⟩ : ∃ p c, qv = .slice p qs.length c := by obtain ⟨p, c, e, _⟩ := hq; exact ⟨p, c, e⟩
  obtain ⟨WA, HWA, HRO, HRA, HBA⟩ := op_box w k a z p t d
  have HRU := hid_in h
  have HLK := hid_in (fun W (k : Below w.heap.size w W) => rlook_any (h.below k) hg hnd (hp.below k) gp)
  have hpl8 : (ps.length : Int) ≤ 8 := by have := gp.2; omega
  have hql8 : (qs.length : Int) ≤ 8 := by have := gq.2; omega
  have hp0 : ¬ (ps.length : Int) = 0 := fun e => c1 (List.length_eq_zero_iff.1 (by omega))
  have hq0 : ¬ (qs.length : Int) = 0 := fun e => c2 (List.length_eq_zero_iff.1 (by omega))
  have hp1 : ((ps.length : Int) == 0) = false := by rw [beq_eq_false_iff_ne]; exact hp0
  have hq1 : ((qs.length : Int) == 0) = false := by rw [beq_eq_false_iff_ne]; exact hq0
  obtain ⟨sn, sd, sx⟩ := X
  obtain ⟨on, od, ox⟩ := O
  simp only at hxd hod
  subst hxd hod
  rw [hX] at HLK
  unfold lkV at HLK
  rw [if_pos rfl] at HLK
  simp only at HLK
  have HDR := hid_in (fun W (k : Below w.heap.size w W) => rdirOf_any (h.below k) hg hnd (hq.below k) gq c2)
  have HCM := hid_in (fun W (k : Below w.heap.size w W) => rcomp_one (hp.below k) (hq.below k))
  have HWI := hid_in (fun W (k : Below w.heap.size w W) => Vp.rwithin_v (hq.below k) (hp.below k))
  obtain ⟨CM, HCN⟩ : ∃ CM, Hid (cmpL ps qs = CM) := ⟨_, hid_in rfl⟩
  have hcm : (CM == 0) = false := by rw [beq_eq_false_iff_ne, ← HCN.out]; exact fun e => c4 ((Vp.cmpL_is.zero ps qs).1 e)
  rw [HCN.out] at HCM
  have HPL := hid_in (fun W (k : Below w.heap.size w W) => rplace_any (h.below k) hg (hq.below k) gq)
  have HND := hid_in hnd
  rw [hD] at HDR
  rw [c5] at HWI
  have HNO := hid_in hO
  have HBQ := hid_in (fun W (k : Below w.heap.size w W) => rbelow_any (h.below k) hg (by omega) (hq.below k))
  obtain ⟨fl, HFL⟩ : ∃ fl, Hid ((es.filter (belowE qs)).length = fl) := ⟨_, hid_in rfl⟩
  have hf2 : 0 < (fl : Int) := by rw [← HFL.out]; omega
  generalize ps.length = pl at *
  generalize qs.length = ql at *
  generalize B (showS sn) = sp at *
  clear h hg hnd hn hp hq gp gq c1 c2 hX hD c4 c5 hO HCN hbl
  go_enter Tryz.func40, Tryz.ntmps40
  go_upto_region 1 with fail
  refine wp_world HWA.out ?_
  go_upto_region 4 with (go_at_call 74; refine (HLK.out _ HBA.out).mono ?_; rintro e w2 ⟨rfl, hb2⟩; have HC2 := hid_in hb2; clear hb2)
  obtain ⟨W3, HW3⟩ : ∃ W3, Hid (w2.alloc (.cells #[.string sp, .bool true, .string sx] 48) = W3) := ⟨_, hid_in rfl⟩
  have HC3 : Hid (Below WA.heap.size WA W3) := hid_in (by rw [← HW3.out]; exact HC2.out.alloc HC2.out.size _)
  have HX3 : Hid (Row W3 w2.heap.size [.string sp, .bool true, .string sx] 48) := hid_in (by rw [← HW3.out]; exact Row.new w2 [.string sp, .bool true, .string sx] 48)
  have HBX : Hid (WA.heap.size ≤ w2.heap.size) := hid_in HC2.out.size
  refine wp_world HW3.out ?_
  generalize w2.heap.size = bx at *
  clear HW3 HC2 HLK
  go_upto_region 13 with (first | (go_at_call 35; refine (HDR.out _ (bel2 HBA.out HC3.out)).mono ?_; rintro e w4 ⟨rfl, hb4⟩; have HE4 := hid_in hb4; clear hb4) | (go_at_call 21; refine (HCM.out _ (bel2 HBA.out (HC3.out.trans (HE4.out.mono HC3.out.size)))).mono ?_; rintro e w6 ⟨rfl, hb6⟩; have HE6 := hid_in (HE4.out.trans (hb6.mono HE4.out.size)); clear hb6) | (go_at_call 58; refine (HWI.out _ (bel2 HBA.out (HC3.out.trans (HE6.out.mono HC3.out.size)))).mono ?_; rintro e w7 ⟨rfl, hd7⟩; have hb7 : Below w6.heap.size w6 w7 := (by obtain ⟨m, hm⟩ := hd7; rw [hm]; exact Nd.below_drewN (Below.refl _ _) m); clear hd7; have HE7 := hid_in (HE6.out.trans (hb7.mono HE6.out.size)); clear hb7) | (go_at_call 36; refine (HPL.out _ (bel2 HBA.out (HC3.out.trans (HE7.out.mono HC3.out.size)))).mono ?_; rintro e w8 ⟨kk, rfl, hat, hb8⟩; obtain ⟨ix, rfl, hix⟩ := at_one9 HND.out hat HNO.out; have HIX := hid_in hix; clear hat hix; have HE8 := hid_in (HE7.out.trans (hb8.mono HE7.out.size)); clear hb8))
  obtain ⟨lp, lc, lb, lo, hc1, hc2, hrow, -, hat⟩ := HRU.out.at_
  obtain ⟨rfl, -, hcd, -⟩ := hat _ (bel2 HBA.out (HC3.out.trans (HE8.out.mono HC3.out.size))) ix _ HIX.out
  have hil := (List.getElem?_eq_some_iff.1 HIX.out).1
  have i0 : ¬ (ix : Int) < 0 := by omega
  have i1 : 0 ≤ (ix : Int) := by omega
  have i2 : (ix : Int) < (es.length : Int) := by omega
  have m0 := (hrow.below (bel2 HBA.out (HC3.out.trans (HE8.out.mono HC3.out.size))) hrow.lt).cell 0
  simp only [List.getElem?_cons_zero] at m0
  have x1 := (HX3.out.below HE8.out HX3.out.lt).cell 1
  simp only [List.getElem?_cons_succ, List.getElem?_cons_zero] at x1 hcd
  generalize es.length = en at *
  clear hat hrow hc1 hc2 hil
  go_wp2_with (first | (go_at_call 75; refine (HBQ.out _ (bel2 HBA.out (HC3.out.trans (HE8.out.mono HC3.out.size)))).mono ?_; rintro e w9 ⟨v9, rfl, ho9, hb9⟩; obtain ⟨p9, k9, hv9⟩ := ho9.fls.form; rw [List.length_map, HFL.out] at hv9; subst hv9; clear ho9; have HE9 := hid_in (HE8.out.trans (hb9.mono HE8.out.size)); clear hb9) | (go_at_call 34; refine (rfail_any _ _).mono ?_; rintro e w5 ⟨rfl, hb5⟩; have hc5 := (HC3.out.trans (HE9.out.mono HC3.out.size)).trans (hb5.mono (HC3.out.trans (HE9.out.mono HC3.out.size)).size); obtain ⟨⟨g0, g1, g2, g3, g4⟩, q0, q1, q2, q3, q4⟩ := res_cells HRA.out hc5; have HR5 := hid_in (HRA.out.below hc5 HRA.out.lt); have HB5 := hid_in (HBA.out.trans (hc5.mono HBA.out.size)); clear hb5 hc5))
  exact post_Row 8 37 rfl (w.heap.size + 1) rfl 37 [.int .i64 130, .bool false, .int .i64 0, .string ⟨#[]⟩, .slice none 0 0] (((((HR5.out.set_same 0 _).set_same 1 _).set_same 2 _).set_same 3 _).set_same 4 _) _ Tryz.underlying37 rfl 5 info37 rfl rfl (RmP.no HRU.out rfl (by decide) (s5_below HB5.out (by omega) _ _ _ _ _))
end Go.Proofs.YtngehkmdanhgpaaGreat.Pl
