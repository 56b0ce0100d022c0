/-
  awake. Entries that are compared: SameEntries, Same. Same: the same is kept. JournalChecks, by cases.
-/
import Derived.Laws.Tables
import Derived.OwnWalk
import Derived.Lib.SlBytesConst
import Derived.Deep.RegionLaw
import Derived.Deep.CutRange
import Derived.Laws.CopyOwn
import Derived.Deep.DrawnRows
import Derived.Laws.StructEq
import Derived.Deep.RegionHeld3
import Derived.Test.YtjjofjnhhajjjaaC00
import Derived.Test.YtjjofjnhhajjjaaC01
import Derived.Test.YtjjofjnhhajjjaaC02
import Derived.Test.YtjjofjnhhajjjaaC03
import Derived.Test.YtjjofjnhhajjjaaC04
import Derived.Test.YtjjofjnhhajjjaaC05
import Derived.Test.YtjjofjnhhajjjaaC06
import Derived.Test.YtjjofjnhhajjjaaC07
import Derived.Test.YtjjofjnhhajjjaaC08
import Derived.Test.YtjjofjnhhajjjaaC09
import Derived.Test.YtjjofjnhhajjjaaC10
import Derived.Test.YtjjofjnhhajjjaaC11
import Derived.Test.YtjjofjnhhajjjaaC12
import Derived.Test.YtjjofjnhhajjjaaC13
import Derived.Test.YtjjofjnhhajjjaaC14
import Derived.Test.YtjjofjnhhajjjaaC15
import Derived.Test.YtjjofjnhhajjjaaC16
import Derived.Test.YtjjofjnhhajjjaaC17
import Derived.Test.YtjjofjnhhajjjaaC18
import Derived.Test.YtjjofjnhhajjjaaC19
import Derived.Test.YtjjofjnhhajjjaaC20
import Derived.Test.YtjjofjnhhajjjaaC21
import Derived.Test.YtjjofjnhhajjjaaC22
import Derived.Test.YtjjofjnhhajjjaaC23
import Derived.Test.YtjjofjnhhajjjaaC24
import Derived.Test.YtjjofjnhhajjjaaC25
import Derived.Test.YtjjofjnhhajjjaaC26
import Derived.Test.YtjjofjnhhajjjaaC27
import Derived.Test.YtjjofjnhhajjjaaC28
import Derived.Test.YtjjofjnhhajjjaaC29
import Derived.Test.YtjjofjnhhajjjaaC30
import Derived.Test.YtjjofjnhhajjjaaC31
import Derived.Test.YtjjofjnhhajjjaaC32
import Derived.Test.YtjjofjnhhajjjaaC33
import Derived.Test.YtjjofjnhhajjjaaC34
namespace Go.Proofs.Ytjjofjnhhajjjaa.Jr
open Go.RowKit
open Nd (Row wp_world post_Row grownBy_setCell grownBy_trans below_of_grown u8v Grew Sl hid_in i64r bytesS str)
open Pt (Ar Dk PtV FS Sub Stp liv arOf bytesOf)
set_option maxHeartbeats 8000000 in
set_option maxRecDepth 100000 in
theorem awake_any (w : World) : Calls Try.prog 6 #[] w fun e w' => e = .returned (.bool true) ∧ Below w.heap.size w w' := by
  have HV := hid_in (fun W j g u0 u1 ve (hJ : JV W w.heap.size j g u0 u1 Pt.newD ve zeroK) => cj_some (view_any hJ 3 ⟨by decide, by decide⟩ (Lim.new.room (by decide))) JD.new rd1 f1 Lim.new)
  have HEN := hid_in (fun W j g u0 u1 ve d (hJ : JV W w.heap.size j g u0 u1 d ve k1) (hd : JD d ([] ++ [recV 3]) k1) (hl : Lim d (0 + 262152)) => cj_some (entry_c hJ ent1 ent1_ok (hl.room (by decide))) hd rd2 f2 hl)
  have HA := hid_in (fun W j g u0 u1 ve d (hJ : JV W w.heap.size j g u0 u1 d ve k2) (hd : JD d (([] ++ [recV 3]) ++ [recE ent1]) k2) (hl : Lim d (0 + 262152 + 262152)) => cj_some (adopt_c hJ 3 0 (.slice none 0 0) [] ⟨by decide, by decide⟩ ⟨by decide, by decide⟩ (Es.nil W) (fun _ h => by cases h) (by decide) (hl.room (by decide))) hd rd3 f3 hl)
  have HN := hid_in (fun W j g u0 u1 ve d (hJ : JV W w.heap.size j g u0 u1 d ve k3) (hl : Lim d (0 + 262152 + 262152 + 262152)) => cj_none (adopt_c hJ 3 1 (.slice none 0 0) [] ⟨by decide, by decide⟩ ⟨by decide, by decide⟩ (Es.nil W) (fun _ h => by cases h) (by decide) (hl.room (by decide))) f4)
  have HK := hid_in (fun W j g u0 u1 ve d (hJ : JV W w.heap.size j g u0 u1 d ve k3) => kept_c hJ)
  have HNEW := hid_in (Pt.new_any w)
  simp only [ent1, Ent.val] at HEN
  simp only [k3, Kt.val] at HK
  go_enter Try.func6, Try.ntmps6
  go_upto_region 3 with (first | (go_at_call 8; refine HNEW.out.mono ?_; rintro e w1 ⟨g, rfl, hp, hb⟩; have HB1 := hid_in hb; have HP1 := hid_in hp; have HC9 := hid_in (open_jd hp JD.new (Lim.new.mono (by decide))); clear hp hb) | (go_at_call 9; refine HC9.out.mono ?_; intro e w2 ho; obtain ⟨j, ve, op, oc, u0, u1, rfl, hJ, hE, hjn, hG, hS⟩ := OpR.form ho; have HJ2 := hid_in hJ; have HB2 := hid_in (hG.below HB1.out HB1.out.size (fun k hk => (HP1.out.fs_lt k hk).1)); have hlen0 : ([] : List Ent).length = 0 := rfl; clear ho hJ hE hjn hG hS))
  obtain ⟨W3, H3, R3, B3, S3⟩ := row_new w2 [.int .i64 0, .int .i64 0, .int .i64 0, .string ⟨#[]⟩, .slice op 0 oc] 30
  have HJ3 := hid_in (HJ2.out.below B3.out)
  have HB3 := hid_in (HB2.out.trans (B3.out.mono HB2.out.size))
  have HC21 := hid_in (HV.out W3 j g u0 u1 ve HJ3.out)
  refine wp_world H3.out ?_
  have q0 : W3.cell? ⟨w2.heap.size, 0, none⟩ = some (.int .i64 0) := R3.out.cell 0
  have q1 : W3.cell? ⟨w2.heap.size, 1, none⟩ = some (.int .i64 0) := R3.out.cell 1
  have q2 : W3.cell? ⟨w2.heap.size, 2, none⟩ = some (.int .i64 0) := R3.out.cell 2
  have q3 : W3.cell? ⟨w2.heap.size, 3, none⟩ = some (.string ⟨#[]⟩) := R3.out.cell 3
  have q4 : W3.cell? ⟨w2.heap.size, 4, none⟩ = some (.slice op 0 oc) := R3.out.cell 4
  have hjn : ¬ (Value.pointer (some ⟨j, 0, none⟩) = Value.pointer none) := by simp
  go_upto_region 5 with fail
  clear q0 q1 q2 q3 q4
  go_upto_region 10 with (first | (go_at_call 21; refine HC21.out.mono ?_; rintro e w4 ⟨rfl, d1, x0, x1, vv1, hjd, hlv, hlm, hj, hg, hs⟩; have HD1 := hid_in hjd; have HLV1 := hid_in hlv; have HLM1 := hid_in hlm; have HJ4 := hid_in hj; have R4 := hid_in (R3.out.grew hg (HJ3.out.typed R3.out (by decide) (by decide) (by decide))); have HB4 := hid_in (hg.below HB3.out HB3.out.size (fun k hk => (HJ3.out.fj_lt k hk).1)); have HC22 := hid_in (HEN.out w4 j g x0 x1 vv1 d1 hj hjd hlm); clear hjd hlv hlm hj hg hs HC21) | (go_at_call 22; refine HC22.out.mono ?_; rintro e w5 ⟨rfl, d2, y0, y1, vv2, hjd, hlv, hlm, hj, hg, hs⟩; have HD2 := hid_in hjd; have HLV2 := hid_in hlv; have HLM2 := hid_in hlm; have HJ5 := hid_in hj; have R5 := hid_in (R4.out.grew hg (HJ4.out.typed R4.out (by decide) (by decide) (by decide))); have HB5 := hid_in (hg.below HB4.out HB4.out.size (fun k hk => (HJ4.out.fj_lt k hk).1)); have HC23 := hid_in (HA.out w5 j g y0 y1 vv2 d2 hj hjd hlm); clear hjd hlv hlm hj hg hs HC22) | (go_at_call 23; refine HC23.out.mono ?_; rintro e w6 ⟨rfl, d3, z0, z1, vv3, hjd, hlv, hlm, hj, hg, hs⟩; have HD3 := hid_in hjd; have HLV3 := hid_in hlv; have HLM3 := hid_in hlm; have HJ6 := hid_in hj; have R6 := hid_in (R5.out.grew hg (HJ5.out.typed R5.out (by decide) (by decide) (by decide))); have HB6 := hid_in (hg.below HB5.out HB5.out.size (fun k hk => (HJ5.out.fj_lt k hk).1)); have HC24 := hid_in (HN.out w6 j g z0 z1 vv3 d3 hj hlm); clear hjd hlv hlm hj hg hs HC23) | (go_at_call 23; refine HC24.out.mono ?_; rintro e w7 ⟨rfl, t0, t1, vv4, hj, hg, hs⟩; have HJ7 := hid_in hj; have R7 := hid_in (R6.out.grew hg (HJ6.out.typed R6.out (by decide) (by decide) (by decide))); have HB7 := hid_in (hg.below HB6.out HB6.out.size (fun k hk => (HJ6.out.fj_lt k hk).1)); have HC12 := hid_in (HK.out w7 j g t0 t1 vv4 d3 hj); clear hj hg hs) | (go_at_call 12; refine HC12.out.mono ?_; rintro e w8 ⟨kv, rfl, ho, hb⟩; obtain ⟨kp, kc, rfl⟩ := EO.form ho; have HJ8 := hid_in (HJ7.out.below hb); have R8 := hid_in (R7.out.below hb R7.out.lt); have HB8 := hid_in (HB7.out.trans (hb.mono HB7.out.size)); clear ho hb; simp only [List.length_nil]; have p0 : w8.cell? ⟨w2.heap.size, 0, none⟩ = some (.int .i64 0) := R8.out.cell 0; have fp0 := R8.out.frozen 0; have p1 : w8.cell? ⟨w2.heap.size, 1, none⟩ = some (.int .i64 0) := R8.out.cell 1; have fp1 := R8.out.frozen 1; have p2 : w8.cell? ⟨w2.heap.size, 2, none⟩ = some (.int .i64 0) := R8.out.cell 2; have fp2 := R8.out.frozen 2; have p3 : w8.cell? ⟨w2.heap.size, 3, none⟩ = some (.string ⟨#[]⟩) := R8.out.cell 3; have fp3 := R8.out.frozen 3; have p4 : w8.cell? ⟨w2.heap.size, 4, none⟩ = some (.slice op 0 oc) := R8.out.cell 4; have fp4 := R8.out.frozen 4))
  have HF := set5 R8.out (.int .i64 3) (.int .i64 3) (.int .i64 0) (.string ⟨#[]⟩) (.slice kp 0 kc)
  have h51 : ∀ b cur, w8.heap[b]? = some (.cells cur 51 (0, 0)) → ¬ (some b = some w2.heap.size) := fun b cur hb e => by
    cases e
    have hr := R8.out
    unfold Row at hr
    rw [hr] at hb
    injection hb with hb
    injection hb with _ hb
    exact absurd hb (by decide)
  have HJ9 := hid_in (HJ8.out.keep (Grew.of_grown HF.2) (fun b hb e => by cases e; exact HJ8.out.typed R8.out (by decide) (by decide) (by decide) hb) h51)
  have HB9 := hid_in (HB8.out.grown HF.2 HB8.out.size (fun k e => by cases e; exact HB2.out.size))
  obtain ⟨W9, HW9⟩ : ∃ W9, Hid (((((w8.setCell ⟨w2.heap.size, 0, none⟩ (.int .i64 3)).setCell ⟨w2.heap.size, 1, none⟩ (.int .i64 3)).setCell ⟨w2.heap.size, 2, none⟩ (.int .i64 0)).setCell ⟨w2.heap.size, 3, none⟩ (.string ⟨#[]⟩)).setCell ⟨w2.heap.size, 4, none⟩ (.slice kp 0 kc) = W9) := ⟨_, hid_in rfl⟩
  have hr9 := HF.1
  rw [HW9.out] at HJ9 HB9 hr9
  have HRD := hid_in (Pt.read_any HJ9.out.pt 0)
  have hlive : d3.live = false := by rw [HLV3.out, HLV2.out, HLV1.out]; rfl
  have hlen : (20 : Int) < ((bytesOf 0 d3).length : Int) := by
    have hb := HD3.out.bytes
    rw [hlive] at hb
    have hl := frames_long ((([] ++ [recV 3]) ++ [recE ent1]) ++ [recA 3 0 []])
    have e : bytesOf 0 d3 = (arOf (liv false) d3).bs := rfl
    rw [e, hb]
    simp only [List.length_append, List.length_nil, List.length_singleton] at hl
    omega
  generalize bytesOf 0 d3 = bz at *
  refine wp_world HW9.out ?_
  clear p0 p1 p2 p3 p4 fp0 fp1 fp2 fp3 fp4 HF h51
  have l0 : W9.cell? ⟨w2.heap.size, 0, none⟩ = some (.int .i64 3) := hr9.cell 0
  have l1 : W9.cell? ⟨w2.heap.size, 1, none⟩ = some (.int .i64 3) := hr9.cell 1
  have l2 : W9.cell? ⟨w2.heap.size, 2, none⟩ = some (.int .i64 0) := hr9.cell 2
  have l3 : W9.cell? ⟨w2.heap.size, 3, none⟩ = some (.string ⟨#[]⟩) := hr9.cell 3
  have l4 : W9.cell? ⟨w2.heap.size, 4, none⟩ = some (.slice kp 0 kc) := hr9.cell 4
  clear hr9
  go_wp2_with (first | (go_at_call 24; refine HRD.out.mono ?_; rintro e w10 ⟨v, rfl, h1, h2⟩; obtain ⟨p, c, rfl, -, -⟩ := Pt.own_some h1; have HBA := hid_in h2; clear h1 h2))
  go_ret
  exact ⟨rfl, HB9.out.trans (HBA.out.mono HB9.out.size)⟩
end Go.Proofs.Ytjjofjnhhajjjaa.Jr
namespace Go.Proofs.Ytjjofjnhhajjjaa.Jr
open Go.RowKit
open Nd (Row wp_world post_Row grownBy_setCell below_of_grown u8v Grew Sl hid_in i64r bytesS str encO)
theorem neq_no (e : Ent) (w : World) : (binOp .neq 51 (.agg #[.int .i64 e.cl, .int .i64 e.nu, .int .i64 e.op.kind, .string e.op.path, .string e.op.dest, .string e.op.data, .int .i64 e.op.at_, .int .i64 e.op.size]) (.agg #[.int .i64 e.cl, .int .i64 e.nu, .int .i64 e.op.kind, .string e.op.path, .string e.op.dest, .string e.op.data, .int .i64 e.op.at_, .int .i64 e.op.size])).run Try.prog w = .ok (.bool false) w := by
  go_simp
theorem toL_inj {a b : ByteArray} (h : a.toList = b.toList) : a = b := by
  rw [Lib.toList_data, Lib.toList_data] at h
  cases a
  cases b
  simpa using h
theorem neq_yes (e f : Ent) (h : e ≠ f) (w : World) : (binOp .neq 51 (.agg #[.int .i64 e.cl, .int .i64 e.nu, .int .i64 e.op.kind, .string e.op.path, .string e.op.dest, .string e.op.data, .int .i64 e.op.at_, .int .i64 e.op.size]) (.agg #[.int .i64 f.cl, .int .i64 f.nu, .int .i64 f.op.kind, .string f.op.path, .string f.op.dest, .string f.op.data, .int .i64 f.op.at_, .int .i64 f.op.size])).run Try.prog w = .ok (.bool true) w := by
  go_simp
  intro h1 h2 h3 h4 h5 h6 h7 h8
  apply h
  obtain ⟨cl, nu, ⟨kd, pa, de, da, at_, sz⟩⟩ := e
  obtain ⟨cl', nu', ⟨kd', pa', de', da', at_', sz'⟩⟩ := f
  simp only at h1 h2 h3 h4 h5 h6 h7 h8
  obtain rfl := toL_inj h4
  obtain rfl := toL_inj h5
  obtain rfl := toL_inj h6
  subst h1 h2 h3 h7 h8
  rfl
def sameE (xs ys : List Ent) : Bool := decide (xs = ys)
set_option maxHeartbeats 4000000 in
set_option maxRecDepth 100000 in
theorem sameEntries_any (xs ys : List Ent) (v u : Value) (w : World) (hv : Es w v xs) (hu : Es w u ys) : Calls Try.prog 32 #[v, u] w fun e w' => e = .returned (.bool (sameE xs ys)) ∧ Below w.heap.size w w' := by
  obtain ⟨p, cap, rfl, hc1, hc2⟩ := hv.form
  obtain ⟨q, cap2, rfl, hd1, hd2⟩ := hu.form
  have k1 : (xs.length : Int) ≤ 9223372036854775807 := by omega
  have k2 : (ys.length : Int) ≤ 9223372036854775807 := by omega
  by_cases hl : xs.length = ys.length
  · have HV := hid_in hv
    have HU := hid_in hu
    have HL := hid_in hl
    clear hv hu hl hc1 hd1
    rw [← HL.out]
    obtain ⟨t, HT⟩ : ∃ t, Hid (sameE xs ys = t) := ⟨_, hid_in rfl⟩
    rw [HT.out]
    go_enter Try.func32, Try.ntmps32
    go_upto_region 4 with fail
    go_loopw [5] (fun vi W => ∃ i : Nat, i ≤ xs.length ∧ vi = .int .i64 (i : Int) ∧ Hid (xs.take i = ys.take i) ∧ Hid (Below w.heap.size w W)) (fun vi _ => xs.length - (intOf vi).toNat)
    case atStart => exact ⟨0, by omega, rfl, rfl, Below.refl _ _⟩
    case round =>
      obtain ⟨i, hi, rfl, hA, hB⟩ := hrel
      by_cases hlt : i < xs.length
      · have hly : i < ys.length := by have := HL.out; omega
        obtain ⟨b, o, rfl, hm⟩ := (HV.out.below hB.out).at (List.getElem?_eq_getElem hlt)
        obtain ⟨b2, o2, rfl, hm2⟩ := (HU.out.below hB.out).at (List.getElem?_eq_getElem hly)
        have HX : Hid (xs.take (i + 1) = xs.take i ++ [xs[i]]) := hid_in (List.take_succ_eq_append_getElem hlt)
        have HY : Hid (ys.take (i + 1) = ys.take i ++ [ys[i]]) := hid_in (List.take_succ_eq_append_getElem hly)
        have HNE : Hid (xs[i] ≠ ys[i] → xs ≠ ys) := hid_in (fun h e => h (by subst e; rfl))
        generalize xs[i] = x at *
        generalize ys[i] = y at *
        have hn := fun (h : x ≠ y) W => neq_yes x y h W
        have he := fun W => neq_no y W
        obtain ⟨cl, nu, ⟨kd, pa, de, da, at_, sz⟩⟩ := x
        obtain ⟨cl', nu', ⟨kd', pa', de', da', at_', sz'⟩⟩ := y
        simp only at hn he
        have m0 : wr.cell? ⟨b, o + i * 8, none⟩ = some (.int .i64 cl) := by simpa using hm 0 _ rfl
        have m1 : wr.cell? ⟨b, o + i * 8 + 1, none⟩ = some (.int .i64 nu) := hm 1 _ rfl
        have m2 : wr.cell? ⟨b, o + i * 8 + 2, none⟩ = some (.int .i64 kd) := hm 2 _ rfl
        have m3 : wr.cell? ⟨b, o + i * 8 + 3, none⟩ = some (.string pa) := hm 3 _ rfl
        have m4 : wr.cell? ⟨b, o + i * 8 + 4, none⟩ = some (.string de) := hm 4 _ rfl
        have m5 : wr.cell? ⟨b, o + i * 8 + 5, none⟩ = some (.string da) := hm 5 _ rfl
        have m6 : wr.cell? ⟨b, o + i * 8 + 6, none⟩ = some (.int .i64 at_) := hm 6 _ rfl
        have m7 : wr.cell? ⟨b, o + i * 8 + 7, none⟩ = some (.int .i64 sz) := hm 7 _ rfl
        have n0 : wr.cell? ⟨b2, o2 + i * 8, none⟩ = some (.int .i64 cl') := by simpa using hm2 0 _ rfl
        have n1 : wr.cell? ⟨b2, o2 + i * 8 + 1, none⟩ = some (.int .i64 nu') := hm2 1 _ rfl
        have n2 : wr.cell? ⟨b2, o2 + i * 8 + 2, none⟩ = some (.int .i64 kd') := hm2 2 _ rfl
        have n3 : wr.cell? ⟨b2, o2 + i * 8 + 3, none⟩ = some (.string pa') := hm2 3 _ rfl
        have n4 : wr.cell? ⟨b2, o2 + i * 8 + 4, none⟩ = some (.string de') := hm2 4 _ rfl
        have n5 : wr.cell? ⟨b2, o2 + i * 8 + 5, none⟩ = some (.string da') := hm2 5 _ rfl
        have n6 : wr.cell? ⟨b2, o2 + i * 8 + 6, none⟩ = some (.int .i64 at_') := hm2 6 _ rfl
        have n7 : wr.cell? ⟨b2, o2 + i * 8 + 7, none⟩ = some (.int .i64 sz') := hm2 7 _ rfl
        clear hm hm2
        by_cases hxy : (⟨cl, nu, ⟨kd, pa, de, da, at_, sz⟩⟩ : Ent) = ⟨cl', nu', ⟨kd', pa', de', da', at_', sz'⟩⟩
        · have HXY := hid_in hxy
          simp only [Ent.mk.injEq, Nd.Opn.mk.injEq] at hxy
          obtain ⟨rfl, rfl, rfl, rfl, rfl, rfl, rfl, rfl⟩ := hxy
          clear hn
          go_upto_region 6 with fail
          go_cut [25] from 17 to 25 (fun x W => x = .bool false ∧ Hid (Below wr.heap.size wr W))
          case first =>
            go_region
            go_wp2_with fail
            go_meet
            exact ⟨rfl, (Below.refl _ _).drew⟩
          case rest =>
            obtain ⟨rfl, HBC⟩ := hcut
            clear m0 m1 m2 m3 m4 m5 m6 m7 n0 n1 n2 n3 n4 n5 n6 n7
            go_wp2_with fail
            go_roundw
            case rel => exact ⟨i + 1, by omega, by go_num, hid_in (by rw [HX.out, HY.out, hA.out]), hB.out.trans (HBC.out.mono hB.out.size)⟩
            case measure => simp [intOf]; omega
        · have hn1 := hn hxy
          have HXY := hid_in hxy
          clear hn he hxy
          go_upto_region 6 with fail
          go_cut [25] from 17 to 25 (fun x W => x = .bool true ∧ Hid (Below wr.heap.size wr W))
          case first =>
            go_region
            go_wp2_with fail
            go_meet
            exact ⟨rfl, (Below.refl _ _).drew⟩
          case rest =>
            obtain ⟨rfl, HBC⟩ := hcut
            clear m0 m1 m2 m3 m4 m5 m6 m7 n0 n1 n2 n3 n4 n5 n6 n7
            go_wp2_with fail
            go_ret
            refine ⟨?_, hB.out.trans (HBC.out.mono hB.out.size)⟩
            have h1 : sameE xs ys = false := decide_eq_false (HNE.out HXY.out)
            rw [← HT.out, h1]
            rfl
      · obtain rfl : i = xs.length := by omega
        go_wp2
        go_ret
        refine ⟨?_, hB.out⟩
        have h1 := hA.out
        rw [List.take_length, HL.out, List.take_length] at h1
        rw [← HT.out]
        simp [sameE, h1]
  · clear hv hu hc1 hd1
    have k3 : ¬ (xs.length : Int) = (ys.length : Int) := by omega
    have HT : Hid (sameE xs ys = false) := hid_in (decide_eq_false (fun e => hl (by rw [e])))
    rw [HT.out]
    go_enter Try.func32, Try.ntmps32
    go_wp2
    go_ret
    exact ⟨rfl, Below.refl _ _⟩
end Go.Proofs.Ytjjofjnhhajjjaa.Jr
namespace Go.Proofs.Ytjjofjnhhajjjaa.Jr
open Go.RowKit
open Nd (Row wp_world post_Row grownBy_setCell below_of_grown u8v Grew Sl hid_in i64r bytesS str encO)
def sameK (a b : Kt) : Bool := decide (a.view = b.view) && (decide (a.normal = b.normal) && (decide (a.base = b.base) && (decide (a.state = b.state) && sameE a.ents b.ents)))
theorem sameK_iff (a b : Kt) : sameK a b = true ↔ a = b := by
  obtain ⟨av, an, ab, az, ae⟩ := a
  obtain ⟨bv, bn, bb, bz, be⟩ := b
  simp only [sameK, sameE, Bool.and_eq_true, decide_eq_true_eq, Kt.mk.injEq]
theorem sameK_self (a : Kt) : sameK a a = true := (sameK_iff a a).2 rfl
theorem rows2 (w : World) (a b : List Value) : ∃ W, Hid ((w.alloc (.cells a.toArray 30)).alloc (.cells b.toArray 30) = W) ∧ Hid (Row W w.heap.size a 30) ∧ Hid (Row W (w.heap.size + 1) b 30) ∧ Hid (Below w.heap.size w W) := by
  have h1 : Row (w.alloc (.cells a.toArray 30)) w.heap.size a 30 := Row.new w a 30
  have s1 : (w.alloc (.cells a.toArray 30)).heap.size = w.heap.size + 1 := by simp
  have b1 : Below w.heap.size w (w.alloc (.cells a.toArray 30)) := (Below.refl _ _).alloc (Nat.le_refl _) _
  generalize w.alloc (.cells a.toArray 30) = W1 at *
  have h2 : Row (W1.alloc (.cells b.toArray 30)) (w.heap.size + 1) b 30 := Row.newAt W1 _ b 30 s1
  have b2 : Below W1.heap.size W1 (W1.alloc (.cells b.toArray 30)) := (Below.refl _ _).alloc (Nat.le_refl _) _
  exact ⟨_, rfl, h1.below b2 (by omega), h2, b1.trans (b2.mono (by omega))⟩
set_option maxHeartbeats 4000000 in
set_option maxRecDepth 100000 in
theorem same_any (a b : Kt) (va vb : Value) (w : World) (ha : Es w va a.ents) (hb : Es w vb b.ents) : Calls Try.prog 14 #[a.val va, b.val vb] w fun e w' => e = .returned (.bool (sameK a b)) ∧ Below w.heap.size w w' := by
  obtain ⟨av, an, ab, az, ae⟩ := a
  obtain ⟨bv, bn, bb, bz, be⟩ := b
  obtain ⟨ap, ac, rfl, _, _⟩ := ha.form
  obtain ⟨bp, bc, rfl, _, _⟩ := hb.form
  simp only at ha hb
  simp only [Kt.val]
  obtain ⟨W2, H2, RA, RB, B2⟩ := rows2 w [.int .i64 av, .int .i64 an, .int .i64 ab, .string az, .slice ap ae.length ac] [.int .i64 bv, .int .i64 bn, .int .i64 bb, .string bz, .slice bp be.length bc]
  have HS := hid_in (sameEntries_any ae be _ _ W2 (ha.below B2.out) (hb.below B2.out))
  have HK := hid_in (show sameK ⟨av, an, ab, az, ae⟩ ⟨bv, bn, bb, bz, be⟩ = (decide (av = bv) && (decide (an = bn) && (decide (ab = bb) && (decide (az = bz) && sameE ae be)))) from rfl)
  rw [HK.out]
  clear HK ha hb
  generalize sameE ae be = se at *
  have a0 : W2.cell? ⟨w.heap.size, 0, none⟩ = some (.int .i64 av) := RA.out.cell 0
  have a1 : W2.cell? ⟨w.heap.size, 1, none⟩ = some (.int .i64 an) := RA.out.cell 1
  have a2 : W2.cell? ⟨w.heap.size, 2, none⟩ = some (.int .i64 ab) := RA.out.cell 2
  have a3 : W2.cell? ⟨w.heap.size, 3, none⟩ = some (.string az) := RA.out.cell 3
  have a4 : W2.cell? ⟨w.heap.size, 4, none⟩ = some (.slice ap ae.length ac) := RA.out.cell 4
  have b0 : W2.cell? ⟨w.heap.size + 1, 0, none⟩ = some (.int .i64 bv) := RB.out.cell 0
  have b1 : W2.cell? ⟨w.heap.size + 1, 1, none⟩ = some (.int .i64 bn) := RB.out.cell 1
  have b2 : W2.cell? ⟨w.heap.size + 1, 2, none⟩ = some (.int .i64 bb) := RB.out.cell 2
  have b3 : W2.cell? ⟨w.heap.size + 1, 3, none⟩ = some (.string bz) := RB.out.cell 3
  have b4 : W2.cell? ⟨w.heap.size + 1, 4, none⟩ = some (.slice bp be.length bc) := RB.out.cell 4
  by_cases c0 : av = bv
  rotate_left
  · have hd : decide (av = bv) = false := decide_eq_false c0
    rw [hd]
    have cc : (av == bv) = false := by simpa using c0
    go_enter Try.func14, Try.ntmps14
    go_upto_region 1 with fail
    refine wp_world H2.out ?_
    go_wp2_with (first | (go_at_call 32; refine HS.out.mono ?_; rintro e w3 ⟨rfl, hb3⟩; have HB3 := hid_in hb3; clear hb3))
    go_ret
    exact ⟨rfl, B2.out⟩
  subst c0
  have d0 : decide (av = av) = true := decide_eq_true rfl
  rw [d0]
  clear d0
  by_cases c1 : an = bn
  rotate_left
  · have hd : decide (an = bn) = false := decide_eq_false c1
    rw [hd]
    have cc : (an == bn) = false := by simpa using c1
    go_enter Try.func14, Try.ntmps14
    go_upto_region 1 with fail
    refine wp_world H2.out ?_
    go_wp2_with (first | (go_at_call 32; refine HS.out.mono ?_; rintro e w3 ⟨rfl, hb3⟩; have HB3 := hid_in hb3; clear hb3))
    go_ret
    exact ⟨rfl, B2.out⟩
  subst c1
  have d1 : decide (an = an) = true := decide_eq_true rfl
  rw [d1]
  clear d1
  by_cases c2 : ab = bb
  rotate_left
  · have hd : decide (ab = bb) = false := decide_eq_false c2
    rw [hd]
    have cc : (ab == bb) = false := by simpa using c2
    go_enter Try.func14, Try.ntmps14
    go_upto_region 1 with fail
    refine wp_world H2.out ?_
    go_wp2_with (first | (go_at_call 32; refine HS.out.mono ?_; rintro e w3 ⟨rfl, hb3⟩; have HB3 := hid_in hb3; clear hb3))
    go_ret
    exact ⟨rfl, B2.out⟩
  subst c2
  have d2 : decide (ab = ab) = true := decide_eq_true rfl
  rw [d2]
  clear d2
  by_cases c3 : az = bz
  rotate_left
  · have hd : decide (az = bz) = false := decide_eq_false c3
    rw [hd]
    have cc : (az.toList == bz.toList) = false := by rw [beq_eq_false_iff_ne]; exact fun e => c3 (toL_inj e)
    have cc2 : (az == bz) = false := by rw [Bool.eq_false_iff]; exact fun e => c3 ((MapKept.bytes_beq _ _).1 e)
    go_enter Try.func14, Try.ntmps14
    go_upto_region 1 with fail
    refine wp_world H2.out ?_
    go_wp2_with (first | (go_at_call 32; refine HS.out.mono ?_; rintro e w3 ⟨rfl, hb3⟩; have HB3 := hid_in hb3; clear hb3))
    go_ret
    exact ⟨rfl, B2.out⟩
  subst c3
  have d3 : decide (az = az) = true := decide_eq_true rfl
  rw [d3]
  clear d3
  go_enter Try.func14, Try.ntmps14
  go_upto_region 1 with fail
  refine wp_world H2.out ?_
  go_wp2_with (first | (go_at_call 32; refine HS.out.mono ?_; rintro e w3 ⟨rfl, hb3⟩; have HB3 := hid_in hb3; clear hb3))
  go_ret
  exact ⟨rfl, B2.out.trans (HB3.out.mono B2.out.size)⟩
end Go.Proofs.Ytjjofjnhhajjjaa.Jr
namespace Go.Proofs.Ytjjofjnhhajjjaa.Jr
open Go.RowKit
open Nd (Row wp_world post_Row grownBy_setCell grownBy_trans below_of_grown u8v Grew Sl hid_in i64r bytesS str)
open Pt (Ar Dk PtV FS Sub Stp liv arOf bytesOf)
theorem OpR.pt {w w' : World} {B g : Nat} {v0 v1 : Value} {d : Dk} {kv kn kb : Int} {ks : ByteArray} {ke : List Ent} {e : Ending} (hp : PtV w B g v0 v1 d) (h : OpR w B g v0 v1 d ⟨kv, kn, kb, ks, ke⟩ e w') : ∃ j ve p c u0 u1, e = .returned (.tuple #[.pointer (some ⟨j, 0, none⟩), .agg #[.int .i64 kv, .int .i64 kn, .int .i64 kb, .string ks, .slice p ke.length c], .int .i64 0]) ∧ JV w' B j g u0 u1 d ve ⟨kv, kn, kb, ks, ke⟩ ∧ Es w' (.slice p ke.length c) ke ∧ Below B w w' := by
  obtain ⟨j, ve, p, c, u0, u1, h1, h2, h3, _, h5, _⟩ := OpR.form h
  exact ⟨j, ve, p, c, u0, u1, h1, h2, h3.val, h5.below (Below.refl _ _) (Nat.le_trans hp.base (Nat.le_of_lt hp.lt)) (fun b hb => (hp.fs_lt b hb).1)⟩
end Go.Proofs.Ytjjofjnhhajjjaa.Jr
