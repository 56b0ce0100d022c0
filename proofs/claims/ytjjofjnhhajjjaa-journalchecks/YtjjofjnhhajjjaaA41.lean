/-
  JournalChecks, where it may be kept.
-/
import Derived.Laws.Tables
import Derived.Laws.CopyOwn
import Derived.Deep.RegionLaw
import Derived.Deep.DrawnRows
import Derived.Deep.CutRange
import Derived.Laws.StructEq
import Derived.Lib.SlBytesConst
import Derived.OwnWalk
import Derived.Test.YtjjofjnhhajjjaaA00
import Derived.Test.YtjjofjnhhajjjaaA01
import Derived.Test.YtjjofjnhhajjjaaA02
import Derived.Test.YtjjofjnhhajjjaaA03
import Derived.Test.YtjjofjnhhajjjaaA04
import Derived.Test.YtjjofjnhhajjjaaA05
import Derived.Test.YtjjofjnhhajjjaaA06
import Derived.Test.YtjjofjnhhajjjaaA07
import Derived.Test.YtjjofjnhhajjjaaA08
import Derived.Test.YtjjofjnhhajjjaaA09
import Derived.Test.YtjjofjnhhajjjaaA10
import Derived.Test.YtjjofjnhhajjjaaA11
import Derived.Test.YtjjofjnhhajjjaaA12
import Derived.Test.YtjjofjnhhajjjaaA13
import Derived.Test.YtjjofjnhhajjjaaA14
import Derived.Test.YtjjofjnhhajjjaaA15
import Derived.Test.YtjjofjnhhajjjaaA16
import Derived.Test.YtjjofjnhhajjjaaA17
import Derived.Test.YtjjofjnhhajjjaaA18
import Derived.Test.YtjjofjnhhajjjaaA19
import Derived.Test.YtjjofjnhhajjjaaA20
import Derived.Test.YtjjofjnhhajjjaaA21
import Derived.Test.YtjjofjnhhajjjaaA22
import Derived.Test.YtjjofjnhhajjjaaA23
import Derived.Test.YtjjofjnhhajjjaaA24
import Derived.Test.YtjjofjnhhajjjaaA25
import Derived.Test.YtjjofjnhhajjjaaA26
import Derived.Test.YtjjofjnhhajjjaaA27
import Derived.Test.YtjjofjnhhajjjaaA28
import Derived.Test.YtjjofjnhhajjjaaA29
import Derived.Test.YtjjofjnhhajjjaaA30
import Derived.Test.YtjjofjnhhajjjaaA31
import Derived.Test.YtjjofjnhhajjjaaA32
import Derived.Test.YtjjofjnhhajjjaaA33
import Derived.Test.YtjjofjnhhajjjaaA34
import Derived.Test.YtjjofjnhhajjjaaA35
import Derived.Test.YtjjofjnhhajjjaaA36
import Derived.Test.YtjjofjnhhajjjaaA37
import Derived.Test.YtjjofjnhhajjjaaA38
import Derived.Test.YtjjofjnhhajjjaaA39
import Derived.Test.YtjjofjnhhajjjaaA40
namespace Go.Proofs.Ytjjofjnhhajjjaa.Jr
open Go.RowKit
open Nd (Row wp_world post_Row grownBy_setCell grownBy_trans below_of_grown u8v Grew Sl hid_in i64r bytesS str)
open Pt (Ar Dk PtV FS Sub Stp liv arOf bytesOf)
set_option maxHeartbeats 8000000 in
set_option maxRecDepth 100000 in
theorem checks_yes (k : Kt) (v : Value) (w : World) (hk : k.ok) (hes : Es w v k.ents) (hl : k.ents.length ≤ 1000) (hm : may k = true) : Calls Try.prog 4 #[k.val v] w fun e w' => e = .returned (.bool true) ∧ Below w.heap.size w w' := by
  have HAW := hid_in (fun W => awake_any W)
  have HRC := hid_in (fun W (h : Es W v k.ents) => rcheck_any k v W hk h)
  rw [hm] at HRC
  have HCK := hid_in (fun W (h : Es W v k.ents) => check_any k v W hk h)
  rw [ckE_yes hm] at HCK
  have HLY := hid_in (fun W B j g u0 u1 ve (hJ : JV W B j g u0 u1 Pt.newD ve zeroK) (h : Es W v k.ents) => laid_yes hJ h hk (by omega) hm)
  have HSM := hid_in (fun W va (h1 : Es W va k.ents) (h2 : Es W v k.ents) => same_any k k va v W h1 h2)
  rw [sameK_self] at HSM
  have HSZ := hid_in (fun W => same_any zeroK zeroK (.slice none 0 0) (.slice none 0 0) W (Es.nil W) (Es.nil W))
  rw [sameK_self] at HSZ
  have HOPN := hid_in (fun W => open_nil W)
  have HVN := hid_in (fun W => view_nil 1 W)
  have HEN := hid_in (fun W => entry_nil zeroE W)
  have HAN := hid_in (fun W => adopt_nil 1 0 W)
  have HKN := hid_in (fun W => kept_nil W)
  have HES := hid_in hes
  have hl64 : (k.ents.length : Int) ≤ 1000 := by omega
  have hl0 : (0 : Int) ≤ (k.ents.length : Int) := by omega
  obtain ⟨kv, kn, kb, ks, ke⟩ := k
  obtain ⟨kp, kc, rfl, _, _⟩ := hes.form
  have HLN := hid_in (fun W => lay_nil ⟨kv, kn, kb, ks, ke⟩ kp ke.length kc W)
  simp only [Kt.val, Ent.val, zeroE, zeroK] at HRC HCK HLY HSM HSZ HOPN HEN HKN HLN hl64 hl0 ⊢
  obtain ⟨W1, H1, R1, B1, S1⟩ := row_new w [.int .i64 kv, .int .i64 kn, .int .i64 kb, .string ks, .slice kp ke.length kc] 30
  clear hk hes hl hm
  go_enter Try.func4, Try.ntmps4
  go_upto_region 1 with fail
  refine wp_world H1.out ?_
  go_upto_region 3 with (first | (go_at_call 6; refine (HAW.out _).mono ?_; rintro e w2 ⟨rfl, hb⟩; have HB2 := hid_in hb; clear hb))
  have R2 := hid_in (R1.out.below HB2.out R1.out.lt)
  have B2 := hid_in (B1.out.trans (HB2.out.mono B1.out.size))
  have HE2 := hid_in (HES.out.below B2.out)
  have k0 : w2.cell? ⟨w.heap.size, 0, none⟩ = some (.int .i64 kv) := R2.out.cell 0
  have k1 : w2.cell? ⟨w.heap.size, 1, none⟩ = some (.int .i64 kn) := R2.out.cell 1
  have k2 : w2.cell? ⟨w.heap.size, 2, none⟩ = some (.int .i64 kb) := R2.out.cell 2
  have k3 : w2.cell? ⟨w.heap.size, 3, none⟩ = some (.string ks) := R2.out.cell 3
  have k4 : w2.cell? ⟨w.heap.size, 4, none⟩ = some (.slice kp ke.length kc) := R2.out.cell 4
  have HC17 := hid_in (HRC.out w2 HE2.out)
  go_upto_region 6 with (first | (go_at_call 17; refine HC17.out.mono ?_; rintro e w3 ⟨rfl, hb⟩; have HB3 := hid_in hb; clear hb))
  clear k0 k1 k2 k3 k4
  have R3 := hid_in (R2.out.below HB3.out R2.out.lt)
  have B3 := hid_in (B2.out.trans (HB3.out.mono B2.out.size))
  have HE3 := hid_in (HES.out.below B3.out)
  have HNEW := hid_in (Pt.new_any w3)
  go_upto_region 8 with (first | (go_at_call 8; refine HNEW.out.mono ?_; rintro e w4 ⟨g, rfl, hp, hb⟩; have HP4 := hid_in hp; have HB4 := hid_in hb; have HC9 := hid_in (open_jd hp JD.new (Lim.new.mono (by decide))); clear hp hb HNEW) | (go_at_call 9; refine HC9.out.mono ?_; intro e w5 ho; obtain ⟨j, ve, op, oc, u0, u1, rfl, hJ, hE, hb⟩ := OpR.pt HP4.out ho; have HJ5 := hid_in hJ; have HBB5 := hid_in (HB4.out.trans hb); have hlen0 : ([] : List Ent).length = 0 := rfl; clear ho hJ hE hb HC9))
  obtain ⟨W6, H6, R6, B6, S6⟩ := row_new w5 [.int .i64 0, .int .i64 0, .int .i64 0, .string ⟨#[]⟩, .slice op 0 oc] 30
  have HJ6 := hid_in (HJ5.out.below B6.out)
  have HBB6 := hid_in (HBB5.out.trans (B6.out.mono HBB5.out.size))
  have RN6 := hid_in (R3.out.below HBB6.out R3.out.lt)
  have HE6 := hid_in (HE3.out.below HBB6.out)
  have HC18 := hid_in (HLY.out W6 _ j g u0 u1 ve HJ6.out HE6.out)
  have k0 : W6.cell? ⟨w.heap.size, 0, none⟩ = some (.int .i64 kv) := RN6.out.cell 0
  have k1 : W6.cell? ⟨w.heap.size, 1, none⟩ = some (.int .i64 kn) := RN6.out.cell 1
  have k2 : W6.cell? ⟨w.heap.size, 2, none⟩ = some (.int .i64 kb) := RN6.out.cell 2
  have k3 : W6.cell? ⟨w.heap.size, 3, none⟩ = some (.string ks) := RN6.out.cell 3
  have k4 : W6.cell? ⟨w.heap.size, 4, none⟩ = some (.slice kp ke.length kc) := RN6.out.cell 4
  refine wp_world H6.out ?_
  go_upto_region 10 with (first | (go_at_call 18; refine HC18.out.mono ?_; rintro e w7 ⟨rfl, d', x0, x1, hjd, hlm, hp, hb⟩; have HP7 := hid_in hp; have HDN := hid_in hjd.down; have HBB7 := hid_in (HBB6.out.trans hb); have HC9 := hid_in (open_jd hp hjd (hlm.mono (by decide))); clear hjd hlm hp hb HC18) | (go_at_call 9; refine HC9.out.mono ?_; intro e w8 ho; obtain ⟨j2, ve2, op2, oc2, y0, y1, rfl, hJ, hE, hb⟩ := OpR.pt HP7.out ho; have HJ8 := hid_in hJ; have HE8 := hid_in hE; have HBB8 := hid_in (HBB7.out.trans hb); have hlen0 : ([] : List Ent).length = 0 := rfl; clear ho hJ hE hb HC9))
  clear k0 k1 k2 k3 k4
  obtain ⟨W9, H9, R9, B9, S9⟩ := row_new w8 [.int .i64 kv, .int .i64 kn, .int .i64 kb, .string ks, .slice op2 ke.length oc2] 30
  have HBB9 := hid_in (HBB8.out.trans (B9.out.mono HBB8.out.size))
  have RN9 := hid_in (R3.out.below HBB9.out R3.out.lt)
  have HE9 := hid_in (HE3.out.below HBB9.out)
  have HF9 := hid_in (HE8.out.below B9.out)
  have HP9 := hid_in (HJ8.out.pt.below B9.out)
  have HC19 := hid_in (HCK.out W9 HE9.out)
  have k0 : W9.cell? ⟨w.heap.size, 0, none⟩ = some (.int .i64 kv) := RN9.out.cell 0
  have k1 : W9.cell? ⟨w.heap.size, 1, none⟩ = some (.int .i64 kn) := RN9.out.cell 1
  have k2 : W9.cell? ⟨w.heap.size, 2, none⟩ = some (.int .i64 kb) := RN9.out.cell 2
  have k3 : W9.cell? ⟨w.heap.size, 3, none⟩ = some (.string ks) := RN9.out.cell 3
  have k4 : W9.cell? ⟨w.heap.size, 4, none⟩ = some (.slice kp ke.length kc) := RN9.out.cell 4
  have q0 : W9.cell? ⟨w8.heap.size, 0, none⟩ = some (.int .i64 kv) := R9.out.cell 0
  have q1 : W9.cell? ⟨w8.heap.size, 1, none⟩ = some (.int .i64 kn) := R9.out.cell 1
  have q2 : W9.cell? ⟨w8.heap.size, 2, none⟩ = some (.int .i64 kb) := R9.out.cell 2
  have q3 : W9.cell? ⟨w8.heap.size, 3, none⟩ = some (.string ks) := R9.out.cell 3
  have q4 : W9.cell? ⟨w8.heap.size, 4, none⟩ = some (.slice op2 ke.length oc2) := R9.out.cell 4
  have RF9 := R9
  refine wp_world H9.out ?_
  go_upto_region 12 with (first | (go_at_call 19; refine HC19.out.mono ?_; rintro e w10 ⟨rfl, hb⟩; have RN10 := hid_in (RN9.out.below hb RN9.out.lt); have RF10 := hid_in (RF9.out.below hb RF9.out.lt); have HE10 := hid_in (HE9.out.below hb); have HF10 := hid_in (HF9.out.below hb); have HP10 := hid_in (HP9.out.below hb); have HBB10 := hid_in (HBB9.out.trans (hb.mono HBB9.out.size)); clear k0 k1 k2 k3 k4 q0 q1 q2 q3 q4; have k0 : w10.cell? ⟨w.heap.size, 0, none⟩ = some (.int .i64 kv) := RN10.out.cell 0; have k1 : w10.cell? ⟨w.heap.size, 1, none⟩ = some (.int .i64 kn) := RN10.out.cell 1; have k2 : w10.cell? ⟨w.heap.size, 2, none⟩ = some (.int .i64 kb) := RN10.out.cell 2; have k3 : w10.cell? ⟨w.heap.size, 3, none⟩ = some (.string ks) := RN10.out.cell 3; have k4 : w10.cell? ⟨w.heap.size, 4, none⟩ = some (.slice kp ke.length kc) := RN10.out.cell 4; have q0 : w10.cell? ⟨w8.heap.size, 0, none⟩ = some (.int .i64 kv) := RF10.out.cell 0; have q1 : w10.cell? ⟨w8.heap.size, 1, none⟩ = some (.int .i64 kn) := RF10.out.cell 1; have q2 : w10.cell? ⟨w8.heap.size, 2, none⟩ = some (.int .i64 kb) := RF10.out.cell 2; have q3 : w10.cell? ⟨w8.heap.size, 3, none⟩ = some (.string ks) := RF10.out.cell 3; have q4 : w10.cell? ⟨w8.heap.size, 4, none⟩ = some (.slice op2 ke.length oc2) := RF10.out.cell 4; have HC14 := hid_in (HSM.out w10 _ HF10.out HE10.out); clear hb HC19) | (go_at_call 14; refine HC14.out.mono ?_; rintro e w12 ⟨rfl, hb⟩; have RN12 := hid_in (RN10.out.below hb RN10.out.lt); have RF12 := hid_in (RF10.out.below hb RF10.out.lt); have HE12 := hid_in (HE10.out.below hb); have HF12 := hid_in (HF10.out.below hb); have HP12 := hid_in (HP10.out.below hb); have HBB12 := hid_in (HBB10.out.trans (hb.mono HBB10.out.size)); clear k0 k1 k2 k3 k4 q0 q1 q2 q3 q4; have k0 : w12.cell? ⟨w.heap.size, 0, none⟩ = some (.int .i64 kv) := RN12.out.cell 0; have k1 : w12.cell? ⟨w.heap.size, 1, none⟩ = some (.int .i64 kn) := RN12.out.cell 1; have k2 : w12.cell? ⟨w.heap.size, 2, none⟩ = some (.int .i64 kb) := RN12.out.cell 2; have k3 : w12.cell? ⟨w.heap.size, 3, none⟩ = some (.string ks) := RN12.out.cell 3; have k4 : w12.cell? ⟨w.heap.size, 4, none⟩ = some (.slice kp ke.length kc) := RN12.out.cell 4; have q0 : w12.cell? ⟨w8.heap.size, 0, none⟩ = some (.int .i64 kv) := RF12.out.cell 0; have q1 : w12.cell? ⟨w8.heap.size, 1, none⟩ = some (.int .i64 kn) := RF12.out.cell 1; have q2 : w12.cell? ⟨w8.heap.size, 2, none⟩ = some (.int .i64 kb) := RF12.out.cell 2; have q3 : w12.cell? ⟨w8.heap.size, 3, none⟩ = some (.string ks) := RF12.out.cell 3; have q4 : w12.cell? ⟨w8.heap.size, 4, none⟩ = some (.slice op2 ke.length oc2) := RF12.out.cell 4; clear hb HC14))
  clear q0 q1 q2 q3 q4
  have HC9 := hid_in (HOPN.out w12)
  go_upto_region 14 with (first | (go_at_call 9; refine HC9.out.mono ?_; rintro e w13 ⟨rfl, hb⟩; have HB13 := hid_in hb; clear hb HC9))
  clear k0 k1 k2 k3 k4
  obtain ⟨W14, H14, R14, B14, S14⟩ := row_new w13 [.int .i64 0, .int .i64 0, .int .i64 0, .string ⟨#[]⟩, .slice none 0 0] 30
  have hb1214 : Below w12.heap.size w12 W14 := HB13.out.trans (B14.out.mono HB13.out.size)
  have HP14 := hid_in (HP12.out.below hb1214)
  have HBB14 := hid_in (HBB12.out.trans (hb1214.mono HBB12.out.size))
  have HC13 := hid_in (Pt.arm_any HP14.out 1 (by decide))
  clear hb1214
  refine wp_world H14.out ?_
  go_upto_region 17 with (first | (go_at_call 13; refine HC13.out.mono ?_; rintro e w15 ⟨rfl, z0, z1, hp, hg, hs⟩; have HP15 := hid_in hp; have HBB15 := hid_in (HBB14.out.trans (hg.below (Below.refl _ _) HBB14.out.size (fun b hb => (HP14.out.fs_lt b hb).1))); have HC20 := hid_in (Pt.sync_any hp 0); clear hp hg hs HC13) | (go_at_call 20; refine HC20.out.mono ?_; rintro e w16 ⟨rfl, t0, t1, hp, hg, hs⟩; have HP16 := hid_in hp; have HBB16 := hid_in (HBB15.out.trans (hg.below (Below.refl _ _) HBB15.out.size (fun b hb => (HP15.out.fs_lt b hb).1))); have HC9 := hid_in (open_down hp (gone HDN.out)); simp only [Kt.val, zeroK] at HC9; clear hp hg hs HC20) | (go_at_call 9; refine HC9.out.mono ?_; rintro e w17 ⟨rfl, hb⟩; have HBB17 := hid_in (HBB16.out.trans (hb.mono HBB16.out.size)); clear hb HC9))
  obtain ⟨W18, H18, R18, B18, S18⟩ := row_new w17 [.int .i64 0, .int .i64 0, .int .i64 0, .string ⟨#[]⟩, .slice none 0 0] 30
  have HBB18 := hid_in (HBB17.out.trans (B18.out.mono HBB17.out.size))
  refine wp_world H18.out ?_
  have RN18 := hid_in (R3.out.below HBB18.out R3.out.lt)
  have hc21 := HVN.out W18
  have HC21 := hid_in hc21
  clear hc21
  have k0 : W18.cell? ⟨w.heap.size, 0, none⟩ = some (.int .i64 kv) := RN18.out.cell 0
  have k1 : W18.cell? ⟨w.heap.size, 1, none⟩ = some (.int .i64 kn) := RN18.out.cell 1
  have k2 : W18.cell? ⟨w.heap.size, 2, none⟩ = some (.int .i64 kb) := RN18.out.cell 2
  have k3 : W18.cell? ⟨w.heap.size, 3, none⟩ = some (.string ks) := RN18.out.cell 3
  have k4 : W18.cell? ⟨w.heap.size, 4, none⟩ = some (.slice kp ke.length kc) := RN18.out.cell 4
  go_wp2_with (first | (go_at_call 21; refine HC21.out.mono ?_; rintro e w19 ⟨rfl, hb⟩; have HBB19 := hid_in (HBB18.out.trans (hb.mono HBB18.out.size)); have RN19 := hid_in (RN18.out.below hb RN18.out.lt); clear k0 k1 k2 k3 k4; have k0 : w19.cell? ⟨w.heap.size, 0, none⟩ = some (.int .i64 kv) := RN19.out.cell 0; have k1 : w19.cell? ⟨w.heap.size, 1, none⟩ = some (.int .i64 kn) := RN19.out.cell 1; have k2 : w19.cell? ⟨w.heap.size, 2, none⟩ = some (.int .i64 kb) := RN19.out.cell 2; have k3 : w19.cell? ⟨w.heap.size, 3, none⟩ = some (.string ks) := RN19.out.cell 3; have k4 : w19.cell? ⟨w.heap.size, 4, none⟩ = some (.slice kp ke.length kc) := RN19.out.cell 4; have HC22 := hid_in (HEN.out w19); clear hb HC21) | (go_at_call 22; refine HC22.out.mono ?_; rintro e w20 ⟨rfl, hb⟩; have HBB20 := hid_in (HBB19.out.trans (hb.mono HBB19.out.size)); have RN20 := hid_in (RN19.out.below hb RN19.out.lt); clear k0 k1 k2 k3 k4; have k0 : w20.cell? ⟨w.heap.size, 0, none⟩ = some (.int .i64 kv) := RN20.out.cell 0; have k1 : w20.cell? ⟨w.heap.size, 1, none⟩ = some (.int .i64 kn) := RN20.out.cell 1; have k2 : w20.cell? ⟨w.heap.size, 2, none⟩ = some (.int .i64 kb) := RN20.out.cell 2; have k3 : w20.cell? ⟨w.heap.size, 3, none⟩ = some (.string ks) := RN20.out.cell 3; have k4 : w20.cell? ⟨w.heap.size, 4, none⟩ = some (.slice kp ke.length kc) := RN20.out.cell 4; have HC23 := hid_in (HAN.out w20); clear hb HC22) | (go_at_call 23; refine HC23.out.mono ?_; rintro e w21 ⟨rfl, hb⟩; have HBB21 := hid_in (HBB20.out.trans (hb.mono HBB20.out.size)); have RN21 := hid_in (RN20.out.below hb RN20.out.lt); clear k0 k1 k2 k3 k4; have k0 : w21.cell? ⟨w.heap.size, 0, none⟩ = some (.int .i64 kv) := RN21.out.cell 0; have k1 : w21.cell? ⟨w.heap.size, 1, none⟩ = some (.int .i64 kn) := RN21.out.cell 1; have k2 : w21.cell? ⟨w.heap.size, 2, none⟩ = some (.int .i64 kb) := RN21.out.cell 2; have k3 : w21.cell? ⟨w.heap.size, 3, none⟩ = some (.string ks) := RN21.out.cell 3; have k4 : w21.cell? ⟨w.heap.size, 4, none⟩ = some (.slice kp ke.length kc) := RN21.out.cell 4; have HD18 := hid_in (HLN.out w21); clear hb HC23) | (go_at_call 18; refine HD18.out.mono ?_; rintro e w22 ⟨rfl, hb⟩; have HBB22 := hid_in (HBB21.out.trans (hb.mono HBB21.out.size)); have RN22 := hid_in (RN21.out.below hb RN21.out.lt); clear k0 k1 k2 k3 k4; have k0 : w22.cell? ⟨w.heap.size, 0, none⟩ = some (.int .i64 kv) := RN22.out.cell 0; have k1 : w22.cell? ⟨w.heap.size, 1, none⟩ = some (.int .i64 kn) := RN22.out.cell 1; have k2 : w22.cell? ⟨w.heap.size, 2, none⟩ = some (.int .i64 kb) := RN22.out.cell 2; have k3 : w22.cell? ⟨w.heap.size, 3, none⟩ = some (.string ks) := RN22.out.cell 3; have k4 : w22.cell? ⟨w.heap.size, 4, none⟩ = some (.slice kp ke.length kc) := RN22.out.cell 4; have HC12 := hid_in (HKN.out w22); clear hb HD18) | (go_at_call 12; refine HC12.out.mono ?_; rintro e w23 ⟨rfl, hb⟩; have HBB23 := hid_in (HBB22.out.trans (hb.mono HBB22.out.size)); have RN23 := hid_in (RN22.out.below hb RN22.out.lt); clear k0 k1 k2 k3 k4; have k0 : w23.cell? ⟨w.heap.size, 0, none⟩ = some (.int .i64 kv) := RN23.out.cell 0; have k1 : w23.cell? ⟨w.heap.size, 1, none⟩ = some (.int .i64 kn) := RN23.out.cell 1; have k2 : w23.cell? ⟨w.heap.size, 2, none⟩ = some (.int .i64 kb) := RN23.out.cell 2; have k3 : w23.cell? ⟨w.heap.size, 3, none⟩ = some (.string ks) := RN23.out.cell 3; have k4 : w23.cell? ⟨w.heap.size, 4, none⟩ = some (.slice kp ke.length kc) := RN23.out.cell 4; have HD14 := hid_in (HSZ.out w23); clear hb HC12) | (go_at_call 14; refine HD14.out.mono ?_; rintro e w24 ⟨rfl, hb⟩; have HBB24 := hid_in (HBB23.out.trans (hb.mono HBB23.out.size)); have RN24 := hid_in (RN23.out.below hb RN23.out.lt); clear k0 k1 k2 k3 k4; have k0 : w24.cell? ⟨w.heap.size, 0, none⟩ = some (.int .i64 kv) := RN24.out.cell 0; have k1 : w24.cell? ⟨w.heap.size, 1, none⟩ = some (.int .i64 kn) := RN24.out.cell 1; have k2 : w24.cell? ⟨w.heap.size, 2, none⟩ = some (.int .i64 kb) := RN24.out.cell 2; have k3 : w24.cell? ⟨w.heap.size, 3, none⟩ = some (.string ks) := RN24.out.cell 3; have k4 : w24.cell? ⟨w.heap.size, 4, none⟩ = some (.slice kp ke.length kc) := RN24.out.cell 4; skip; clear hb HD14))
  go_ret
  exact ⟨rfl, B3.out.trans (HBB24.out.mono B3.out.size)⟩
end Go.Proofs.Ytjjofjnhhajjjaa.Jr
