/-
  JournalAgain's walk.
-/
import Derived.OwnWalk
import Derived.Deep.RegionLaw
import Derived.Deep.DrawnRows
import Derived.Laws.StructEq
import Derived.Laws.Tables
import Derived.Laws.CopyOwn
import Derived.Deep.CutRange
import Derived.Lib.SlBytesConst
import Derived.Test.YtjjofjnhhajjjaaB00
import Derived.Test.YtjjofjnhhajjjaaB01
import Derived.Test.YtjjofjnhhajjjaaB02
import Derived.Test.YtjjofjnhhajjjaaB03
import Derived.Test.YtjjofjnhhajjjaaB04
import Derived.Test.YtjjofjnhhajjjaaB05
import Derived.Test.YtjjofjnhhajjjaaB06
import Derived.Test.YtjjofjnhhajjjaaB07
import Derived.Test.YtjjofjnhhajjjaaB08
import Derived.Test.YtjjofjnhhajjjaaB09
import Derived.Test.YtjjofjnhhajjjaaB10
import Derived.Test.YtjjofjnhhajjjaaB11
import Derived.Test.YtjjofjnhhajjjaaB12
import Derived.Test.YtjjofjnhhajjjaaB13
import Derived.Test.YtjjofjnhhajjjaaB14
import Derived.Test.YtjjofjnhhajjjaaB15
import Derived.Test.YtjjofjnhhajjjaaB16
import Derived.Test.YtjjofjnhhajjjaaB17
import Derived.Test.YtjjofjnhhajjjaaB18
import Derived.Test.YtjjofjnhhajjjaaB19
import Derived.Test.YtjjofjnhhajjjaaB20
import Derived.Test.YtjjofjnhhajjjaaB21
import Derived.Test.YtjjofjnhhajjjaaB22
import Derived.Test.YtjjofjnhhajjjaaB23
import Derived.Test.YtjjofjnhhajjjaaB24
import Derived.Test.YtjjofjnhhajjjaaB25
import Derived.Test.YtjjofjnhhajjjaaB26
import Derived.Test.YtjjofjnhhajjjaaB27
import Derived.Test.YtjjofjnhhajjjaaB28
import Derived.Test.YtjjofjnhhajjjaaB29
import Derived.Test.YtjjofjnhhajjjaaB30
import Derived.Test.YtjjofjnhhajjjaaB31
import Derived.Test.YtjjofjnhhajjjaaB32
import Derived.Test.YtjjofjnhhajjjaaB33
import Derived.Test.YtjjofjnhhajjjaaB34
import Derived.Test.YtjjofjnhhajjjaaB35
import Derived.Test.YtjjofjnhhajjjaaB36
import Derived.Test.YtjjofjnhhajjjaaB37
import Derived.Test.YtjjofjnhhajjjaaB38
import Derived.Test.YtjjofjnhhajjjaaB39
import Derived.Test.YtjjofjnhhajjjaaB40
import Derived.Test.YtjjofjnhhajjjaaB41
import Derived.Test.YtjjofjnhhajjjaaB42
namespace Go.Proofs.Ytjjofjnhhajjjaa.Jr
open Go.RowKit
open Nd (Row wp_world post_Row grownBy_setCell grownBy_trans below_of_grown u8v Grew Sl hid_in i64r bytesS str)
open Pt (Ar Dk PtV FS Sub Stp liv arOf bytesOf)
set_option maxHeartbeats 8000000 in
set_option maxRecDepth 100000 in
theorem again_SS (w : World) (v1 v2 : Value) (xa ya : List Ac) (h1 : Acs w v1 xa) (h2 : Acs w v2 ya) (l1 : ∀ a ∈ xa, a.k.ents.length ≤ 100000000) (l2 : ∀ a ∈ ya, a.k.ents.length ≤ 100000000) (hx : xa.length ≤ 30) (hy : ya.length ≤ 30) :
    Calls Try.prog 5 #[v1, v2] w fun e w' => e = .returned (.bool true) ∧ Below w.heap.size w w' := by
  obtain ⟨p, pc, rfl, hc1, hc2⟩ := h1.form
  obtain ⟨q, qc, rfl, hd1, hd2⟩ := h2.form
  have HX := hid_in h1
  have HY := hid_in h2
  have HLX := hid_in l1
  have HLY := hid_in l2
  have hxn : (xa.length : Int) ≤ 9223372036854775807 := by omega
  have hyn : (ya.length : Int) ≤ 9223372036854775807 := by omega
  have HAW := hid_in (awake_any w)
  have HF1 := hid_in (fun W (hb : Below w.heap.size w W) => fitsA xa _ W (h1.below hb))
  have HF2 := hid_in (fun W (hb : Below w.heap.size w W) => fitsA ya _ W (h2.below hb))
  clear h1 h2 l1 l2 hc1 hc2 hd1 hd2
  go_enter Try.func5, Try.ntmps5
  go_upto_region 3 with (first | (go_at_call 6; refine HAW.out.mono ?_; rintro e w1 ⟨rfl, hb⟩; have HB1 := hid_in hb; have HFA := hid_in (HF1.out w1 hb); clear hb HF1 HAW))
  go_cut [26] from 19 to 26 (fun x W => ∃ b : Bool, x = .bool b ∧ Hid (Below w.heap.size w W))
  case first =>
    go_wp2_with (first | (go_at_call 7; refine HFA.out.mono ?_; rintro e w2 ⟨b, rfl, hb⟩; have HB2 := hid_in (HB1.out.trans (hb.mono HB1.out.size)); have HFB := hid_in (HF2.out w2 HB2.out); clear hb HFA HF2; cases b) | (go_at_call 7; refine HFB.out.mono ?_; rintro e w3 ⟨b, rfl, hb⟩; have HB3 := hid_in (HB2.out.trans (hb.mono HB2.out.size)); clear hb HFB))
    · go_wp2_with fail
      go_meet
      exact ⟨_, rfl, HB2⟩
    · go_wp2_with (first | (go_at_call 7; refine HFB.out.mono ?_; rintro e w3 ⟨b, rfl, hb⟩; have HB3 := hid_in (HB2.out.trans (hb.mono HB2.out.size)); clear hb HFB))
      go_meet
      exact ⟨_, rfl, HB3⟩
  case rest =>
    obtain ⟨b, rfl, HB2⟩ := hcut
    cases b with
    | true =>
      go_wp2_with fail
      go_ret
      exact ⟨rfl, HB2.out⟩
    | false =>
      have HNEW := hid_in (Pt.new_any wc)
      go_upto_region 6 with (first | (go_at_call 8; refine HNEW.out.mono ?_; rintro e w3 ⟨g, rfl, hp, hb⟩; have HP := hid_in hp; have HB3 := hid_in hb; have HC9 := hid_in (open_new hp); clear hp hb HNEW) | (go_at_call 9; refine HC9.out.mono ?_; intro e w4 ho; obtain ⟨j, jc, jp, rfl, hJ, hk⟩ := OpR.one HP.out ho; have HJ4 := hid_in hJ; have HB4 := hid_in (hk w w.heap.size HB2.out.size HB3.out.size (HB2.out.trans (HB3.out.mono HB2.out.size))); have HS4 := hid_in (hk wc wc.heap.size (Nat.le_refl _) HB3.out.size HB3.out); clear ho hJ hk HC9 HP))
      obtain ⟨W5, H5, R5, B5, S5⟩ := row_new w4 [.int .i64 0, .int .i64 0, .int .i64 0, .string ⟨#[]⟩, .slice jp 0 jc] 30
      refine wp_world H5.out ?_
      have HJ5 := hid_in (HJ4.out.below B5.out)
      have HB5 := hid_in (HB4.out.trans (B5.out.mono HB4.out.size))
      have HS5 : Hid (wc.heap.size ≤ W5.heap.size) := hid_in (Nat.le_trans HS4.out.size B5.out.size)
      have HWB : Hid (w.heap.size ≤ wc.heap.size) := hid_in HB2.out.size
      clear HJ4 HB4 R5 B5 S5 HS4 HB3 HB2
      generalize wc.heap.size = B at *
      go_wp2_with fail
      go_loopw [8] (fun vi W => ∃ (i : Nat) (k : Kt), i ≤ xa.length ∧ vi = .int .i64 (i : Int) ∧ Hid (J1 W B j g (i * 262152) k) ∧ Hid (Below w.heap.size w W) ∧ Hid (B ≤ W.heap.size)) (fun vi _ => xa.length - (intOf vi).toNat)
      case atStart => exact ⟨0, zeroK, by omega, rfl, by simpa using HJ5, HB5, HS5⟩
      case round =>
        obtain ⟨i, k, hi, rfl, hJ, hB, hS⟩ := hrel
        by_cases hgo : i < xa.length
        · have hlt : i < xa.length := by omega
          have hi1 : (i : Int) < (xa.length : Int) := by omega
          have hi2 : (i : Int) < 30 := by omega
          obtain ⟨b, o, rfl, hm, hok⟩ := (HX.out.below hB.out).at hlt
          have HC := hid_in (hJ.out.do_ (by omega) xa[i] hok (HLX.out _ (List.getElem_mem hlt)))
          have HGO := hid_in hgo
          have HADD : (i + 1) * 262152 = i * 262152 + 262152 := by omega
          generalize xa[i] = a at *
          generalize okK a k = k2 at *
          generalize okE a k = E at *
          have hes := hok.es
          have hkp := hok.slice
          obtain ⟨kd, vw, fr, ⟨kv, kn, kb, ks, es⟩, ve, fl, kp, kks⟩ := a
          simp only at hes hkp
          obtain ⟨ap, ac, rfl, _, _⟩ := hes.form
          obtain ⟨r, l, c, rfl⟩ := hkp
          simp only [Ac.val] at HC
          have m0 : wr.cell? ⟨b, o + i * 10, none⟩ = some (.int .i64 kd) := by simpa using hm 0 _ rfl
          have m1 : wr.cell? ⟨b, o + i * 10 + 1, none⟩ = some (.int .i64 vw) := hm 1 _ rfl
          have m2 : wr.cell? ⟨b, o + i * 10 + 2, none⟩ = some (.int .i64 fr) := hm 2 _ rfl
          have m3 : wr.cell? ⟨b, o + i * 10 + 3, none⟩ = some (.int .i64 kv) := hm 3 _ rfl
          have m4 : wr.cell? ⟨b, o + i * 10 + 4, none⟩ = some (.int .i64 kn) := hm 4 _ rfl
          have m5 : wr.cell? ⟨b, o + i * 10 + 5, none⟩ = some (.int .i64 kb) := hm 5 _ rfl
          have m6 : wr.cell? ⟨b, o + i * 10 + 6, none⟩ = some (.string ks) := hm 6 _ rfl
          have m7 : wr.cell? ⟨b, o + i * 10 + 7, none⟩ = some (.slice ap es.length ac) := hm 7 _ rfl
          have m8 : wr.cell? ⟨b, o + i * 10 + 8, none⟩ = some (.int .i64 fl) := hm 8 _ rfl
          have m9 : wr.cell? ⟨b, o + i * 10 + 9, none⟩ = some (.slice r l c) := hm 9 _ rfl
          clear hm hok hes hJ hi hgo hlt
          go_wp2_with (first | (go_at_call 11; refine HC.out.mono ?_; rintro e w6 ⟨rfl, hj, hbw⟩; have HJ6 := hid_in hj; have HB6 := hid_in (hbw w w.heap.size hS.out HWB.out hB.out); have HS6 : Hid (B ≤ w6.heap.size) := hid_in (Nat.le_trans hS.out (hbw wr B hS.out (Nat.le_refl _) ((Below.refl wr.heap.size wr).mono hS.out)).size); clear hj hbw HC))
          exact ⟨⟨i + 1, k2, by have := HGO.out; omega, by go_num, by rw [HADD]; exact HJ6, HB6, HS6⟩, by have := HGO.out; simp [intOf]; omega⟩
        · have hi1 : ¬ (i : Int) < (xa.length : Int) := by omega
          have hi2 : (i : Int) ≤ 30 := by omega
          obtain ⟨m, HM, hJm⟩ : ∃ m, Hid (m ≤ 7864560) ∧ Hid (J1 wr B j g m k) := ⟨i * 262152, hid_in (by omega), hJ⟩
          clear hJ
          have HNEW := hid_in (Pt.new_any wr)
          obtain ⟨w0, hw0⟩ : ∃ x, x = wr := ⟨_, rfl⟩
          have HK7 := hid_in hJm.out.ok
          clear hi hgo HJ5 HB5 HS5
          go_upto_region 14 with (first | (go_at_call 8; refine HNEW.out.mono ?_; rintro e w7 ⟨h, rfl, hp, hb⟩; have HP := hid_in hp; have HB7 := hid_in hb; have HC9 := hid_in (open_new hp); clear hp hb HNEW) | (go_at_call 9; refine HC9.out.mono ?_; intro e w8 ho; obtain ⟨y, jc2, jp2, rfl, hJ2, hk⟩ := OpR.two hJm.out HB7.out HP.out ho; have HJ8 := hid_in hJ2; have HB8 := hid_in (hk w w.heap.size hB.out.size hB.out); have HS8 := hid_in (hk wr wr.heap.size (Nat.le_refl _) (Below.refl _ _)); clear ho hJ2 hk HC9 HP HB7))
          obtain ⟨W9, H9, R9, B9, S9⟩ := row_new w8 [.int .i64 0, .int .i64 0, .int .i64 0, .string ⟨#[]⟩, .slice jp2 0 jc2] 30
          refine wp_world H9.out ?_
          have HJ9 := hid_in (HJ8.out.below B9.out)
          have HB9 := hid_in (HB8.out.trans (B9.out.mono HB8.out.size))
          have HS9 : Hid (wr.heap.size ≤ W9.heap.size) := hid_in (Nat.le_trans HS8.out.size B9.out.size)
          have HWC : Hid (w.heap.size ≤ wr.heap.size) := hid_in hB.out.size
          clear HJ8 HB8 R9 B9 S9 HS8 hJm hB hw0
          have HBC := hid_in hS.out
          clear hS
          generalize wr.heap.size = C at *
          obtain ⟨kv, kn, kb, ks, ke⟩ := k
          obtain ⟨hok, hmy⟩ := HK7.out
          have HK := hid_in HJ9.out.left.kept
          simp only [Kt.val] at HK
          go_upto_region 17 with (first | (go_at_call 12; refine HK.out.mono ?_; rintro e w10 ⟨v, rfl, hes, hb⟩; obtain ⟨vp, vc, rfl, _, _⟩ := hes.form; have HJ10 := hid_in (HJ9.out.below hb); have HB10 := hid_in (HB9.out.trans (hb.mono HB9.out.size)); have HS10 := hid_in (Nat.le_trans HS9.out hb.size); have HLY1 := hid_in (HJ10.out.swap.lay HWC.out (by omega) hes hok hmy); simp only [Kt.val] at HLY1; clear hes hb HK) | (go_at_call 18; refine HLY1.out.mono ?_; rintro e w11 ⟨rfl, hj, hb⟩; have HJ11 := hid_in hj.swap; have HB11 := hid_in (hb w (Nat.le_trans HWC.out HS10.out) HB10.out); have HK := hid_in HJ11.out.left.kept; simp only [Kt.val] at HK; clear hj hb HLY1) | (go_at_call 12; refine HK.out.mono ?_; rintro e w12 ⟨v, rfl, hes, hb⟩; obtain ⟨vp2, vc2, rfl, _, _⟩ := hes.form; have HE12 := hid_in hes; have HJ12 := hid_in (HJ11.out.below hb); have HB12 := hid_in (HB11.out.trans (hb.mono HB11.out.size)); have HK2 := hid_in HJ12.out.swap.left.kept; simp only [Kt.val] at HK2; clear hes hb HK) | (go_at_call 12; refine HK2.out.mono ?_; rintro e w13 ⟨v, rfl, hes, hb⟩; obtain ⟨vp3, vc3, rfl, _, _⟩ := hes.form; have HJ13 := hid_in (HJ12.out.below hb); have HB13 := hid_in (HB12.out.trans (hb.mono HB12.out.size)); have HSM := hid_in (same_any ⟨kv, kn, kb, ks, ke⟩ ⟨kv, kn, kb, ks, ke⟩ _ _ w13 (HE12.out.below hb) hes); rw [sameK_self] at HSM; simp only [Kt.val] at HSM; clear hes hb HK2) | (go_at_call 14; refine HSM.out.mono ?_; rintro e w14 ⟨rfl, hb⟩; have HJ14 := hid_in (HJ13.out.below hb); have HB14 := hid_in (HB13.out.trans (hb.mono HB13.out.size)); clear hb HSM))
          clear HJ9 HB9 HS9 HJ10 HB10 HS10 HJ11 HB11 HJ12 HB12 HE12 HJ13 HB13 hok hmy HK7
          have HSC := hid_in (Nat.le_trans HWC.out (Nat.le_refl C))
          have HAB := hid_in (Nat.le_trans HWB.out (Nat.le_refl B))
          obtain ⟨k, HKK⟩ : ∃ k : Kt, Hid (k = ⟨kv, kn, kb, ks, ke⟩) := ⟨_, hid_in rfl⟩
          rw [← HKK.out] at HJ14
          clear HKK
          go_wp2_with fail
          go_loopw [13] (fun vi W => ∃ (i : Nat) (k : Kt), i ≤ ya.length ∧ vi = .int .i64 (i : Int) ∧ Hid (J2 W B j g (m + i * 262152) k C y h (262152 + i * 262152) k) ∧ Hid (Below w.heap.size w W)) (fun vi _ => ya.length - (intOf vi).toNat)
          case atStart => exact ⟨0, k, by omega, rfl, by simpa using HJ14, HB14⟩
          case round =>
            obtain ⟨i2, k, hi, rfl, hJ, hB⟩ := hrel
            by_cases hgo : i2 < ya.length
            · have hlt : i2 < ya.length := by omega
              have hi1 : (i2 : Int) < (ya.length : Int) := by omega
              have hi2 : (i2 : Int) < 30 := by omega
              obtain ⟨b, o, rfl, hm, hok⟩ := (HY.out.below hB.out).at hlt
              have hlen := HLY.out _ (List.getElem_mem hlt)
              have HM := HM.out
              obtain ⟨M, HMM⟩ : ∃ M, Hid (m + i2 * 262152 = M) := ⟨_, hid_in rfl⟩
              obtain ⟨N, HNN⟩ : ∃ N, Hid (262152 + i2 * 262152 = N) := ⟨_, hid_in rfl⟩
              have hMb : M ≤ 100000000 := by rw [← HMM.out]; omega
              have hNb : N ≤ 100000000 := by rw [← HNN.out]; omega
              have HAM : m + (i2 + 1) * 262152 = M + 262152 := by rw [← HMM.out]; omega
              have HAN : 262152 + (i2 + 1) * 262152 = N + 262152 := by rw [← HNN.out]; omega
              rw [HMM.out, HNN.out] at hJ
              have HBD := hid_in (hB.out.drew)
              have HC := hid_in ((hJ.out.below ((Below.refl wr.heap.size wr).drew)).do_ HAB.out hMb ya[i2] (hok.below ((Below.refl wr.heap.size wr).drew)) hlen)
              have HCELL := hid_in (fun W (x : Below w.heap.size w W) => show ∀ (z : Nat) u, (ya[i2]).cells[z]? = some u → W.cell? ⟨b, o + i2 * 10 + z, none⟩ = some u by
                obtain ⟨b', o', e1, h2, -⟩ := (HY.out.below x).at hlt
                cases e1
                exact h2)
              have HCC := hid_in (fun W (x : Below w.heap.size w W) (hj : J2 W B j g (M + 262152) (okK ya[i2] k) C y h N k) => hj.swap.do_ HSC.out hNb ya[i2] (by obtain ⟨b', o', -, -, h3⟩ := (HY.out.below x).at hlt; exact h3) hlen)
              have HGO := hid_in hgo
              generalize ya[i2] = a at *
              generalize okK a k = k2 at *
              generalize okE a k = E at *
              have hes := hok.es
              have hkp := hok.slice
              obtain ⟨kd, vw, fr, ⟨kv, kn, kb, ks, es⟩, ve, fl, kp, kks⟩ := a
              simp only at hes hkp
              obtain ⟨ap, ac, rfl, _, _⟩ := hes.form
              obtain ⟨r, l, c, rfl⟩ := hkp
              obtain ⟨qv, qn, qb, qs, qe⟩ := k2
              simp only [Ac.val] at HC HCC
              simp only [Ac.cells] at HCELL
              have m0 : wr.cell? ⟨b, o + i2 * 10, none⟩ = some (.int .i64 kd) := by simpa using hm 0 _ rfl
              have m1 : wr.cell? ⟨b, o + i2 * 10 + 1, none⟩ = some (.int .i64 vw) := hm 1 _ rfl
              have m2 : wr.cell? ⟨b, o + i2 * 10 + 2, none⟩ = some (.int .i64 fr) := hm 2 _ rfl
              have m3 : wr.cell? ⟨b, o + i2 * 10 + 3, none⟩ = some (.int .i64 kv) := hm 3 _ rfl
              have m4 : wr.cell? ⟨b, o + i2 * 10 + 4, none⟩ = some (.int .i64 kn) := hm 4 _ rfl
              have m5 : wr.cell? ⟨b, o + i2 * 10 + 5, none⟩ = some (.int .i64 kb) := hm 5 _ rfl
              have m6 : wr.cell? ⟨b, o + i2 * 10 + 6, none⟩ = some (.string ks) := hm 6 _ rfl
              have m7 : wr.cell? ⟨b, o + i2 * 10 + 7, none⟩ = some (.slice ap es.length ac) := hm 7 _ rfl
              have m8 : wr.cell? ⟨b, o + i2 * 10 + 8, none⟩ = some (.int .i64 fl) := hm 8 _ rfl
              have m9 : wr.cell? ⟨b, o + i2 * 10 + 9, none⟩ = some (.slice r l c) := hm 9 _ rfl
              clear hm hok hes hJ hi hgo hlt
              go_upto_region 19 with fail
              go_region_with (first | (go_at_call 11; refine HC.out.mono ?_; rintro e w16 ⟨rfl, hj, hbw⟩; have HB16 := hid_in (hbw w HBD.out.size HBD.out); have HQ := hid_in (HCELL.out w16 HB16.out); have HC2 := hid_in (HCC.out w16 HB16.out hj); have n0 : w16.cell? ⟨b, o + i2 * 10, none⟩ = some (.int .i64 kd) := (by simpa using HQ.out 0 _ rfl); have n1 : w16.cell? ⟨b, o + i2 * 10 + 1, none⟩ = some (.int .i64 vw) := HQ.out 1 _ rfl; have n2 : w16.cell? ⟨b, o + i2 * 10 + 2, none⟩ = some (.int .i64 fr) := HQ.out 2 _ rfl; have n3 : w16.cell? ⟨b, o + i2 * 10 + 3, none⟩ = some (.int .i64 kv) := HQ.out 3 _ rfl; have n4 : w16.cell? ⟨b, o + i2 * 10 + 4, none⟩ = some (.int .i64 kn) := HQ.out 4 _ rfl; have n5 : w16.cell? ⟨b, o + i2 * 10 + 5, none⟩ = some (.int .i64 kb) := HQ.out 5 _ rfl; have n6 : w16.cell? ⟨b, o + i2 * 10 + 6, none⟩ = some (.string ks) := HQ.out 6 _ rfl; have n7 : w16.cell? ⟨b, o + i2 * 10 + 7, none⟩ = some (.slice ap es.length ac) := HQ.out 7 _ rfl; have n8 : w16.cell? ⟨b, o + i2 * 10 + 8, none⟩ = some (.int .i64 fl) := HQ.out 8 _ rfl; have n9 : w16.cell? ⟨b, o + i2 * 10 + 9, none⟩ = some (.slice r l c) := HQ.out 9 _ rfl; clear hj hbw HC HQ) | (go_at_call 11; refine HC2.out.mono ?_; rintro e w17 ⟨rfl, hj, hbw⟩; have HJ17 := hid_in hj.swap; have HB17 := hid_in (hbw w HB16.out.size HB16.out); have HK := hid_in HJ17.out.left.kept; simp only [Kt.val] at HK; clear hj hbw HC2) | (go_at_call 12; refine HK.out.mono ?_; rintro e w18 ⟨v, rfl, hes, hb⟩; obtain ⟨vp2, vc2, rfl, _, _⟩ := hes.form; have HE18 := hid_in hes; have HJ18 := hid_in (HJ17.out.below hb); have HB18 := hid_in (HB17.out.trans (hb.mono HB17.out.size)); have HK2 := hid_in HJ18.out.swap.left.kept; simp only [Kt.val] at HK2; clear hes hb HK) | (go_at_call 12; refine HK2.out.mono ?_; rintro e w19 ⟨v, rfl, hes, hb⟩; obtain ⟨vp3, vc3, rfl, _, _⟩ := hes.form; have HJ19 := hid_in (HJ18.out.below hb); have HB19 := hid_in (HB18.out.trans (hb.mono HB18.out.size)); have HSM := hid_in (same_any ⟨qv, qn, qb, qs, qe⟩ ⟨qv, qn, qb, qs, qe⟩ _ _ w19 (HE18.out.below hb) hes); rw [sameK_self] at HSM; simp only [Kt.val] at HSM; clear hes hb HK2) | (go_at_call 14; refine HSM.out.mono ?_; rintro e w20 ⟨rfl, hb⟩; have HJ20 := hid_in (HJ19.out.below hb); have HB20 := hid_in (HB19.out.trans (hb.mono HB19.out.size)); clear hb HSM))
              all_goals
                go_wp2_with fail
                exact ⟨⟨i2 + 1, ⟨qv, qn, qb, qs, qe⟩, by have := HGO.out; omega, by go_num, by rw [HAM, HAN]; exact HJ20, HB20⟩, by have := HGO.out; simp [intOf]; omega⟩
            · have HN2 := HM.out
              have hi1 : ¬ (i2 : Int) < (ya.length : Int) := by omega
              have hi2 : (i2 : Int) ≤ 30 := by omega
              obtain ⟨N, hNb, hJN⟩ : ∃ N, N ≤ 100000000 ∧ Hid (J1 wr C y h N k) := ⟨262152 + i2 * 262152, by omega, hJ.out.swap.left⟩
              obtain ⟨kv, kn, kb, ks, ke⟩ := k
              have HO := hid_in (hJN.out.reopen hNb)
              unfold Opn2 at HO
              simp only [Kt.val] at HO
              clear hJ hi hgo HN2 hJN
              go_upto_region 22 with (first | (go_at_call 9; refine HO.out.mono ?_; rintro e w21 ⟨z, v, rfl, hes, hj, hk⟩; obtain ⟨vp, vc, rfl, _, _⟩ := hes.form; have HJ21 := hid_in hj; have HB21 := hid_in (hk w w.heap.size HSC.out hB.out); have HE21 := hid_in hes; clear hj hk hes HO))
              obtain ⟨W22, H22, R22, B22, S22⟩ := row_new w21 [.int .i64 kv, .int .i64 kn, .int .i64 kb, .string ks, .slice vp ke.length vc] 30
              refine wp_world H22.out ?_
              have HDR := hid_in ((Below.refl W22.heap.size W22).drew)
              have HB22 := hid_in ((HB21.out.trans (B22.out.mono HB21.out.size)).drew)
              have HJ22 := hid_in ((HJ21.out.below B22.out).below HDR.out)
              have HE22 := hid_in ((HE21.out.below B22.out).below HDR.out)
              have RD := hid_in (R22.out.below HDR.out R22.out.lt)
              have HK := hid_in HJ22.out.kept
              simp only [Kt.val] at HK
              have x0 : W22.cell? ⟨w21.heap.size, 0, none⟩ = some (.int .i64 kv) := R22.out.cell 0
              have x1 : W22.cell? ⟨w21.heap.size, 1, none⟩ = some (.int .i64 kn) := R22.out.cell 1
              have x2 : W22.cell? ⟨w21.heap.size, 2, none⟩ = some (.int .i64 kb) := R22.out.cell 2
              have x3 : W22.cell? ⟨w21.heap.size, 3, none⟩ = some (.string ks) := R22.out.cell 3
              have x4 : W22.cell? ⟨w21.heap.size, 4, none⟩ = some (.slice vp ke.length vc) := R22.out.cell 4
              go_region_with (first | (go_at_call 12; refine HK.out.mono ?_; rintro e w23 ⟨v, rfl, hes, hb⟩; obtain ⟨vp2, vc2, rfl, _, _⟩ := hes.form; have HB23 := hid_in (HB22.out.trans (hb.mono HB22.out.size)); have HR23 := hid_in (RD.out.below hb RD.out.lt); have HSM := hid_in (same_any ⟨kv, kn, kb, ks, ke⟩ ⟨kv, kn, kb, ks, ke⟩ _ _ w23 (HE22.out.below hb) hes); rw [sameK_self] at HSM; simp only [Kt.val] at HSM; have z0 : w23.cell? ⟨w21.heap.size, 0, none⟩ = some (.int .i64 kv) := HR23.out.cell 0; have z1 : w23.cell? ⟨w21.heap.size, 1, none⟩ = some (.int .i64 kn) := HR23.out.cell 1; have z2 : w23.cell? ⟨w21.heap.size, 2, none⟩ = some (.int .i64 kb) := HR23.out.cell 2; have z3 : w23.cell? ⟨w21.heap.size, 3, none⟩ = some (.string ks) := HR23.out.cell 3; have z4 : w23.cell? ⟨w21.heap.size, 4, none⟩ = some (.slice vp ke.length vc) := HR23.out.cell 4; clear hes hb HK) | (go_at_call 14; refine HSM.out.mono ?_; rintro e w24 ⟨rfl, hb⟩; have HB24 := hid_in (HB23.out.trans (hb.mono HB23.out.size)); clear hb HSM))
              all_goals
                go_wp2_with fail
                go_ret
                exact ⟨rfl, HB24.out⟩
end Go.Proofs.Ytjjofjnhhajjjaa.Jr
