/-
  JournalLasts' walk.
-/
import Derived.Laws.Tables
import Derived.OwnWalk
import Derived.Deep.CutRange
import Derived.Laws.CopyOwn
import Derived.Deep.RegionLaw
import Derived.Deep.DrawnRows
import Derived.Laws.StructEq
import Derived.Lib.SlBytesConst
import Derived.Test.YtjjofjnhhajjjaaC00
import Derived.Test.YtjjofjnhhajjjaaC01
import Derived.Test.YtjjofjnhhajjjaaC02
import Derived.Test.YtjjofjnhhajjjaaC03
import Derived.Test.YtjjofjnhhajjjaaC04
import Derived.Test.YtjjofjnhhajjjaaC05
import Derived.Test.YtjjofjnhhajjjaaC06
import Derived.Test.YtjjofjnhhajjjaaC07
import Derived.Test.YtjjofjnhhajjjaaC08
import Derived.Test.YtjjofjnhhajjjaaC09
import Derived.Test.YtjjofjnhhajjjaaC10
import Derived.Test.YtjjofjnhhajjjaaC11
import Derived.Test.YtjjofjnhhajjjaaC12
import Derived.Test.YtjjofjnhhajjjaaC13
import Derived.Test.YtjjofjnhhajjjaaC14
import Derived.Test.YtjjofjnhhajjjaaC15
import Derived.Test.YtjjofjnhhajjjaaC16
import Derived.Test.YtjjofjnhhajjjaaC17
import Derived.Test.YtjjofjnhhajjjaaC18
import Derived.Test.YtjjofjnhhajjjaaC19
import Derived.Test.YtjjofjnhhajjjaaC20
import Derived.Test.YtjjofjnhhajjjaaC21
import Derived.Test.YtjjofjnhhajjjaaC22
import Derived.Test.YtjjofjnhhajjjaaC23
import Derived.Test.YtjjofjnhhajjjaaC24
import Derived.Test.YtjjofjnhhajjjaaC25
import Derived.Test.YtjjofjnhhajjjaaC26
import Derived.Test.YtjjofjnhhajjjaaC27
import Derived.Test.YtjjofjnhhajjjaaC28
import Derived.Test.YtjjofjnhhajjjaaC29
import Derived.Test.YtjjofjnhhajjjaaC30
import Derived.Test.YtjjofjnhhajjjaaC31
import Derived.Test.YtjjofjnhhajjjaaC32
import Derived.Test.YtjjofjnhhajjjaaC33
import Derived.Test.YtjjofjnhhajjjaaC34
import Derived.Test.YtjjofjnhhajjjaaC35
import Derived.Test.YtjjofjnhhajjjaaC36
import Derived.Test.YtjjofjnhhajjjaaC37
import Derived.Test.YtjjofjnhhajjjaaC38
import Derived.Test.YtjjofjnhhajjjaaC39
namespace Go.Proofs.Ytjjofjnhhajjjaa.Jr
open Go.RowKit
open Nd (Row wp_world post_Row grownBy_setCell grownBy_trans below_of_grown u8v Grew Sl hid_in i64r bytesS str)
open Pt (Ar Dk PtV FS Sub Stp liv arOf bytesOf)
set_option maxHeartbeats 8000000 in
set_option maxRecDepth 100000 in
theorem lasts_S (w : World) (v1 : Value) (xa : List Ac) (h1 : Acs w v1 xa) (l1 : ∀ a ∈ xa, a.k.ents.length ≤ 100000000) (k1 : ∀ a ∈ xa, Kin w a.keep a.ks) (hx : xa.length ≤ 40) :
    Calls Try.prog 3 #[v1] w fun e w' => e = .returned (.bool true) ∧ Below w.heap.size w w' := by
  obtain ⟨p, pc, rfl, hc1, hc2⟩ := h1.form
  have HX := hid_in h1
  have HLX := hid_in l1
  have HKX := hid_in k1
  have hxn : (xa.length : Int) ≤ 9223372036854775807 := by omega
  have HAW := hid_in (awake_any w)
  have HF1 := hid_in (fun W (hb : Below w.heap.size w W) => fitsA xa _ W (h1.below hb))
  clear h1 l1 k1 hc1 hc2
  go_enter Try.func3, Try.ntmps3
  go_upto_region 3 with (first | (go_at_call 6; refine HAW.out.mono ?_; rintro e w1 ⟨rfl, hb⟩; have HB1 := hid_in hb; have HFA := hid_in (HF1.out w1 hb); clear hb HF1 HAW))
  go_cut [25] from 23 to 25 (fun x W => ∃ b : Bool, x = .bool b ∧ Hid (Below w.heap.size w W))
  case first =>
    go_wp2_with (first | (go_at_call 7; refine HFA.out.mono ?_; rintro e w2 ⟨b, rfl, hb⟩; have HB2 := hid_in (HB1.out.trans (hb.mono HB1.out.size)); clear hb HFA))
    go_meet
    exact ⟨_, rfl, HB2⟩
  case rest =>
    obtain ⟨b, rfl, HB2⟩ := hcut
    cases b with
    | true =>
      go_wp2_with fail
      go_ret
      exact ⟨rfl, HB2.out⟩
    | false =>
      have HNEW := hid_in (Pt.new_any wc)
      go_upto_region 7 with (first | (go_at_call 8; refine HNEW.out.mono ?_; rintro e w3 ⟨g, rfl, hp, hb⟩; have HP := hid_in hp; have HB3 := hid_in hb; have HC9 := hid_in (open_clone (A := w.heap.size) hp ⟨JD.new, rfl⟩ Lim.new (by decide)); clear hp hb HNEW) | (go_at_call 9; refine HC9.out.mono ?_; intro e w4 ho; obtain ⟨j, vp, vc, rfl, hev, hJ, hst⟩ := Op1.zero ho; have HJ4 := hid_in hJ; have HE4 := hid_in hev; have HB4 := hid_in (hst.1 HB2.out.size w (HB2.out.trans (HB3.out.mono HB2.out.size))); clear ho hev hJ hst HC9 HP))
      obtain ⟨W5, H5, R5, B5, S5⟩ := row_new w4 [.int .i64 0, .int .i64 0, .int .i64 0, .string ⟨#[]⟩, .slice vp 0 vc] 30
      refine wp_world H5.out ?_
      have HJ5 := hid_in (HJ4.out.below B5.out)
      have HE5 := hid_in (HE4.out.below B5.out)
      have HB5 := hid_in (HB4.out.trans (B5.out.mono HB4.out.size))
      have HWB : Hid (w.heap.size ≤ wc.heap.size) := hid_in HB2.out.size
      have HZW : Hid (w.heap.size ≤ w4.heap.size) := hid_in HB4.out.size
      clear HJ4 HE4 HB4 B5 S5 HB3 HB2
      generalize wc.heap.size = B at *
      generalize w4.heap.size = Z5 at *
      go_wp2_with fail
      go_loopw [4, 7] (fun vj vi W => ∃ (i j : Nat) (k : Kt) (v : Value), i ≤ xa.length ∧ vj = .pointer (some ⟨j, 0, none⟩) ∧ vi = .int .i64 (i : Int) ∧ Hid (JL W B j g (i * 524304) k) ∧ Hid (Row W Z5 (k.cells v) 30) ∧ Hid (Et W v k.ents) ∧ Hid (Below w.heap.size w W)) (fun _ vi _ => xa.length - (intOf vi).toNat)
      case atStart => exact ⟨0, j, zeroK, _, by omega, rfl, rfl, by simpa using HJ5, R5, HE5, HB5⟩
      case round =>
        obtain ⟨i, j2, k, v, hi, rfl, rfl, hJ, hR, hE, hB⟩ := hrel
        by_cases hgo : i < xa.length
        · have hlt : i < xa.length := by omega
          have hi1 : (i : Int) < (xa.length : Int) := by omega
          have hi2 : (i : Int) < 40 := by omega
          have HOKw : Hid (Ac.ok w xa[i]) := by obtain ⟨_, _, _, _, h⟩ := HX.out.at hlt; exact h
          obtain ⟨b, o, rfl, hm, hok⟩ := (HX.out.below hB.out).at hlt
          have hlen := HLX.out _ (List.getElem_mem hlt)
          have HKN := hid_in (HKX.out _ (List.getElem_mem hlt))
          have HGO := hid_in hgo
          obtain ⟨m, HM, hJm⟩ : ∃ m, Hid (m = i * 524304 ∧ m ≤ 20972160) ∧ Hid (JL wr B j2 g m k) := ⟨i * 524304, ⟨rfl, by omega⟩, hJ⟩
          have HOK := hid_in hok
          generalize xa[i] = a at *
          have HLN := hid_in hlen
          obtain ⟨W6, H6, R6, B6, S6⟩ := row_new wr a.cells 36
          have HCL := hid_in (hJm.out.below B6.out).clone
          have HE6 := hid_in (hE.out.below B6.out)
          have hR6 := hR.out.below B6.out hR.out.lt
          obtain ⟨kd, vw, fr, ⟨kv, kn, kb, ks, es⟩, ve, fl, kp, kks⟩ := a
          have hes := hok.es
          have hkp := hok.slice
          simp only at hes hkp
          obtain ⟨ap, ac, rfl, _, _⟩ := hes.form
          obtain ⟨r, l, c, rfl⟩ := hkp
          obtain ⟨wv, wn, wb, ws, we⟩ := k
          obtain ⟨vp2, vc2, rfl, _, _⟩ := hE.out.val.form
          simp only [Ac.cells] at H6 R6
          simp only [Kt.cells] at hR6
          have m0 : wr.cell? ⟨b, o + i * 10, none⟩ = some (.int .i64 kd) := by simpa using hm 0 _ rfl
          have m1 : wr.cell? ⟨b, o + i * 10 + 1, none⟩ = some (.int .i64 vw) := hm 1 _ rfl
          have m2 : wr.cell? ⟨b, o + i * 10 + 2, none⟩ = some (.int .i64 fr) := hm 2 _ rfl
          have m3 : wr.cell? ⟨b, o + i * 10 + 3, none⟩ = some (.int .i64 kv) := hm 3 _ rfl
          have m4 : wr.cell? ⟨b, o + i * 10 + 4, none⟩ = some (.int .i64 kn) := hm 4 _ rfl
          have m5 : wr.cell? ⟨b, o + i * 10 + 5, none⟩ = some (.int .i64 kb) := hm 5 _ rfl
          have m6 : wr.cell? ⟨b, o + i * 10 + 6, none⟩ = some (.string ks) := hm 6 _ rfl
          have m7 : wr.cell? ⟨b, o + i * 10 + 7, none⟩ = some (.slice ap es.length ac) := hm 7 _ rfl
          have m8 : wr.cell? ⟨b, o + i * 10 + 8, none⟩ = some (.int .i64 fl) := hm 8 _ rfl
          have m9 : wr.cell? ⟨b, o + i * 10 + 9, none⟩ = some (.slice r l c) := hm 9 _ rfl
          clear hm hok hes hi hgo hlt hJ hlen
          go_upto_region 13 with fail
          refine wp_world H6.out ?_
          go_upto_region 15 with (first | (go_at_call 10; refine HCL.out.mono ?_; rintro e w7 ⟨l7, x0, x1, d7, rs7, rfl, hp, hs, hl, hb⟩; have HP7 := hid_in hp; have HB7 := hid_in hb; have HC9 := hid_in (open_clone (A := W6.heap.size) hp hs hl (by have := HM.out.2; omega)); clear hp hs hl hb HCL) | (go_at_call 9; refine HC9.out.mono ?_; intro e w8 ho; obtain ⟨y, yp, yc, rfl, hev, hj8, hst⟩ := Op1.form ho; have HJ8 := hid_in hj8; have HB8 := hid_in (hst.1 (Nat.le_refl _) W6 HB7.out); clear ho hev hj8 hst HC9))
          obtain ⟨W9, H9, R9, B9, S9⟩ := row_new w8 [.int .i64 wv, .int .i64 wn, .int .i64 wb, .string ws, .slice yp we.length yc] 30
          have HB9 := hid_in (HB8.out.trans (B9.out.mono HB8.out.size))
          have hZ9 := hR6.below HB9.out hR6.lt
          have z0 : W9.cell? ⟨Z5, 0, none⟩ = some (.int .i64 wv) := hZ9.cell 0
          have z1 : W9.cell? ⟨Z5, 1, none⟩ = some (.int .i64 wn) := hZ9.cell 1
          have z2 : W9.cell? ⟨Z5, 2, none⟩ = some (.int .i64 wb) := hZ9.cell 2
          have z3 : W9.cell? ⟨Z5, 3, none⟩ = some (.string ws) := hZ9.cell 3
          have z4 : W9.cell? ⟨Z5, 4, none⟩ = some (.slice vp2 we.length vc2) := hZ9.cell 4
          refine wp_world H9.out ?_
          go_upto_region 18 with fail
          obtain ⟨W10, H10, R10, B10, S10⟩ := row_new W9 [.int .i64 wv, .int .i64 wn, .int .i64 wb, .string ws, .slice vp2 we.length vc2] 30
          refine wp_world H10.out ?_
          have HB10 := hid_in (HB9.out.trans (B10.out.mono HB9.out.size))
          have hT10 := R6.out.below HB10.out R6.out.lt
          have n0 : W10.cell? ⟨wr.heap.size, 0, none⟩ = some (.int .i64 kd) := hT10.cell 0
          have n1 : W10.cell? ⟨wr.heap.size, 1, none⟩ = some (.int .i64 vw) := hT10.cell 1
          have n2 : W10.cell? ⟨wr.heap.size, 2, none⟩ = some (.int .i64 fr) := hT10.cell 2
          have n3 : W10.cell? ⟨wr.heap.size, 3, none⟩ = some (.int .i64 kv) := hT10.cell 3
          have n4 : W10.cell? ⟨wr.heap.size, 4, none⟩ = some (.int .i64 kn) := hT10.cell 4
          have n5 : W10.cell? ⟨wr.heap.size, 5, none⟩ = some (.int .i64 kb) := hT10.cell 5
          have n6 : W10.cell? ⟨wr.heap.size, 6, none⟩ = some (.string ks) := hT10.cell 6
          have n7 : W10.cell? ⟨wr.heap.size, 7, none⟩ = some (.slice ap es.length ac) := hT10.cell 7
          have n8 : W10.cell? ⟨wr.heap.size, 8, none⟩ = some (.int .i64 fl) := hT10.cell 8
          have n9 : W10.cell? ⟨wr.heap.size, 9, none⟩ = some (.slice r l c) := hT10.cell 9
          have HB10w := hid_in (hB.out.trans ((B6.out.trans (HB10.out.mono B6.out.size)).mono hB.out.size))
          have HD := hid_in ((((HJ8.out.below B9.out).below B10.out).one).doH (A := W6.heap.size) (by have := HM.out.2; omega) _ (HOK.out.below (B6.out.trans (HB10.out.mono B6.out.size))) HLN.out)
          simp only [Ac.val] at HD
          have HNE := hid_in (okK_ne (a := (⟨kd, vw, fr, ⟨kv, kn, kb, ks, es⟩, .slice ap es.length ac, fl, .slice r l c, kks⟩ : Ac)) (k := ⟨wv, wn, wb, ws, we⟩))
          generalize hk2 : okK (⟨kd, vw, fr, ⟨kv, kn, kb, ks, es⟩, .slice ap es.length ac, fl, .slice r l c, kks⟩ : Ac) ⟨wv, wn, wb, ws, we⟩ = k2 at *
          generalize okE (⟨kd, vw, fr, ⟨kv, kn, kb, ks, es⟩, .slice ap es.length ac, fl, .slice r l c, kks⟩ : Ac) ⟨wv, wn, wb, ws, we⟩ = E2 at *
          have HK2 := hid_in hk2
          clear hk2
          obtain ⟨k2v, k2n, k2b, k2s, k2e⟩ := k2
          clear m0 m1 m2 m3 m4 m5 m6 m7 m8 m9 z0 z1 z2 z3 z4 hT10 hZ9 R9 H9 H10 H6 HP7 HB7 HJ8 R5 HE5 HJ5 H5 HB5
          go_upto_if 63 with (first | (go_at_call 11; refine HD.out.mono ?_; rintro e w11 ⟨rfl, hj, hst⟩; have hb11 := hid_in (hst.below (Nat.le_refl _) HB10.out); have hr11 := hid_in (hst.row R10.out (by decide) (by decide) (by decide)); have he11 := hid_in (hst.et (HE6.out.below HB10.out)); have hkc := hid_in hj.keptE; clear hj hst HD))
          go_cut [65] from 64 to 65 (fun x W => ∃ q c', Hid (Row W W9.heap.size [.int .i64 k2v, .int .i64 k2n, .int .i64 k2b, .string k2s, .slice q k2e.length c'] 30) ∧ Hid (Et W (.slice q k2e.length c') k2e) ∧ Hid (Below W6.heap.size W6 W))
          case first =>
            have HA9 : Hid (W6.heap.size ≤ W9.heap.size) := hid_in HB9.out.size
            by_cases hE2 : E2 = 0
            · have hb2 : (E2 == 0) = true := by rw [beq_iff_eq]; exact hE2
              clear HNE
              go_wp2_with (first | (go_at_call 12; refine hkc.out.mono ?_; rintro e w12 ⟨v12, rfl, he, hb⟩; obtain ⟨q, c', rfl, _, _⟩ := he.val.form; simp only [Kt.val]; have hb12 := hid_in (hb11.out.trans (hb.mono hb11.out.size)); have hr12 := hid_in (hr11.out.below hb hr11.out.lt); have he12 := hid_in he; clear he hb hkc hb11 hr11; have d0 := hr12.out.cell 0; have f0 := hr12.out.frozen 0; have d1 := hr12.out.cell 1; have f1 := hr12.out.frozen 1; have d2 := hr12.out.cell 2; have f2 := hr12.out.frozen 2; have d3 := hr12.out.cell 3; have f3 := hr12.out.frozen 3; have d4 := hr12.out.cell 4; have f4 := hr12.out.frozen 4; simp only [List.getElem?_cons_zero, List.getElem?_cons_succ] at d0 d1 d2 d3 d4))
              go_meet
              obtain ⟨g1, g2⟩ := row5 hr12.out (.int .i64 k2v) (.int .i64 k2n) (.int .i64 k2b) (.string k2s) (.slice q k2e.length c')
              exact ⟨q, c', g1, he12.out.set hr12.out (by decide) g2, hb12.out.grown g2 hb12.out.size (fun k e => by cases e; exact HA9.out)⟩
            · have hb2 : (E2 == 0) = false := by rw [beq_eq_false_iff_ne]; exact hE2
              have hk := HNE.out hE2
              simp only [Kt.mk.injEq] at hk
              obtain ⟨rfl, rfl, rfl, rfl, rfl⟩ := hk
              clear HNE hkc
              go_wp2_with fail
              go_meet
              exact ⟨_, _, hr11.out, he11.out, hb11.out⟩
          case rest =>
            obtain ⟨q3, c3, R13, E13, HBc⟩ := hcut
            have BWc := hid_in (hB.out.trans ((B6.out.trans (HBc.out.mono B6.out.size)).mono hB.out.size))
            have RT := hid_in (R6.out.below HBc.out R6.out.lt)
            have RZ := hid_in (hR6.below HBc.out hR6.lt)
            have EZ := hid_in (HE6.out.below HBc.out)
            have JM := hid_in (hJm.out.below (B6.out.trans (HBc.out.mono B6.out.size)))
            have HARM := hid_in (JM.out.arm (A := w.heap.size) fl HOKw.out.fail.2)
            have HZT : Hid (Z5 < wr.heap.size) := hid_in hR.out.lt
            have HTT : Hid (wr.heap.size < W9.heap.size) := hid_in (by have := HB9.out.size; have := S6.out; omega)
            generalize wr.heap.size = T8 at *
            generalize W9.heap.size = T13 at *
            clear hb11 hr11 he11 hkc hR hR6 R6 HE6 hE hJm B6 S6 B9 S9 B10 R10 S10 HB8 HB9 HB10 HB10w HBc HNE HOK n0 n1 n2 n3 n4 n5 n6 n7 n9 n8 JM hB
            have n8 : wc.cell? ⟨T8, 8, none⟩ = some (.int .i64 fl) := RT.out.cell 8
            go_upto_region 21 with (first | (go_at_call 13; refine HARM.out.mono ?_; rintro e w11 ⟨rfl, hj, hst⟩; have HJ11 := hid_in hj; have BW11 := hid_in (hst.below HWB.out BWc.out); have RT11 := hid_in (hst.row RT.out (by decide) (by decide) (by decide)); have RZ11 := hid_in (hst.row RZ.out (by decide) (by decide) (by decide)); have R1311 := hid_in (hst.row R13.out (by decide) (by decide) (by decide)); have EZ11 := hid_in (hst.et EZ.out); have E1311 := hid_in (hst.et E13.out); clear hj hst HARM))
            clear n8 RT RZ R13 EZ E13 BWc
            have n0 : w11.cell? ⟨T8, 0, none⟩ = some (.int .i64 kd) := RT11.out.cell 0
            have n1 : w11.cell? ⟨T8, 1, none⟩ = some (.int .i64 vw) := RT11.out.cell 1
            have n2 : w11.cell? ⟨T8, 2, none⟩ = some (.int .i64 fr) := RT11.out.cell 2
            have n3 : w11.cell? ⟨T8, 3, none⟩ = some (.int .i64 kv) := RT11.out.cell 3
            have n4 : w11.cell? ⟨T8, 4, none⟩ = some (.int .i64 kn) := RT11.out.cell 4
            have n5 : w11.cell? ⟨T8, 5, none⟩ = some (.int .i64 kb) := RT11.out.cell 5
            have n6 : w11.cell? ⟨T8, 6, none⟩ = some (.string ks) := RT11.out.cell 6
            have n7 : w11.cell? ⟨T8, 7, none⟩ = some (.slice ap es.length ac) := RT11.out.cell 7
            have n8 : w11.cell? ⟨T8, 8, none⟩ = some (.int .i64 fl) := RT11.out.cell 8
            have n9 : w11.cell? ⟨T8, 9, none⟩ = some (.slice r l c) := RT11.out.cell 9
            have HDO := hid_in (HJ11.out.do_ (A := w.heap.size) (by have := HM.out.2; omega) _ (HOKw.out.below BW11.out) HLN.out)
            simp only [Ac.val] at HDO
            rw [HK2.out] at HDO
            clear HJ11
            go_upto_region 22 with (first | (go_at_call 11; refine HDO.out.mono ?_; rintro e w12 ⟨E, K, dn, rfl, hj, hst⟩; have HJ12 := hid_in hj; have BW12 := hid_in (hst.below HWB.out BW11.out); have RT12 := hid_in (hst.row RT11.out (by decide) (by decide) (by decide)); have RZ12 := hid_in (hst.row RZ11.out (by decide) (by decide) (by decide)); have R1312 := hid_in (hst.row R1311.out (by decide) (by decide) (by decide)); have EZ12 := hid_in (hst.et EZ11.out); have E1312 := hid_in (hst.et E1311.out); clear hj hst HDO n0 n1 n2 n3 n4 n5 n6 n7 n8 n9 RT11 RZ11 R1311 EZ11 E1311 BW11))
            have HA0 := hid_in (HJ12.out.arm0 (A := w.heap.size))
            clear HJ12
            go_upto_region 23 with (first | (go_at_call 13; refine HA0.out.mono ?_; rintro e w13 ⟨rfl, hj, hl, hst⟩; have HJ13 := hid_in hj; have HL13 := hid_in hl; have BW13 := hid_in (hst.below HWB.out BW12.out); have RT13 := hid_in (hst.row RT12.out (by decide) (by decide) (by decide)); have RZ13 := hid_in (hst.row RZ12.out (by decide) (by decide) (by decide)); have R1313 := hid_in (hst.row R1312.out (by decide) (by decide) (by decide)); have EZ13 := hid_in (hst.et EZ12.out); have E1313 := hid_in (hst.et E1312.out); clear hj hl hst HA0 RT12 RZ12 R1312 EZ12 E1312 BW12))
            have HKP := hid_in HJ13.out.kp
            have HB0 : Hid (Below w13.heap.size w13 w13.drew) := hid_in (Below.refl _ _).drew
            go_cut [83] from 75 to 83 (fun x W => x = .bool false ∧ Hid (Below w13.heap.size w13 W))
            case first =>
              by_cases hE : E = 0
              · subst hE
                obtain ⟨hk, -⟩ := HKP.out
                rw [if_pos rfl] at hk
                subst hk
                have HKE := hid_in (HJ13.out.below HB0.out).kept
                simp only [Kt.val] at HKE
                have HSA := hid_in (fun (W : World) (v : Value) (hv : Et W v k2e) (hb : Below w13.heap.size w13 W) => same_any ⟨k2v, k2n, k2b, k2s, k2e⟩ ⟨k2v, k2n, k2b, k2s, k2e⟩ v (.slice q3 k2e.length c3) W hv.val (E1313.out.below hb).val)
                rw [sameK_self] at HSA
                simp only [Kt.val] at HSA
                have HKC : Hid (∀ W, Below w13.heap.size w13 W → W.cell? ⟨T13, 0, none⟩ = some (.int .i64 k2v) ∧ W.cell? ⟨T13, 1, none⟩ = some (.int .i64 k2n) ∧ W.cell? ⟨T13, 2, none⟩ = some (.int .i64 k2b) ∧ W.cell? ⟨T13, 3, none⟩ = some (.string k2s) ∧ W.cell? ⟨T13, 4, none⟩ = some (.slice q3 k2e.length c3)) := hid_in (fun W hb => ⟨(R1313.out.below hb R1313.out.lt).cell 0, (R1313.out.below hb R1313.out.lt).cell 1, (R1313.out.below hb R1313.out.lt).cell 2, (R1313.out.below hb R1313.out.lt).cell 3, (R1313.out.below hb R1313.out.lt).cell 4⟩)
                go_region_held3 (fun W => W.cell? ⟨T13, 0, none⟩ = some (.int .i64 k2v) ∧ W.cell? ⟨T13, 1, none⟩ = some (.int .i64 k2n) ∧ W.cell? ⟨T13, 2, none⟩ = some (.int .i64 k2b) ∧ W.cell? ⟨T13, 3, none⟩ = some (.string k2s) ∧ W.cell? ⟨T13, 4, none⟩ = some (.slice q3 k2e.length c3)) (first | (exact HKC.out _ HB0.out) | (exact HKC.out _ HB14.out) | (exact HKC.out _ HB15.out)) (first | (go_at_call 12; refine HKE.out.mono ?_; rintro e w14 ⟨v14, rfl, hev, hb⟩; have HB14 := hid_in (HB0.out.trans (hb.mono HB0.out.size)); have HE14 := hid_in hev; clear hev hb) | (go_at_call 14; refine (HSA.out _ _ HE14.out HB14.out).mono ?_; rintro e w15 ⟨rfl, hb⟩; have HB15 := hid_in (HB14.out.trans (hb.mono HB14.out.size)); clear hb))
                go_wp2_with fail
                go_meet
                exact ⟨rfl, HB15⟩
              · have hb2 : (E == 0) = false := by rw [beq_eq_false_iff_ne]; exact hE
                go_region
                go_wp2_with fail
                go_meet
                exact ⟨rfl, HB0⟩
            case rest =>
              obtain ⟨rfl, HB16⟩ := hcut
              have HJ16 := hid_in (HJ13.out.below HB16.out)
              have HL16 := hid_in (fun h => (HL13.out h).below HB16.out)
              have RT16 := hid_in (RT13.out.below HB16.out RT13.out.lt)
              have RZ16 := hid_in (RZ13.out.below HB16.out RZ13.out.lt)
              have R1316 := hid_in (R1313.out.below HB16.out R1313.out.lt)
              have EZ16 := hid_in (EZ13.out.below HB16.out)
              have E1316 := hid_in (E1313.out.below HB16.out)
              have BW16 := hid_in (BW13.out.trans (HB16.out.mono BW13.out.size))
              clear HJ13 HL13 RT13 RZ13 R1313 EZ13 E1313 BW13 HB0 HB16 HKP
              obtain ⟨⟨k3v, k3n, k3b, k3s, k3e⟩, HK3⟩ : ∃ k3 : Kt, Hid ((if E = 0 then (⟨k2v, k2n, k2b, k2s, k2e⟩ : Kt) else ⟨wv, wn, wb, ws, we⟩) = k3) := ⟨_, hid_in rfl⟩
              rw [HK3.out] at HL16
              go_upto_if 85 with fail
              go_cut [86] from 86 to 86 (fun x W => ∃ q c', Hid (Row W Z5 [.int .i64 k3v, .int .i64 k3n, .int .i64 k3b, .string k3s, .slice q k3e.length c'] 30) ∧ Hid (Et W (.slice q k3e.length c') k3e) ∧ Hid (JA W B j2 g (m + 262152) E K ⟨wv, wn, wb, ws, we⟩ ⟨k2v, k2n, k2b, k2s, k2e⟩ dn) ∧ Hid (dn = false → JL W B j2 g (m + 262152) ⟨k3v, k3n, k3b, k3s, k3e⟩) ∧ Hid (Row W T13 [.int .i64 k2v, .int .i64 k2n, .int .i64 k2b, .string k2s, .slice q3 k2e.length c3] 30) ∧ Hid (Et W (.slice q3 k2e.length c3) k2e) ∧ Hid (Row W T8 [.int .i64 kd, .int .i64 vw, .int .i64 fr, .int .i64 kv, .int .i64 kn, .int .i64 kb, .string ks, .slice ap es.length ac, .int .i64 fl, .slice r l c] 36) ∧ Hid (Below w.heap.size w W))
              case first =>
                by_cases hE : E = 0
                · have hb2 : (E == 0) = true := by rw [beq_iff_eq]; exact hE
                  have hk := HK3.out
                  rw [if_pos hE] at hk
                  simp only [Kt.mk.injEq] at hk
                  obtain ⟨rfl, rfl, rfl, rfl, rfl⟩ := hk
                  clear hE
                  have d0 := RZ16.out.cell 0
                  have f0 := RZ16.out.frozen 0
                  have g0 := R1316.out.cell 0
                  have d1 := RZ16.out.cell 1
                  have f1 := RZ16.out.frozen 1
                  have g1 := R1316.out.cell 1
                  have d2 := RZ16.out.cell 2
                  have f2 := RZ16.out.frozen 2
                  have g2 := R1316.out.cell 2
                  have d3 := RZ16.out.cell 3
                  have f3 := RZ16.out.frozen 3
                  have g3 := R1316.out.cell 3
                  have d4 := RZ16.out.cell 4
                  have f4 := RZ16.out.frozen 4
                  have g4 := R1316.out.cell 4
                  simp only [List.getElem?_cons_zero, List.getElem?_cons_succ] at d0 d1 d2 d3 d4 g0 g1 g2 g3 g4
                  go_wp2_with fail
                  go_meet
                  obtain ⟨h1, h2⟩ := row5 RZ16.out (.int .i64 k2v) (.int .i64 k2n) (.int .i64 k2b) (.string k2s) (.slice q3 k2e.length c3)
                  exact ⟨_, _, h1, E1316.out.set RZ16.out (by decide) h2, HJ16.out.set RZ16.out h2, fun h => (HL16.out h).set RZ16.out h2, R1316.out.grown h2 (fun e => by have h3 := Option.some.inj e; have := HZT.out; have := HTT.out; omega), E1316.out.set RZ16.out (by decide) h2, RT16.out.grown h2 (fun e => by have h3 := Option.some.inj e; have := HZT.out; omega), BW16.out.grown h2 BW16.out.size (fun k e => by cases e; exact HZW.out)⟩
                · have hb2 : (E == 0) = false := by rw [beq_eq_false_iff_ne]; exact hE
                  have hk := HK3.out
                  rw [if_neg hE] at hk
                  simp only [Kt.mk.injEq] at hk
                  obtain ⟨rfl, rfl, rfl, rfl, rfl⟩ := hk
                  clear hE
                  go_wp2_with fail
                  go_meet
                  exact ⟨_, _, RZ16, EZ16, HJ16, HL16, R1316, E1316, RT16, BW16⟩
              case rest =>
                obtain ⟨q5, c5, RZ, EZ, HJ, HL, R13, E13, RT, BW⟩ := hcut
                clear HJ16 HL16 RT16 RZ16 R1316 EZ16 E1316 BW16
                have n0 : wc.cell? ⟨T8, 0, none⟩ = some (.int .i64 kd) := RT.out.cell 0
                have HDW := hid_in HJ.out.down
                go_upto_region 27 with fail
                go_cut [96] from 87 to 96 (fun x W => ∃ bb : Bool, x = .bool bb ∧ Hid (bb = true → dn = false) ∧ W = wc)
                case first =>
                  cases dn with
                  | true =>
                    go_wp2_with (first | (go_at_call 15; refine HDW.out.mono ?_; rintro e w17 ⟨rfl, rfl⟩))
                    go_meet
                    exact ⟨false, rfl, (by first | exact (fun h => (by cases h)) | exact trivial), (by first | rfl | trivial)⟩
                  | false =>
                    go_wp2_with (first | (go_at_call 15; refine HDW.out.mono ?_; rintro e w17 ⟨rfl, rfl⟩))
                    go_meet
                    exact ⟨_, rfl, (by first | exact (fun _ => rfl) | exact trivial | exact (fun _ => trivial)), (by first | rfl | trivial)⟩
                case rest =>
                  obtain ⟨bb, rfl, hbb, rfl⟩ := hcut
                  clear HDW
                  cases bb with
                  | true =>
                    have HLL := hid_in (HL.out (hbb.out rfl))
                    clear n0 hbb HL HJ
                    go_wp2_with fail
                    go_roundw
                    case rel => exact ⟨i + 1, j2, ⟨k3v, k3n, k3b, k3s, k3e⟩, _, by have := HGO.out; omega, rfl, by go_num, hid_in (HLL.out.mono (by have := HM.out.1; omega)), RZ, EZ, BW⟩
                    case measure => simp [intOf]; have := HGO.out; omega
                  | false =>
                    clear n0 hbb HL
                    have n9 : wc.cell? ⟨T8, 9, none⟩ = some (.slice r l c) := RT.out.cell 9
                    have HCUT := hid_in (HJ.out.cut (A := w.heap.size) (.slice r l c) kks HKN.out BW.out HWB.out)
                    rw [HK3.out] at HCUT
                    clear HJ
                    go_upto_region 29 with (first | (go_at_call 16; refine HCUT.out.mono ?_; rintro e w17 ⟨rfl, hj, hst⟩; have HJC := hid_in hj; have BW17 := hid_in (hst.below HWB.out BW.out); have RZ17 := hid_in (hst.row RZ.out (by decide) (by decide) (by decide)); have R1317 := hid_in (hst.row R13.out (by decide) (by decide) (by decide)); have EZ17 := hid_in (hst.et EZ.out); have E1317 := hid_in (hst.et E13.out); clear hj hst HCUT n9 RT RZ R13 EZ E13 BW))
                    have HOP := hid_in (HJC.out.open_ (A := w.heap.size) (by have := HM.out.2; omega))
                    clear HJC
                    go_upto_region 30 with (first | (go_at_call 9; refine HOP.out.mono ?_; intro e w18 ho; obtain ⟨y2, ⟨pv, pn, pb, ps, pe⟩, v18, rfl, hev, hP, hj, hst⟩ := ho; obtain ⟨q18, c18, rfl, _, _⟩ := hev.val.form; simp only [Kt.val]; have HP18 := hid_in hP; have EF18 := hid_in hev; have HJ18 := hid_in hj; have BW18 := hid_in (hst.below HWB.out BW17.out); have RZ18 := hid_in (hst.row RZ17.out (by decide) (by decide) (by decide)); have R1318 := hid_in (hst.row R1317.out (by decide) (by decide) (by decide)); have EZ18 := hid_in (hst.et EZ17.out); have E1318 := hid_in (hst.et E1317.out); clear hev hP hj hst HOP RZ17 R1317 EZ17 E1317 BW17))
                    obtain ⟨W19, H19, R16, B19, S19⟩ := row_new w18 [.int .i64 pv, .int .i64 pn, .int .i64 pb, .string ps, .slice q18 pe.length c18] 30
                    refine wp_world H19.out ?_
                    have BW19 := hid_in (BW18.out.trans (B19.out.mono BW18.out.size))
                    have RZ19 := hid_in (RZ18.out.below B19.out RZ18.out.lt)
                    have R1319 := hid_in (R1318.out.below B19.out R1318.out.lt)
                    have EZ19 := hid_in (EZ18.out.below B19.out)
                    have E1319 := hid_in (E1318.out.below B19.out)
                    have EF19 := hid_in (EF18.out.below B19.out)
                    have HRE := hid_in ((HJ18.out.below B19.out).reopen (A := w.heap.size) (by have := HM.out.2; omega))
                    have HZF : Hid (Z5 < w18.heap.size) := hid_in RZ18.out.lt
                    clear H19 B19 S19 BW18 RZ18 R1318 EZ18 E1318 EF18 HJ18
                    generalize w18.heap.size = T16 at *
                    go_upto_region 31 with (first | (go_at_call 9; refine HRE.out.mono ?_; rintro e w20 ⟨ho, hjl⟩; obtain ⟨y3, q20, c20, rfl, hev, -, hst⟩ := Op1.form ho; have HJ20 := hid_in hjl; have ET20 := hid_in hev; have BW20 := hid_in (hst.below HWB.out BW19.out); have RZ20 := hid_in (hst.row RZ19.out (by decide) (by decide) (by decide)); have R1320 := hid_in (hst.row R1319.out (by decide) (by decide) (by decide)); have R1620 := hid_in (hst.row R16.out (by decide) (by decide) (by decide)); have EZ20 := hid_in (hst.et EZ19.out); have E1320 := hid_in (hst.et E1319.out); have EF20 := hid_in (hst.et EF19.out); clear ho hjl hev hst HRE R16 RZ19 R1319 EZ19 E1319 EF19 BW19))
                    obtain ⟨W21, H21, R1921, B21, S21⟩ := row_new w20 [.int .i64 pv, .int .i64 pn, .int .i64 pb, .string ps, .slice q20 pe.length c20] 30
                    refine wp_world H21.out ?_
                    have BW21 := hid_in (BW20.out.trans (B21.out.mono BW20.out.size))
                    have RZ21 := hid_in (RZ20.out.below B21.out RZ20.out.lt)
                    have R1321 := hid_in (R1320.out.below B21.out R1320.out.lt)
                    have R1621 := hid_in (R1620.out.below B21.out R1620.out.lt)
                    have EZ21 := hid_in (EZ20.out.below B21.out)
                    have E1321 := hid_in (E1320.out.below B21.out)
                    have EF21 := hid_in (EF20.out.below B21.out)
                    have ET21 := hid_in (ET20.out.below B21.out)
                    have HJ21 := hid_in (HJ20.out.below B21.out)
                    clear H21 B21 S21 BW20 RZ20 R1320 R1620 EZ20 E1320 EF20 ET20 HJ20
                    generalize w20.heap.size = T19 at *
                    have HD0 : Hid (Below W21.heap.size W21 W21) := hid_in (Below.refl _ _)
                    have HS1 := hid_in (fun (W : World) (hb : Below W21.heap.size W21 W) => same_any (⟨pv, pn, pb, ps, pe⟩ : Kt) (⟨pv, pn, pb, ps, pe⟩ : Kt) (.slice q18 pe.length c18) (.slice q20 pe.length c20) W (EF21.out.below hb).val (ET21.out.below hb).val)
                    have HS2 := hid_in (fun (W : World) (hb : Below W21.heap.size W21 W) => same_any (⟨pv, pn, pb, ps, pe⟩ : Kt) (⟨k3v, k3n, k3b, k3s, k3e⟩ : Kt) (.slice q18 pe.length c18) (.slice q5 k3e.length c5) W (EF21.out.below hb).val (EZ21.out.below hb).val)
                    have HS3 := hid_in (fun (W : World) (hb : Below W21.heap.size W21 W) => same_any (⟨pv, pn, pb, ps, pe⟩ : Kt) (⟨k2v, k2n, k2b, k2s, k2e⟩ : Kt) (.slice q18 pe.length c18) (.slice q3 k2e.length c3) W (EF21.out.below hb).val (E1321.out.below hb).val)
                    rw [sameK_self] at HS1
                    simp only [Kt.val] at HS1 HS2 HS3
                    have HKC : Hid (∀ W, Below W21.heap.size W21 W → W.cell? ⟨T16, 0, none⟩ = some (.int .i64 pv) ∧ W.cell? ⟨T16, 1, none⟩ = some (.int .i64 pn) ∧ W.cell? ⟨T16, 2, none⟩ = some (.int .i64 pb) ∧ W.cell? ⟨T16, 3, none⟩ = some (.string ps) ∧ W.cell? ⟨T16, 4, none⟩ = some (.slice q18 pe.length c18) ∧ W.cell? ⟨T19, 0, none⟩ = some (.int .i64 pv) ∧ W.cell? ⟨T19, 1, none⟩ = some (.int .i64 pn) ∧ W.cell? ⟨T19, 2, none⟩ = some (.int .i64 pb) ∧ W.cell? ⟨T19, 3, none⟩ = some (.string ps) ∧ W.cell? ⟨T19, 4, none⟩ = some (.slice q20 pe.length c20) ∧ W.cell? ⟨Z5, 0, none⟩ = some (.int .i64 k3v) ∧ W.cell? ⟨Z5, 1, none⟩ = some (.int .i64 k3n) ∧ W.cell? ⟨Z5, 2, none⟩ = some (.int .i64 k3b) ∧ W.cell? ⟨Z5, 3, none⟩ = some (.string k3s) ∧ W.cell? ⟨Z5, 4, none⟩ = some (.slice q5 k3e.length c5) ∧ W.cell? ⟨T13, 0, none⟩ = some (.int .i64 k2v) ∧ W.cell? ⟨T13, 1, none⟩ = some (.int .i64 k2n) ∧ W.cell? ⟨T13, 2, none⟩ = some (.int .i64 k2b) ∧ W.cell? ⟨T13, 3, none⟩ = some (.string k2s) ∧ W.cell? ⟨T13, 4, none⟩ = some (.slice q3 k2e.length c3)) := hid_in (fun W hb => ⟨(R1621.out.below hb R1621.out.lt).cell 0, (R1621.out.below hb R1621.out.lt).cell 1, (R1621.out.below hb R1621.out.lt).cell 2, (R1621.out.below hb R1621.out.lt).cell 3, (R1621.out.below hb R1621.out.lt).cell 4, (R1921.out.below hb R1921.out.lt).cell 0, (R1921.out.below hb R1921.out.lt).cell 1, (R1921.out.below hb R1921.out.lt).cell 2, (R1921.out.below hb R1921.out.lt).cell 3, (R1921.out.below hb R1921.out.lt).cell 4, (RZ21.out.below hb RZ21.out.lt).cell 0, (RZ21.out.below hb RZ21.out.lt).cell 1, (RZ21.out.below hb RZ21.out.lt).cell 2, (RZ21.out.below hb RZ21.out.lt).cell 3, (RZ21.out.below hb RZ21.out.lt).cell 4, (R1321.out.below hb R1321.out.lt).cell 0, (R1321.out.below hb R1321.out.lt).cell 1, (R1321.out.below hb R1321.out.lt).cell 2, (R1321.out.below hb R1321.out.lt).cell 3, (R1321.out.below hb R1321.out.lt).cell 4⟩)
                    have HOR : Hid (sameK (⟨pv, pn, pb, ps, pe⟩ : Kt) (⟨k3v, k3n, k3b, k3s, k3e⟩ : Kt) = false → sameK (⟨pv, pn, pb, ps, pe⟩ : Kt) (⟨k2v, k2n, k2b, k2s, k2e⟩ : Kt) = true) := hid_in (fun h => by
                      rcases HP18.out with h1 | h1
                      · rw [h1, sameK_self] at h; cases h
                      · rw [h1, sameK_self])
                    generalize sameK (⟨pv, pn, pb, ps, pe⟩ : Kt) (⟨k3v, k3n, k3b, k3s, k3e⟩ : Kt) = sb at *
                    go_cut [136] from 113 to 136 (fun x W => x = .bool false ∧ Hid (Below W21.heap.size W21 W))
                    case first =>
                      cases sb with
                      | true =>
                        clear HS3 HOR
                        obtain ⟨a0, a1, a2, a3, a4, a5, a6, a7, a8, a9, a10, a11, a12, a13, a14, a15, a16, a17, a18, a19⟩ := HKC.out _ HD0.out
                        go_wp2_with (first | (go_at_call 14; refine (HS1.out _ HD0.out).mono ?_; rintro e w22 ⟨rfl, hb⟩; have HB22 := hid_in (HD0.out.trans (hb.mono HD0.out.size)); clear hb HS1 a0 a1 a2 a3 a4 a5 a6 a7 a8 a9 a10 a11 a12 a13 a14 a15 a16 a17 a18 a19; obtain ⟨b0, b1, b2, b3, b4, b5, b6, b7, b8, b9, b10, b11, b12, b13, b14, b15, b16, b17, b18, b19⟩ := HKC.out _ HB22.out) | (go_at_call 14; refine (HS2.out _ HB22.out).mono ?_; rintro e w23 ⟨rfl, hb⟩; have HB23 := hid_in (HB22.out.trans (hb.mono HB22.out.size)); clear hb HS2 b0 b1 b2 b3 b4 b5 b6 b7 b8 b9 b10 b11 b12 b13 b14 b15 b16 b17 b18 b19; obtain ⟨c0, c1, c2, c3, c4, c5, c6, c7, c8, c9, c10, c11, c12, c13, c14, c15, c16, c17, c18, c19⟩ := HKC.out _ HB23.out))
                        go_meet
                        exact ⟨rfl, HB23⟩
                      | false =>
                        have hs3 := HOR.out rfl
                        rw [hs3] at HS3
                        clear HOR hs3
                        obtain ⟨a0, a1, a2, a3, a4, a5, a6, a7, a8, a9, a10, a11, a12, a13, a14, a15, a16, a17, a18, a19⟩ := HKC.out _ HD0.out
                        go_wp2_with (first | (go_at_call 14; refine (HS1.out _ HD0.out).mono ?_; rintro e w22 ⟨rfl, hb⟩; have HB22 := hid_in (HD0.out.trans (hb.mono HD0.out.size)); clear hb HS1 a0 a1 a2 a3 a4 a5 a6 a7 a8 a9 a10 a11 a12 a13 a14 a15 a16 a17 a18 a19; obtain ⟨b0, b1, b2, b3, b4, b5, b6, b7, b8, b9, b10, b11, b12, b13, b14, b15, b16, b17, b18, b19⟩ := HKC.out _ HB22.out) | (go_at_call 14; refine (HS2.out _ HB22.out).mono ?_; rintro e w23 ⟨rfl, hb⟩; have HB23 := hid_in (HB22.out.trans (hb.mono HB22.out.size)); clear hb HS2 b0 b1 b2 b3 b4 b5 b6 b7 b8 b9 b10 b11 b12 b13 b14 b15 b16 b17 b18 b19; obtain ⟨c0, c1, c2, c3, c4, c5, c6, c7, c8, c9, c10, c11, c12, c13, c14, c15, c16, c17, c18, c19⟩ := HKC.out _ HB23.out) | (go_at_call 14; refine (HS3.out _ HB23.out).mono ?_; rintro e w24 ⟨rfl, hb⟩; have HB24 := hid_in (HB23.out.trans (hb.mono HB23.out.size)); clear hb HS3 c0 c1 c2 c3 c4 c5 c6 c7 c8 c9 c10 c11 c12 c13 c14 c15 c16 c17 c18 c19; obtain ⟨d0, d1, d2, d3, d4, d5, d6, d7, d8, d9, d10, d11, d12, d13, d14, d15, d16, d17, d18, d19⟩ := HKC.out _ HB24.out))
                        go_meet
                        exact ⟨rfl, HB24⟩
                    case rest =>
                      obtain ⟨rfl, HB25⟩ := hcut
                      have BW25 := hid_in (BW21.out.trans (HB25.out.mono BW21.out.size))
                      have RZ25 := hid_in (RZ21.out.below HB25.out RZ21.out.lt)
                      have R1625 := hid_in (R1621.out.below HB25.out R1621.out.lt)
                      have EF25 := hid_in (EF21.out.below HB25.out)
                      have HJ25 := hid_in (HJ21.out.below HB25.out)
                      clear HS1 HS2 HS3 HKC HOR HD0 HP18 R1921 R1321 EZ21 E1321 ET21 BW21 RZ21 R1621 EF21 HJ21
                      have d0 := RZ25.out.cell 0
                      have f0 := RZ25.out.frozen 0
                      have g0 := R1625.out.cell 0
                      have d1 := RZ25.out.cell 1
                      have f1 := RZ25.out.frozen 1
                      have g1 := R1625.out.cell 1
                      have d2 := RZ25.out.cell 2
                      have f2 := RZ25.out.frozen 2
                      have g2 := R1625.out.cell 2
                      have d3 := RZ25.out.cell 3
                      have f3 := RZ25.out.frozen 3
                      have g3 := R1625.out.cell 3
                      have d4 := RZ25.out.cell 4
                      have f4 := RZ25.out.frozen 4
                      have g4 := R1625.out.cell 4
                      simp only [List.getElem?_cons_zero, List.getElem?_cons_succ] at d0 d1 d2 d3 d4 g0 g1 g2 g3 g4
                      obtain ⟨h1, h2⟩ := row5 RZ25.out (.int .i64 pv) (.int .i64 pn) (.int .i64 pb) (.string ps) (.slice q18 pe.length c18)
                      have HR26 := hid_in h1
                      have HG26 := hid_in h2
                      clear h1 h2
                      go_wp2_with fail
                      go_roundw
                      case rel => exact ⟨i + 1, y2, ⟨pv, pn, pb, ps, pe⟩, .slice q18 pe.length c18, by have := HGO.out; omega, rfl, by go_num, hid_in ((HJ25.out.set RZ25.out HG26.out).mono (by have := HM.out.1; omega)), HR26, hid_in (EF25.out.set RZ25.out (by decide) HG26.out), hid_in (BW25.out.grown HG26.out BW25.out.size (fun k e => by cases e; exact HZW.out))⟩
                      case measure => simp [intOf]; have := HGO.out; omega
        · have hi1 : ¬ (i : Int) < (xa.length : Int) := by omega
          have hi2 : (i : Int) ≤ 40 := by omega
          clear hgo hi
          go_wp2_with fail
          go_ret
          exact ⟨rfl, hB.out⟩
end Go.Proofs.Ytjjofjnhhajjjaa.Jr
