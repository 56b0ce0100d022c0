/-
  The walk of PlatterApart: more than 40 calls, then more than 40.
-/
import Derived.Test.YtcdmdmbdgmihfaaA00
import Derived.Test.YtcdmdmbdgmihfaaA01
import Derived.Test.YtcdmdmbdgmihfaaA02
import Derived.Test.YtcdmdmbdgmihfaaA03
import Derived.Test.YtcdmdmbdgmihfaaA04
import Derived.Test.YtcdmdmbdgmihfaaA05
import Derived.Test.YtcdmdmbdgmihfaaA06
import Derived.Test.YtcdmdmbdgmihfaaA07
import Derived.Test.YtcdmdmbdgmihfaaA08
import Derived.Test.YtcdmdmbdgmihfaaA09
import Derived.Test.YtcdmdmbdgmihfaaA10
import Derived.Test.YtcdmdmbdgmihfaaA11
import Derived.Test.YtcdmdmbdgmihfaaA12
import Derived.Test.YtcdmdmbdgmihfaaA22
namespace Go.Proofs.Ytcdmdmbdgmihfaa.Pt
open Go.RowKit
open Nd (take_put Row wp_world grownBy_setCell below_of_grown grownBy_trans grown_of_below grownBy_refl u8v Grew Moved Sl hid_in i5h str)
set_option maxHeartbeats 16000000 in
set_option maxRecDepth 100000 in
theorem apart_LL (a : World) (x1 x2 : Value) (ss1 ss2 : List Cl1) (h1 : Cls a x1 ss1) (h2 : Cls a x2 ss2) (hb1 : ∀ x ∈ ss1, x.xs.length ≤ 1048576) (hb2 : ∀ x ∈ ss2, x.xs.length ≤ 1048576) (hv1 : 40 < ss1.length) (hv2 : 40 < ss2.length) :
    Calls Try.prog 6 #[x1, x2] a fun e w' => e = .returned (.bool true) ∧ Below a.heap.size a w' := by
  have HAW := hid_in (awake_any a)
  have HF1 := hid_in (fun W (x : Below a.heap.size a W) => fits_any W x1 ss1 (h1.below x))
  have HF2 := hid_in (fun W (x : Below a.heap.size a W) => fits_any W x2 ss2 (h2.below x))
  have HNW := hid_in (fun (w : World) (h : Below a.heap.size a w) => new_q h)
  obtain ⟨p1, cp1, rfl, hl1, hok1, hat1⟩ := h1.at_
  obtain ⟨p2, cp2, rfl, hl2, hok2, hat2⟩ := h2.at_
  have HAT1 := hid_in hat1
  have HOK1 := hid_in hok1
  have HBK1 := hid_in hb1
  have HAT2 := hid_in hat2
  have HOK2 := hid_in hok2
  have HBK2 := hid_in hb2
  have hM1 : (ss1.length : Int) ≤ 9223372036854775807 := by omega
  have hM2 : (ss2.length : Int) ≤ 9223372036854775807 := by omega
  have HV1 := hid_in hv1
  have HV2 := hid_in hv2
  generalize hn1 : ss1.length = M1 at *
  generalize hn2 : ss2.length = M2 at *
  have HNN1 := hid_in hn1
  have HNN2 := hid_in hn2
  obtain ⟨K1, HK1⟩ : ∃ K, Hid (K = min M1 40) := ⟨_, hid_in rfl⟩
  obtain ⟨K2, HK2⟩ : ∃ K, Hid (K = min M2 40) := ⟨_, hid_in rfl⟩
  clear h1 h2 hat1 hat2 hl1 hl2 hn1 hn2 hok1 hok2 hb1 hb2 hv1 hv2
  go_enter Try.func6, Try.ntmps6
  go_upto_region 3 with (first | (go_at_call 7; refine HAW.out.mono ?_; rintro e w1 ⟨rfl, hb1⟩; have HB1 := hid_in hb1; clear hb1))
  have HF1a := hid_in (HF1.out _ HB1.out)
  have HF2a := hid_in (HF2.out _ HB1.out)
  clear HF1 HF2
  go_upto_region 5 with (first | (go_at_call 8; refine HF1a.out.mono ?_; clear HF1a; rintro e w2 ⟨⟨ft, rfl⟩, rfl⟩; rcases ft with _ | _) | (go_at_call 8; refine HF2a.out.mono ?_; clear HF2a; rintro e w2 ⟨⟨ft, rfl⟩, rfl⟩; rcases ft with _ | _))
  · go_wp2_with fail
    go_ret
    exact ⟨rfl, HB1.out⟩
  · go_wp2_with fail
    go_ret
    exact ⟨rfl, HB1.out⟩
  · have hid2 := True.intro
    clear hid2
    · go_upto_region 6 with (first | (go_at_call 9; refine (HNW.out _ HB1.out).mono ?_; rintro e w3 ⟨g, rfl, q3⟩; have Q3 := hid_in q3; clear q3))
      obtain ⟨w4, HW4⟩ : ∃ w4, Hid (w3.alloc (.cells #[.string ⟨#[]⟩, .string ⟨#[]⟩, .int .i64 0, .int .i64 0, .int .i64 0, .int .i64 0, .bool false] 31) = w4) := ⟨_, hid_in rfl⟩
      have HR4 : Hid (Row w4 w3.heap.size (rcells newD) 31) := hid_in (by rw [← HW4.out]; exact Row.new w3 (rcells newD) 31)
      have HB34 : Hid (Below w3.heap.size w3 w4) := hid_in (by rw [← HW4.out]; exact (Below.refl _ _).alloc (Nat.le_refl _) _)
      have HRA : Hid (a.heap.size ≤ w3.heap.size) := hid_in Q3.out.1.size
      have HST : Hid (Pl a g w3.heap.size 0 w4) := hid_in (by
        obtain ⟨h1, v0, v1, h2⟩ := Q3.out
        exact ⟨newD, ⟨v0, v1, h2.below HB34.out⟩, HR4.out, h1.trans (HB34.out.mono h1.size), by decide⟩)
      go_upto_region 9 with fail
      refine wp_world HW4.out ?_
      generalize w3.heap.size = r at *
      clear HR4 HB34 HW4 Q3
      go_wp2_with fail
      go_loopw [7] (fun vi W => ∃ i : Nat, i ≤ K1 ∧ vi = .int .i64 (i : Int) ∧ Hid (Pl a g r (0 + i * 1048576) W)) (fun vi _ => K1 - (intOf vi).toNat)
      case atStart => exact ⟨0, by omega, rfl, by rw [Nat.zero_mul]; exact HST.out⟩
      case round =>
        obtain ⟨i, hi, rfl, hst⟩ := hrel
        by_cases hlt : i < K1
        · have hj1 : (i : Int) < (M1 : Int) := by have := HK1.out; omega
          have hj2 : (i : Int) < 40 := by have := HK1.out; omega
          have HLT := hid_in hlt
          have hlo : i < ss1.length := by rw [HNN1.out]; have := HK1.out; omega
          obtain ⟨b, o, hpp, hcs⟩ := HAT1.out (by intro e; rw [e] at hlo; simp at hlo)
          obtain ⟨x, hx⟩ : ∃ x, ss1[i]? = some x := ⟨_, List.getElem?_eq_getElem hlo⟩
          have hmem : x ∈ ss1 := List.mem_of_getElem? hx
          have HXO := hid_in (HOK1.out x hmem)
          have HXL := hid_in (HBK1.out x hmem)
          have HCS := hid_in (fun W (hW : Below a.heap.size a W) => hcs W hW i x hx)
          obtain ⟨kd, A, bv, n, kv, xs, ks⟩ := x
          have HCS : Hid (∀ W, Below a.heap.size a W → W.rangeAt b (o + i * 5) [.int .i64 kd, .int .i64 A, bv, .int .i64 n, kv]) := HCS
          have HXL : Hid (xs.length ≤ 1048576) := HXL
          have HN : Hid (n ≤ 9223372036854775807) := hid_in HXO.out.n
          have HKC : Hid (∀ W, Below a.heap.size a W → W.cell? ⟨b, o + i * 5, none⟩ = some (.int .i64 kd) ∧ W.cell? ⟨b, o + i * 5 + 1, none⟩ = some (.int .i64 A) ∧ W.cell? ⟨b, o + i * 5 + 2, none⟩ = some bv ∧ W.cell? ⟨b, o + i * 5 + 3, none⟩ = some (.int .i64 n) ∧ W.cell? ⟨b, o + i * 5 + 4, none⟩ = some kv) := hid_in (fun W hW => ⟨HCS.out W hW 0 _ rfl, HCS.out W hW 1 _ rfl, HCS.out W hW 2 _ rfl, HCS.out W hW 3 _ rfl, HCS.out W hW 4 _ rfl⟩)
          subst hpp
          obtain ⟨d, ⟨v0, v1, hp⟩, hr, hb, hmx⟩ := hst.out
          have HP := hid_in hp
          have HB := hid_in hb
          have HR := hid_in hr
          have HOKD := hid_in hp.ok
          have HLX : Hid ((arOf A d).bs.length + xs.length ≤ 140737488355328) := hid_in (by
            have h1 := mx_ar (a := A) (d := d)
            have h2 := HXL.out
            have h4 : i * 1048576 ≤ 100 * 1048576 := Nat.mul_le_mul_right _ (by have := HK1.out; omega)
            omega)
          have HMX : Hid (mx (doD (kmod kd) A xs n ks d) ≤ 0 + (i + 1) * 1048576) := hid_in (by
            have h1 := mx_do (kmod kd) A xs n ks d
            have h2 := HXL.out
            rw [Nat.add_mul]
            omega)
          have HDO : Hid (Calls Try.prog 10 #[.pointer (some ⟨g, 0, none⟩), .agg #[.int .i64 kd, .int .i64 A, bv, .int .i64 n, kv]] wr fun e w' => e = .returned (.int .i64 (doE (kmod kd) A d)) ∧ Stp wr w' a.heap.size g v0 v1 (doD (kmod kd) A xs n ks d)) := hid_in (do_any hp ⟨kd, A, bv, n, kv, xs, ks⟩ (HXO.out.sl hb) HLX.out HN.out (HXO.out.kp hb _ (fun k hk => (hp.fs_lt k hk).1)))
          obtain ⟨k0, k1, k2, k3, k4⟩ := HKC.out wr hb
          clear hlo hcs hx hmem hp hr hb hmx hst hlt hi
          go_upto_region 13 with (first | (go_at_call 10; refine HDO.out.mono ?_; rintro e w5 ⟨rfl, hs5⟩; have HS5 := hid_in hs5; clear hs5))
          have HB5 := hid_in (Stp.after HP.out HB.out HS5.out)
          have HR5 := hid_in (Stp.row HP.out HS5.out HR.out (by decide) (by decide))
          obtain ⟨u0, u1, hp5, -, -⟩ := HS5.out
          have HP5 := hid_in hp5
          have HRDO := hid_in (rdo_any HR5.out HOKD.out kd A n bv kv HN.out xs (HXO.out.cv HB5.out HRA.out) HLX.out ks (HXO.out.kp HB5.out (fun k => some k = some r) (fun k hk => by cases hk; exact HRA.out)))
          clear hp5 k0 k1 k2 k3 k4
          obtain ⟨k0, k1, k2, k3, k4⟩ := HKC.out w5 HB5.out
          go_wp2_with (first | (go_at_call 11; refine HRDO.out.mono ?_; rintro e w6 ⟨rfl, hr6, hg6⟩; have HR6 := hid_in hr6; have HP6 := hid_in (HP5.out.keep (Grew.of_grown hg6) (fun k hk e => HP5.out.typed HR5.out (by decide) (by decide) (by cases e; exact hk))); have HB6 := hid_in (below_of_grown HB5.out hg6 HB5.out.size HRA.out); clear hr6 hg6))
          exact ⟨⟨i + 1, by have := HLT.out; omega, by go_num, _, ⟨_, _, HP6.out⟩, HR6.out, HB6.out, HMX.out⟩, by have := HLT.out; simp [intOf]; omega⟩
        · have HI40 : Hid (i ≤ 40) := hid_in (by have := HK1.out; omega)
          have hj1 : (i : Int) < (M1 : Int) := by have := HK1.out; have := HV1.out; omega
          have hj2 : ¬ (i : Int) < 40 := by have := HK1.out; have := HV1.out; omega
          clear hlt hi
          obtain ⟨d1, ⟨v0, v1, hp⟩, hr, hb, hmx⟩ := hst.out
          have HCL := hid_in (pclone_any hp)
          have HP := hid_in hp
          have HR := hid_in hr
          have HB := hid_in hb
          have HM1 : Hid (mx d1 ≤ 41943040) := hid_in (by
            have h4 : (i) * 1048576 ≤ 40 * 1048576 := Nat.mul_le_mul_right _ HI40.out
            omega)
          clear hp hr hb hmx hst
          go_upto_region 15 with (first | (go_at_call 23; refine HCL.out.mono ?_; intro e w5 hc5; obtain ⟨l, rfl, ht5, hb5⟩ := two_new HB.out HP.out hc5; have HT5 := hid_in ht5; have HB5 := hid_in hb5; clear ht5 hb5 hc5))
          have HBB5 := hid_in (HB.out.trans (HB5.out.mono HB.out.size))
          have HR5 := hid_in (HR.out.below HB5.out HR.out.lt)
          have c0 := HR5.out.cell 0
          have c1 := HR5.out.cell 1
          have c2 := HR5.out.cell 2
          have c3 := HR5.out.cell 3
          have c4 := HR5.out.cell 4
          have c5 := HR5.out.cell 5
          have c6 := HR5.out.cell 6
          simp only [rcells, List.getElem?_cons_succ, List.getElem?_cons_zero] at c0 c1 c2 c3 c4 c5 c6
          go_upto_region 16 with fail
          obtain ⟨w6, HW6⟩ : ∃ w6, Hid (w5.alloc (.cells (rcells d1).toArray 31) = w6) := ⟨_, hid_in rfl⟩
          have HB56 : Hid (Below w5.heap.size w5 w6) := hid_in (by rw [← HW6.out]; exact (Below.refl _ _).alloc (Nat.le_refl _) _)
          have HQ6 : Hid (Row w6 w5.heap.size (rcells d1) 31) := hid_in (by rw [← HW6.out]; exact Row.new w5 _ 31)
          have HQR : Hid (w5.heap.size ≠ r) := hid_in (by have := HR5.out.lt; omega)
          have HQA : Hid (a.heap.size ≤ w5.heap.size) := hid_in HBB5.out.size
          have HST2 : Hid (Qa a g l r w5.heap.size (mx d1 + 0 * 1048576) d1 w6) := hid_in ⟨d1, HT5.out.below HB56.out, HR5.out.below HB56.out HR5.out.lt, HQ6.out, HBB5.out.trans (HB56.out.mono HBB5.out.size), by omega⟩
          refine wp_world HW6.out ?_
          clear c0 c1 c2 c3 c4 c5 c6 HW6 HB56 HQ6 HT5 HB5 HBB5 HR5 HCL HP HR HB
          generalize w5.heap.size = q at *
          go_wp2_with fail
          go_loopw [10] (fun vi W => ∃ i : Nat, i ≤ K2 ∧ vi = .int .i64 (i : Int) ∧ Hid (Qa a g l r q (mx d1 + i * 1048576) d1 W)) (fun vi _ => K2 - (intOf vi).toNat)
          case atStart => exact ⟨0, by omega, rfl, HST2.out⟩
          case round =>
            obtain ⟨i, hi, rfl, hst⟩ := hrel
            by_cases hlt : i < K2
            · have hj1 : (i : Int) < (M2 : Int) := by have := HK2.out; omega
              have hj2 : (i : Int) < 40 := by have := HK2.out; omega
              have HLT := hid_in hlt
              have hlo : i < ss2.length := by rw [HNN2.out]; have := HK2.out; omega
              obtain ⟨b, o, hpp, hcs⟩ := HAT2.out (by intro e; rw [e] at hlo; simp at hlo)
              obtain ⟨x, hx⟩ : ∃ x, ss2[i]? = some x := ⟨_, List.getElem?_eq_getElem hlo⟩
              have hmem : x ∈ ss2 := List.mem_of_getElem? hx
              have HXO := hid_in (HOK2.out x hmem)
              have HXL := hid_in (HBK2.out x hmem)
              have HCS := hid_in (fun W (hW : Below a.heap.size a W) => hcs W hW i x hx)
              obtain ⟨kd, A, bv, n, kv, xs, ks⟩ := x
              have HCS : Hid (∀ W, Below a.heap.size a W → W.rangeAt b (o + i * 5) [.int .i64 kd, .int .i64 A, bv, .int .i64 n, kv]) := HCS
              have HXL : Hid (xs.length ≤ 1048576) := HXL
              have HN : Hid (n ≤ 9223372036854775807) := hid_in HXO.out.n
              have HKC : Hid (∀ W, Below a.heap.size a W → W.cell? ⟨b, o + i * 5, none⟩ = some (.int .i64 kd) ∧ W.cell? ⟨b, o + i * 5 + 1, none⟩ = some (.int .i64 A) ∧ W.cell? ⟨b, o + i * 5 + 2, none⟩ = some bv ∧ W.cell? ⟨b, o + i * 5 + 3, none⟩ = some (.int .i64 n) ∧ W.cell? ⟨b, o + i * 5 + 4, none⟩ = some kv) := hid_in (fun W hW => ⟨HCS.out W hW 0 _ rfl, HCS.out W hW 1 _ rfl, HCS.out W hW 2 _ rfl, HCS.out W hW 3 _ rfl, HCS.out W hW 4 _ rfl⟩)
              subst hpp
              obtain ⟨d, ⟨v0, v1, y0, y1, hp, hq, hdis⟩, hr, hrq, hb, hmx⟩ := hst.out
              have HP := hid_in hp
              have HQ := hid_in hq
              have HDI := hid_in hdis
              have HB := hid_in hb
              have HR := hid_in hr
              have HRQ := hid_in hrq
              have HOKD := hid_in hp.ok
              have HLX : Hid ((arOf A d).bs.length + xs.length ≤ 140737488355328) := hid_in (by
                have h1 := mx_ar (a := A) (d := d)
                have h2 := HXL.out
                have h4 : i * 1048576 ≤ 100 * 1048576 := Nat.mul_le_mul_right _ (by have := HK2.out; omega)
                have h5 := HM1.out
                omega)
              have HMX : Hid (mx (doD (kmod kd) A xs n ks d) ≤ mx d1 + (i + 1) * 1048576) := hid_in (by
                have h1 := mx_do (kmod kd) A xs n ks d
                have h2 := HXL.out
                rw [Nat.add_mul]
                omega)
              have HDO : Hid (Calls Try.prog 10 #[.pointer (some ⟨g, 0, none⟩), .agg #[.int .i64 kd, .int .i64 A, bv, .int .i64 n, kv]] wr fun e w' => e = .returned (.int .i64 (doE (kmod kd) A d)) ∧ Stp wr w' a.heap.size g v0 v1 (doD (kmod kd) A xs n ks d)) := hid_in (do_any hp ⟨kd, A, bv, n, kv, xs, ks⟩ (HXO.out.sl hb) HLX.out HN.out (HXO.out.kp hb _ (fun k hk => (hp.fs_lt k hk).1)))
              obtain ⟨k0, k1, k2, k3, k4⟩ := HKC.out wr hb
              clear hlo hcs hx hmem hp hq hdis hr hrq hb hmx hst hlt hi
              go_upto_region 20 with (first | (go_at_call 10; refine HDO.out.mono ?_; rintro e w5 ⟨rfl, hs5⟩; have HS5 := hid_in hs5; clear hs5))
              have HB5 := hid_in (Stp.after HP.out HB.out HS5.out)
              have HR5 := hid_in (Stp.row HP.out HS5.out HR.out (by decide) (by decide))
              have HRQ5 := hid_in (Stp.row HP.out HS5.out HRQ.out (by decide) (by decide))
              have HT5 := hid_in (two_step HP.out HQ.out HDI.out HS5.out)
              have HRDO := hid_in (rdo_any HR5.out HOKD.out kd A n bv kv HN.out xs (HXO.out.cv HB5.out HRA.out) HLX.out ks (HXO.out.kp HB5.out (fun k => some k = some r) (fun k hk => by cases hk; exact HRA.out)))
              clear k0 k1 k2 k3 k4
              obtain ⟨k0, k1, k2, k3, k4⟩ := HKC.out w5 HB5.out
              go_wp2_with (first | (go_at_call 11; refine HRDO.out.mono ?_; rintro e w6 ⟨rfl, hr6, hg6⟩; have HR6 := hid_in hr6; have HT6 := hid_in (HT5.out.row HR5.out hg6); have HRQ6 := hid_in (grown_row HRQ5.out hg6 HQR.out); have HB6 := hid_in (below_of_grown HB5.out hg6 HB5.out.size HRA.out); clear hr6 hg6))
              exact ⟨⟨i + 1, by have := HLT.out; omega, by go_num, _, HT6.out, HR6.out, HRQ6.out, HB6.out, HMX.out⟩, by have := HLT.out; simp [intOf]; omega⟩
            · have HI40 : Hid (i ≤ 40) := hid_in (by have := HK2.out; omega)
              have hj1 : (i : Int) < (M2 : Int) := by have := HK2.out; have := HV2.out; omega
              have hj2 : ¬ (i : Int) < 40 := by have := HK2.out; have := HV2.out; omega
              clear hlt hi
              obtain ⟨d, ⟨v0, v1, y0, y1, hp, hq, hdis⟩, hr, hrq, hb, hmx⟩ := hst.out
              have HS1 := hid_in (same_any hp hr)
              have HQ := hid_in hq
              have HRQ := hid_in hrq
              have HB := hid_in hb
              clear hp hq hdis hr hrq hb hmx hst
              go_upto_region 23 with (first | (go_at_call 12; refine HS1.out.mono ?_; clear HS1; rintro e w7 ⟨rfl, hb7⟩; have HB7 := hid_in hb7; clear hb7) | (go_at_call 12; have hx := HB7.out; clear hx; refine (same_any (HQ.out.below HB7.out) (HRQ.out.below HB7.out HRQ.out.lt)).mono ?_; rintro e w8 ⟨rfl, hb8⟩; have HB8 := hid_in (HB7.out.trans (hb8.mono HB7.out.size)); clear hb8))
              have HST3 : Hid (Pl a l q (mx d1 + 0 * 1048576) w8) := hid_in ⟨d1, ⟨_, _, HQ.out.below HB8.out⟩, HRQ.out.below HB8.out HRQ.out.lt, HB.out.trans (HB8.out.mono HB.out.size), by omega⟩
              clear HQ HRQ HB HB7 HB8
              go_wp2_with fail
              go_loopw [11] (fun vi W => ∃ i : Nat, i ≤ K2 ∧ vi = .int .i64 (i : Int) ∧ Hid (Pl a l q (mx d1 + i * 1048576) W)) (fun vi _ => K2 - (intOf vi).toNat)
              case atStart => exact ⟨0, by omega, rfl, HST3.out⟩
              case round =>
                obtain ⟨i, hi, rfl, hst⟩ := hrel
                by_cases hlt : i < K2
                · have hj1 : (i : Int) < (M2 : Int) := by have := HK2.out; omega
                  have hj2 : (i : Int) < 40 := by have := HK2.out; omega
                  have HLT := hid_in hlt
                  have hlo : i < ss2.length := by rw [HNN2.out]; have := HK2.out; omega
                  obtain ⟨b, o, hpp, hcs⟩ := HAT2.out (by intro e; rw [e] at hlo; simp at hlo)
                  obtain ⟨x, hx⟩ : ∃ x, ss2[i]? = some x := ⟨_, List.getElem?_eq_getElem hlo⟩
                  have hmem : x ∈ ss2 := List.mem_of_getElem? hx
                  have HXO := hid_in (HOK2.out x hmem)
                  have HXL := hid_in (HBK2.out x hmem)
                  have HCS := hid_in (fun W (hW : Below a.heap.size a W) => hcs W hW i x hx)
                  obtain ⟨kd, A, bv, n, kv, xs, ks⟩ := x
                  have HCS : Hid (∀ W, Below a.heap.size a W → W.rangeAt b (o + i * 5) [.int .i64 kd, .int .i64 A, bv, .int .i64 n, kv]) := HCS
                  have HXL : Hid (xs.length ≤ 1048576) := HXL
                  have HN : Hid (n ≤ 9223372036854775807) := hid_in HXO.out.n
                  have HKC : Hid (∀ W, Below a.heap.size a W → W.cell? ⟨b, o + i * 5, none⟩ = some (.int .i64 kd) ∧ W.cell? ⟨b, o + i * 5 + 1, none⟩ = some (.int .i64 A) ∧ W.cell? ⟨b, o + i * 5 + 2, none⟩ = some bv ∧ W.cell? ⟨b, o + i * 5 + 3, none⟩ = some (.int .i64 n) ∧ W.cell? ⟨b, o + i * 5 + 4, none⟩ = some kv) := hid_in (fun W hW => ⟨HCS.out W hW 0 _ rfl, HCS.out W hW 1 _ rfl, HCS.out W hW 2 _ rfl, HCS.out W hW 3 _ rfl, HCS.out W hW 4 _ rfl⟩)
                  subst hpp
                  obtain ⟨d, ⟨v0, v1, hp⟩, hr, hb, hmx⟩ := hst.out
                  have HOKD := hid_in hp.ok
                  have HLX : Hid ((arOf A d).bs.length + xs.length ≤ 140737488355328) := hid_in (by
                    have h1 := mx_ar (a := A) (d := d)
                    have h2 := HXL.out
                    have h4 : i * 1048576 ≤ 100 * 1048576 := Nat.mul_le_mul_right _ (by have := HK2.out; omega)
                    have h5 := HM1.out
                    omega)
                  have HMX : Hid (mx (doD (kmod kd) A xs n ks d) ≤ mx d1 + (i + 1) * 1048576) := hid_in (by
                    have h1 := mx_do (kmod kd) A xs n ks d
                    have h2 := HXL.out
                    rw [Nat.add_mul]
                    omega)
                  have HPD := hid_in (hp.below (Below.refl _ wr).drew)
                  have HBD := hid_in (hb.trans (((Below.refl wr.heap.size wr).drew).mono hb.size))
                  have HRD := hid_in (hr.below (Below.refl _ wr).drew hr.lt)
                  have HDO : Hid (Calls Try.prog 10 #[.pointer (some ⟨l, 0, none⟩), .agg #[.int .i64 kd, .int .i64 A, bv, .int .i64 n, kv]] wr.drew fun e w' => e = .returned (.int .i64 (doE (kmod kd) A d)) ∧ Stp wr.drew w' a.heap.size l v0 v1 (doD (kmod kd) A xs n ks d)) := hid_in (do_any HPD.out ⟨kd, A, bv, n, kv, xs, ks⟩ (HXO.out.sl HBD.out) HLX.out HN.out (HXO.out.kp HBD.out _ (fun k hk => (HPD.out.fs_lt k hk).1)))
                  clear hlo hcs hx hmem hp hr hb hmx hst hlt hi
                  go_upto_region 26 with fail
                  refine wp_region_held_drew (S := fun W => Below a.heap.size a W) (by kernel_rfl) HBD.out (fun hHeld => ?_)
                  refine take_put (i := 0) (d := 96) (v := ?_) rfl rfl (by kernel_rfl) (by kernel_rfl) (by kernel_rfl) (fun _ _ _ h => h) (Or.inl ⟨by kernel_rfl, ?_⟩) hHeld ?_
                  rotate_left
                  · (intro w hSw; (try dsimp only at hSw); go_simp; (try with_reducible rfl))
                  simp only [Act.put, List.setIfInBounds_toArray, List.set_cons_zero, List.set_cons_succ]
                  refine take_put (i := 1) (d := 97) (v := ?_) rfl rfl (by kernel_rfl) (by kernel_rfl) (by kernel_rfl) (fun _ _ _ h => h) (Or.inl ⟨by kernel_rfl, ?_⟩) hHeld ?_
                  rotate_left
                  · (intro w hSw; (try dsimp only at hSw); go_simp; (try with_reducible rfl))
                  simp only [Act.put, List.setIfInBounds_toArray, List.set_cons_zero, List.set_cons_succ]
                  refine take_put (i := 2) (d := 98) (v := ?_) rfl rfl (by kernel_rfl) (by kernel_rfl) (by kernel_rfl) (fun _ _ _ h => h) (Or.inl ⟨by kernel_rfl, ?_⟩) hHeld ?_
                  rotate_left
                  · (intro w hSw; (try dsimp only at hSw); go_simp; (try with_reducible rfl))
                  simp only [Act.put, List.setIfInBounds_toArray, List.set_cons_zero, List.set_cons_succ]
                  refine take_put (i := 3) (d := 99) (v := ?_) rfl rfl (by kernel_rfl) (by kernel_rfl) (by kernel_rfl) (fun _ _ _ h => h) (Or.inl ⟨by kernel_rfl, ?_⟩) hHeld ?_
                  rotate_left
                  · (intro w hSw; (try dsimp only at hSw); go_simp; (try with_reducible rfl))
                  simp only [Act.put, List.setIfInBounds_toArray, List.set_cons_zero, List.set_cons_succ]
                  refine take_put (i := 4) (d := 100) (v := .agg [.int .i64 kd, .int .i64 A, bv, .int .i64 n, kv].toArray) rfl rfl (by kernel_rfl) (by kernel_rfl) (by kernel_rfl) (fun _ _ _ h => h) (yieldsIf_load_mid (by rfl) 37 _ rfl _ _ rfl [.int .i64 kd, .int .i64 A, bv, .int .i64 n, kv] _ (fun w hSw => HCS.out w hSw) Try.underlying37 rfl (by rw [info37]; rfl)) hHeld ?_
                  simp only [Act.put, List.setIfInBounds_toArray, List.set_cons_zero, List.set_cons_succ]
                  refine take_put (i := 6) (d := 102) (v := ?_) rfl rfl (by kernel_rfl) (by kernel_rfl) (by kernel_rfl) (fun _ _ _ h => h) (Or.inl ⟨by kernel_rfl, ?_⟩) hHeld ?_
                  rotate_left
                  · (intro w hSw; (try dsimp only at hSw); go_simp; (try with_reducible rfl))
                  simp only [Act.put, List.setIfInBounds_toArray, List.set_cons_zero, List.set_cons_succ]
                  refine take_put (i := 7) (d := 103) (v := ?_) rfl rfl (by kernel_rfl) (by kernel_rfl) (by kernel_rfl) (fun _ _ _ h => h) (Or.inl ⟨by kernel_rfl, ?_⟩) hHeld ?_
                  rotate_left
                  · (intro w hSw; (try dsimp only at hSw); go_simp; (try with_reducible rfl))
                  simp only [Act.put, List.setIfInBounds_toArray, List.set_cons_zero, List.set_cons_succ]
                  refine take_put (i := 8) (d := 104) (v := ?_) rfl rfl (by kernel_rfl) (by kernel_rfl) (by kernel_rfl) (fun _ _ _ h => h) (Or.inl ⟨by kernel_rfl, ?_⟩) hHeld ?_
                  rotate_left
                  · (intro w hSw; (try dsimp only at hSw); go_simp; (try with_reducible rfl))
                  simp only [Act.put, List.setIfInBounds_toArray, List.set_cons_zero, List.set_cons_succ]
                  refine take_put (i := 9) (d := 105) (v := .agg [.int .i64 kd, .int .i64 A, bv, .int .i64 n, kv].toArray) rfl rfl (by kernel_rfl) (by kernel_rfl) (by kernel_rfl) (fun _ _ _ h => h) (yieldsIf_load_mid (by rfl) 37 _ rfl _ _ rfl [.int .i64 kd, .int .i64 A, bv, .int .i64 n, kv] _ (fun w hSw => HCS.out w hSw) Try.underlying37 rfl (by rw [info37]; rfl)) hHeld ?_
                  simp only [Act.put, List.setIfInBounds_toArray, List.set_cons_zero, List.set_cons_succ]
                  refine wpAnyH_ready (rs := [5]) (by kernel_rfl) (by simp) ?_
                  refine AllReadyH.cons rfl (fun K hK => ?_) AllReadyH.nil
                  rw [if_pos (by rfl)]
                  go_simp
                  refine HDO.out.mono ?_
                  rintro e w5 ⟨rfl, hs5⟩
                  have HS5 := hid_in hs5
                  have HB5 := hid_in (Stp.after HPD.out HBD.out hs5)
                  have HRR5 := hid_in (Stp.row HPD.out hs5 HRD.out (by decide) (by decide))
                  obtain ⟨u0, u1, hp5, -, -⟩ := hs5
                  have HP5 := hid_in hp5
                  have HRDO := hid_in (rdo_any HRR5.out HOKD.out kd A n bv kv HN.out xs (HXO.out.cv HB5.out HQA.out) HLX.out ks (HXO.out.kp HB5.out (fun k => some k = some q) (fun k hk => by cases hk; exact HQA.out)))
                  clear hp5
                  go_simp
                  refine hK.out _ _ HB5.out (fun hHeld => ?_)
                  clear hK K
                  refine wpAnyH_ready (rs := [10]) (by kernel_rfl) (by simp) ?_
                  refine AllReadyH.cons rfl (fun K hK => ?_) AllReadyH.nil
                  rw [if_pos (by rfl)]
                  go_simp
                  refine HRDO.out.mono ?_
                  rintro e w6 ⟨rfl, hr6, hg6⟩
                  have HR6 := hid_in hr6
                  have HP6 := hid_in (HP5.out.keep (Grew.of_grown hg6) (fun k hk e => HP5.out.typed HRR5.out (by decide) (by decide) (by cases e; exact hk)))
                  have HB6 := hid_in (below_of_grown HB5.out hg6 HB5.out.size HQA.out)
                  clear hr6 hg6
                  go_simp
                  refine hK.out _ _ HB6.out (fun hHeld => ?_)
                  clear hK K
                  refine take_put (i := 11) (d := 107) (v := .bool false) rfl rfl (by kernel_rfl) (by kernel_rfl) (by kernel_rfl) (fun _ _ _ h => h) (Or.inl ⟨by kernel_rfl, fun w hSw => ?_⟩) hHeld ?_
                  · (go_simp)
                  simp only [Act.put, List.setIfInBounds_toArray, List.set_cons_zero, List.set_cons_succ]
                  refine wpAnyH_done (by kernel_rfl) ?_ _
                  clear hHeld
                  go_wp2_with fail
                  exact ⟨⟨i + 1, by have := HLT.out; omega, by go_num, _, ⟨_, _, HP6.out⟩, HR6.out, HB6.out, HMX.out⟩, by have := HLT.out; simp [intOf]; omega⟩
                · have HI40 : Hid (i ≤ 40) := hid_in (by have := HK2.out; omega)
                  have hj1 : (i : Int) < (M2 : Int) := by have := HK2.out; have := HV2.out; omega
                  have hj2 : ¬ (i : Int) < 40 := by have := HK2.out; have := HV2.out; omega
                  clear hlt hi
                  obtain ⟨d, ⟨v0, v1, hp⟩, hr, hb, hmx⟩ := hst.out
                  have HP := hid_in hp
                  have HR := hid_in hr
                  have HB := hid_in hb
                  have HA1 := hid_in (fun W => arm_nil 1 W)
                  have HA2 := hid_in (fun v W => cut_nil v W)
                  clear hp hr hb hmx hst
                  obtain ⟨w5, HW5⟩ : ∃ w5, Hid (wr.alloc (.cells #[.int .i64 1] 3) = w5) := ⟨_, hid_in rfl⟩
                  have HB5 : Hid (Below wr.heap.size wr w5) := hid_in (by rw [← HW5.out]; exact (Below.refl _ _).alloc (Nat.le_refl _) _)
                  have HS := hid_in (same_any (HP.out.below HB5.out) (HR.out.below HB5.out HR.out.lt))
                  have HBB := hid_in (HB.out.trans (HB5.out.mono HB.out.size))
                  clear HP HR HB HB5
                  have HA1w := hid_in (HA1.out wr)
                  have HA2w := hid_in (HA2.out (.slice (some ⟨wr.heap.size, 0, none⟩) 1 1) w5)
                  clear HA1 HA2
                  go_upto_region 30 with (first | (go_at_call 15; refine HA1w.out.mono ?_; clear HA1w; rintro e w4 ⟨rfl, hw4⟩; subst hw4))
                  go_upto_region 31 with (first | (go_at_call 19; refine Calls.mono (by rw [HW5.out]; exact HA2w.out) ?_; rintro e w6 ⟨rfl, hw6⟩; subst hw6))
                  clear HA2w
                  go_wp2_with (first | (go_at_call 12; refine HS.out.mono ?_; rintro e w6 ⟨rfl, hb6⟩; have HB6 := hid_in hb6; clear hb6) | (go_at_call 17; refine (append_nil _ _ _).mono ?_; rintro e w7 ⟨rfl, rfl⟩) | (go_at_call 18; refine (sync_nil _ _).mono ?_; rintro e w7 ⟨rfl, rfl⟩) | (go_at_call 22; refine (wipe_nil _ _).mono ?_; rintro e w7 ⟨rfl, rfl⟩) | (go_at_call 21; refine (flip_nil _).mono ?_; rintro e w7 ⟨rfl, rfl⟩) | (go_at_call 20; refine (live_nil _).mono ?_; rintro e w7 ⟨rfl, rfl⟩) | (go_at_call 13; refine (read_nil _ _).mono ?_; rintro e w7 ⟨rfl, rfl⟩) | (go_at_call 14; refine (synced_nil _ _).mono ?_; rintro e w7 ⟨rfl, rfl⟩) | (go_at_call 16; refine (down_nil _).mono ?_; rintro e w7 ⟨rfl, rfl⟩) | (go_at_call 23; refine (clone_nil _).mono ?_; rintro e w7 ⟨rfl, rfl⟩))
                  go_ret
                  exact ⟨rfl, HBB.out.trans (HB6.out.mono HBB.out.size)⟩
end Go.Proofs.Ytcdmdmbdgmihfaa.Pt
