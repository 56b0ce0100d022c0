/-
  Same: the same is kept. The reference's Check. JournalChecks, by cases.
-/
import Derived.Laws.Tables
import Derived.Laws.CopyOwn
import Derived.Deep.RegionLaw
import Derived.Deep.DrawnRows
import Derived.Deep.CutRange
import Derived.Laws.StructEq
import Derived.Lib.SlBytesConst
import Derived.OwnWalk
import Derived.Test.YtjjofjnhhajjjaaA00
import Derived.Test.YtjjofjnhhajjjaaA01
import Derived.Test.YtjjofjnhhajjjaaA02
import Derived.Test.YtjjofjnhhajjjaaA03
import Derived.Test.YtjjofjnhhajjjaaA04
import Derived.Test.YtjjofjnhhajjjaaA05
import Derived.Test.YtjjofjnhhajjjaaA06
import Derived.Test.YtjjofjnhhajjjaaA07
import Derived.Test.YtjjofjnhhajjjaaA08
import Derived.Test.YtjjofjnhhajjjaaA09
import Derived.Test.YtjjofjnhhajjjaaA10
import Derived.Test.YtjjofjnhhajjjaaA11
import Derived.Test.YtjjofjnhhajjjaaA12
import Derived.Test.YtjjofjnhhajjjaaA13
import Derived.Test.YtjjofjnhhajjjaaA14
import Derived.Test.YtjjofjnhhajjjaaA15
import Derived.Test.YtjjofjnhhajjjaaA16
import Derived.Test.YtjjofjnhhajjjaaA17
import Derived.Test.YtjjofjnhhajjjaaA18
import Derived.Test.YtjjofjnhhajjjaaA19
import Derived.Test.YtjjofjnhhajjjaaA20
import Derived.Test.YtjjofjnhhajjjaaA21
import Derived.Test.YtjjofjnhhajjjaaA22
import Derived.Test.YtjjofjnhhajjjaaA23
import Derived.Test.YtjjofjnhhajjjaaA24
import Derived.Test.YtjjofjnhhajjjaaA25
import Derived.Test.YtjjofjnhhajjjaaA26
import Derived.Test.YtjjofjnhhajjjaaA27
import Derived.Test.YtjjofjnhhajjjaaA28
import Derived.Test.YtjjofjnhhajjjaaA29
import Derived.Test.YtjjofjnhhajjjaaA30
import Derived.Test.YtjjofjnhhajjjaaA31
import Derived.Test.YtjjofjnhhajjjaaA32
import Derived.Test.YtjjofjnhhajjjaaA33
import Derived.Test.YtjjofjnhhajjjaaA34
import Derived.Test.YtjjofjnhhajjjaaA35
import Derived.Test.YtjjofjnhhajjjaaA36
import Derived.Test.YtjjofjnhhajjjaaA37
import Derived.Test.YtjjofjnhhajjjaaA38
import Derived.Test.YtjjofjnhhajjjaaA39
namespace Go.Proofs.Ytjjofjnhhajjjaa.Jr
open Go.RowKit
open Nd (Row wp_world post_Row grownBy_setCell below_of_grown u8v Grew Sl hid_in i64r bytesS str encO)
def sameK (a b : Kt) : Bool := decide (a.view = b.view) && (decide (a.normal = b.normal) && (decide (a.base = b.base) && (decide (a.state = b.state) && sameE a.ents b.ents)))
theorem sameK_iff (a b : Kt) : sameK a b = true ↔ a = b := by
  obtain ⟨av, an, ab, az, ae⟩ := a
  obtain ⟨bv, bn, bb, bz, be⟩ := b
  simp only [sameK, sameE, Bool.and_eq_true, decide_eq_true_eq, Kt.mk.injEq]
theorem sameK_self (a : Kt) : sameK a a = true := (sameK_iff a a).2 rfl
theorem rows2 (w : World) (a b : List Value) : ∃ W, Hid ((w.alloc (.cells a.toArray 30)).alloc (.cells b.toArray 30) = W) ∧ Hid (Row W w.heap.size a 30) ∧ Hid (Row W (w.heap.size + 1) b 30) ∧ Hid (Below w.heap.size w W) := by
  have h1 : Row (w.alloc (.cells a.toArray 30)) w.heap.size a 30 := Row.new w a 30
  have s1 : (w.alloc (.cells a.toArray 30)).heap.size = w.heap.size + 1 := by simp
  have b1 : Below w.heap.size w (w.alloc (.cells a.toArray 30)) := (Below.refl _ _).alloc (Nat.le_refl _) _
  generalize w.alloc (.cells a.toArray 30) = W1 at *
  have h2 : Row (W1.alloc (.cells b.toArray 30)) (w.heap.size + 1) b 30 := Row.newAt W1 _ b 30 s1
  have b2 : Below W1.heap.size W1 (W1.alloc (.cells b.toArray 30)) := (Below.refl _ _).alloc (Nat.le_refl _) _
  exact ⟨_, rfl, h1.below b2 (by omega), h2, b1.trans (b2.mono (by omega))⟩
set_option maxHeartbeats 4000000 in
set_option maxRecDepth 100000 in
theorem same_any (a b : Kt) (va vb : Value) (w : World) (ha : Es w va a.ents) (hb : Es w vb b.ents) : Calls Try.prog 14 #[a.val va, b.val vb] w fun e w' => e = .returned (.bool (sameK a b)) ∧ Below w.heap.size w w' := by
  obtain ⟨av, an, ab, az, ae⟩ := a
  obtain ⟨bv, bn, bb, bz, be⟩ := b
  obtain ⟨ap, ac, rfl, _, _⟩ := ha.form
  obtain ⟨bp, bc, rfl, _, _⟩ := hb.form
  simp only at ha hb
  simp only [Kt.val]
  obtain ⟨W2, H2, RA, RB, B2⟩ := rows2 w [.int .i64 av, .int .i64 an, .int .i64 ab, .string az, .slice ap ae.length ac] [.int .i64 bv, .int .i64 bn, .int .i64 bb, .string bz, .slice bp be.length bc]
  have HS := hid_in (sameEntries_any ae be _ _ W2 (ha.below B2.out) (hb.below B2.out))
  have HK := hid_in (show sameK ⟨av, an, ab, az, ae⟩ ⟨bv, bn, bb, bz, be⟩ = (decide (av = bv) && (decide (an = bn) && (decide (ab = bb) && (decide (az = bz) && sameE ae be)))) from rfl)
  rw [HK.out]
  clear HK ha hb
  generalize sameE ae be = se at *
  have a0 : W2.cell? ⟨w.heap.size, 0, none⟩ = some (.int .i64 av) := RA.out.cell 0
  have a1 : W2.cell? ⟨w.heap.size, 1, none⟩ = some (.int .i64 an) := RA.out.cell 1
  have a2 : W2.cell? ⟨w.heap.size, 2, none⟩ = some (.int .i64 ab) := RA.out.cell 2
  have a3 : W2.cell? ⟨w.heap.size, 3, none⟩ = some (.string az) := RA.out.cell 3
  have a4 : W2.cell? ⟨w.heap.size, 4, none⟩ = some (.slice ap ae.length ac) := RA.out.cell 4
  have b0 : W2.cell? ⟨w.heap.size + 1, 0, none⟩ = some (.int .i64 bv) := RB.out.cell 0
  have b1 : W2.cell? ⟨w.heap.size + 1, 1, none⟩ = some (.int .i64 bn) := RB.out.cell 1
  have b2 : W2.cell? ⟨w.heap.size + 1, 2, none⟩ = some (.int .i64 bb) := RB.out.cell 2
  have b3 : W2.cell? ⟨w.heap.size + 1, 3, none⟩ = some (.string bz) := RB.out.cell 3
  have b4 : W2.cell? ⟨w.heap.size + 1, 4, none⟩ = some (.slice bp be.length bc) := RB.out.cell 4
  by_cases c0 : av = bv
  rotate_left
  · have hd : decide (av = bv) = false := decide_eq_false c0
    rw [hd]
    have cc : (av == bv) = false := by simpa using c0
    go_enter Try.func14, Try.ntmps14
    go_upto_region 1 with fail
    refine wp_world H2.out ?_
    go_wp2_with (first | (go_at_call 32; refine HS.out.mono ?_; rintro e w3 ⟨rfl, hb3⟩; have HB3 := hid_in hb3; clear hb3))
    go_ret
    exact ⟨rfl, B2.out⟩
  subst c0
  have d0 : decide (av = av) = true := decide_eq_true rfl
  rw [d0]
  clear d0
  by_cases c1 : an = bn
  rotate_left
  · have hd : decide (an = bn) = false := decide_eq_false c1
    rw [hd]
    have cc : (an == bn) = false := by simpa using c1
    go_enter Try.func14, Try.ntmps14
    go_upto_region 1 with fail
    refine wp_world H2.out ?_
    go_wp2_with (first | (go_at_call 32; refine HS.out.mono ?_; rintro e w3 ⟨rfl, hb3⟩; have HB3 := hid_in hb3; clear hb3))
    go_ret
    exact ⟨rfl, B2.out⟩
  subst c1
  have d1 : decide (an = an) = true := decide_eq_true rfl
  rw [d1]
  clear d1
  by_cases c2 : ab = bb
  rotate_left
  · have hd : decide (ab = bb) = false := decide_eq_false c2
    rw [hd]
    have cc : (ab == bb) = false := by simpa using c2
    go_enter Try.func14, Try.ntmps14
    go_upto_region 1 with fail
    refine wp_world H2.out ?_
    go_wp2_with (first | (go_at_call 32; refine HS.out.mono ?_; rintro e w3 ⟨rfl, hb3⟩; have HB3 := hid_in hb3; clear hb3))
    go_ret
    exact ⟨rfl, B2.out⟩
  subst c2
  have d2 : decide (ab = ab) = true := decide_eq_true rfl
  rw [d2]
  clear d2
  by_cases c3 : az = bz
  rotate_left
  · have hd : decide (az = bz) = false := decide_eq_false c3
    rw [hd]
    have cc : (az.toList == bz.toList) = false := by rw [beq_eq_false_iff_ne]; exact fun e => c3 (toL_inj e)
    have cc2 : (az == bz) = false := by rw [Bool.eq_false_iff]; exact fun e => c3 ((MapKept.bytes_beq _ _).1 e)
    go_enter Try.func14, Try.ntmps14
    go_upto_region 1 with fail
    refine wp_world H2.out ?_
    go_wp2_with (first | (go_at_call 32; refine HS.out.mono ?_; rintro e w3 ⟨rfl, hb3⟩; have HB3 := hid_in hb3; clear hb3))
    go_ret
    exact ⟨rfl, B2.out⟩
  subst c3
  have d3 : decide (az = az) = true := decide_eq_true rfl
  rw [d3]
  clear d3
  go_enter Try.func14, Try.ntmps14
  go_upto_region 1 with fail
  refine wp_world H2.out ?_
  go_wp2_with (first | (go_at_call 32; refine HS.out.mono ?_; rintro e w3 ⟨rfl, hb3⟩; have HB3 := hid_in hb3; clear hb3))
  go_ret
  exact ⟨rfl, B2.out.trans (HB3.out.mono B2.out.size)⟩
end Go.Proofs.Ytjjofjnhhajjjaa.Jr
namespace Go.Proofs.Ytjjofjnhhajjjaa.Jr
open Go.RowKit
open Nd (Row wp_world post_Row grownBy_setCell below_of_grown u8v Grew Sl hid_in i64r bytesS str encO)
set_option maxHeartbeats 4000000 in
set_option maxRecDepth 100000 in
theorem rcheck_any (k : Kt) (v : Value) (w : World) (hk : k.ok) (hes : Es w v k.ents) : Calls Try.prog 17 #[k.val v] w fun e w' => e = .returned (.bool (may k)) ∧ Below w.heap.size w w' := by
  obtain ⟨vw, nm, ba, st, es⟩ := k
  obtain ⟨p, cap, rfl, hc1, hc2⟩ := hes.form
  have HE := hid_in hes
  have HOK := hid_in hk.ents
  obtain ⟨hv1, hv2⟩ := hk.view
  obtain ⟨hn1, hn2⟩ := hk.normal
  obtain ⟨hb1, hb2⟩ := hk.base
  have hst := hk.state
  have hfew := hk.few
  simp only at *
  obtain ⟨W1, HW1, HR1, HB1, HS1⟩ := row_new w [.int .i64 vw, .int .i64 nm, .int .i64 ba, .string st, .slice p es.length cap] 30
  obtain ⟨t1, HT1⟩ : ∃ t, Hid (decide (vw < 0 ∨ 1099511627776 < vw ∨ nm < 0 ∨ vw < nm ∨ ba < 0 ∨ 1099511627776 < ba) = t) := ⟨_, hid_in rfl⟩
  obtain ⟨t2, HT2⟩ : ∃ t, Hid (decide (32 < es.length ∨ 1099511627776 < ba + (es.length : Int) ∨ 65536 < st.size ∨ (ba = 0 ∧ 0 < st.size)) = t) := ⟨_, hid_in rfl⟩
  have HM : Hid (may ⟨vw, nm, ba, st, es⟩ = (!t1 && (!t2 && es.all shortE))) := by
    show _ = _
    rw [← HT1.out, ← HT2.out]
    unfold may
    simp only
    rw [Bool.eq_iff_iff]
    simp only [Bool.and_eq_true, decide_eq_true_eq, Bool.not_eq_true', decide_eq_false_iff_not]
    constructor
    · rintro ⟨⟨h1, h2, h3, h4, h5, h6, h7, h8⟩, h9⟩
      exact ⟨by omega, by omega, h9⟩
    · rintro ⟨h1, h2, h9⟩
      exact ⟨by omega, h9⟩
  simp only [Kt.val]
  rw [HM.out]
  obtain ⟨sh, HSH⟩ : ∃ sh, Hid (es.all shortE = sh) := ⟨_, hid_in rfl⟩
  rw [HSH.out]
  clear hes hk HM
  have hl0 : (0 : Int) ≤ (es.length : Int) := by omega
  have hsz0 : (0 : Int) ≤ (st.size : Int) := by omega
  go_enter Try.func17, Try.ntmps17
  go_upto_region 1 with fail
  refine wp_world HW1.out ?_
  have r0 : W1.cell? ⟨w.heap.size, 0, none⟩ = some (.int .i64 vw) := HR1.out.cell 0
  have r1 : W1.cell? ⟨w.heap.size, 1, none⟩ = some (.int .i64 nm) := HR1.out.cell 1
  have r2 : W1.cell? ⟨w.heap.size, 2, none⟩ = some (.int .i64 ba) := HR1.out.cell 2
  have r3 : W1.cell? ⟨w.heap.size, 3, none⟩ = some (.string st) := HR1.out.cell 3
  have r4 : W1.cell? ⟨w.heap.size, 4, none⟩ = some (.slice p es.length cap) := HR1.out.cell 4
  go_cut [35] from 6 to 35 (fun x W => x = .bool t1 ∧ W = W1)
  case first =>
    by_cases c0 : vw < 0
    · go_wp2_with fail
      go_meet
      exact ⟨by rw [← HT1.out, decide_eq_true (by omega)], rfl⟩
    · skip
      by_cases c1 : 1099511627776 < vw
      · go_wp2_with fail
        go_meet
        exact ⟨by rw [← HT1.out, decide_eq_true (by omega)], rfl⟩
      · skip
        by_cases c2 : nm < 0
        · go_wp2_with fail
          go_meet
          exact ⟨by rw [← HT1.out, decide_eq_true (by omega)], rfl⟩
        · skip
          by_cases c3 : vw < nm
          · go_wp2_with fail
            go_meet
            exact ⟨by rw [← HT1.out, decide_eq_true (by omega)], rfl⟩
          · skip
            by_cases c4 : ba < 0
            · go_wp2_with fail
              go_meet
              exact ⟨by rw [← HT1.out, decide_eq_true (by omega)], rfl⟩
            · skip
              by_cases c5 : 1099511627776 < ba
              · go_wp2_with fail
                go_meet
                exact ⟨by rw [← HT1.out, decide_eq_true (by omega)], rfl⟩
              · skip
                go_wp2_with fail
                go_meet
                exact ⟨by rw [← HT1.out, decide_eq_false (by omega)], rfl⟩
  case rest =>
    obtain ⟨rfl, hwc⟩ := hcut
    subst hwc
    cases t1
    rotate_left
    · go_upto_region 2 with fail
      go_wp2
      go_ret
      exact ⟨rfl, HB1.out⟩
    have hno : ¬ (vw < 0 ∨ 1099511627776 < vw ∨ nm < 0 ∨ vw < nm ∨ ba < 0 ∨ 1099511627776 < ba) := of_decide_eq_false HT1.out
    have hba0 : 0 ≤ ba := by omega
    have hba1 : ba ≤ 1099511627776 := by omega
    clear hno hn1 hn2 hv1 hv2 hb1 hb2
    go_upto_region 3 with fail
    go_cut [65] from 36 to 65 (fun x W => x = .bool t2 ∧ W = wc)
    case first =>
      by_cases c0 : (32 : Int) < (es.length : Int)
      · go_wp2_with fail
        go_meet
        exact ⟨by rw [← HT2.out, decide_eq_true (by omega)], rfl⟩
      · by_cases c1 : 1099511627776 < ba + (es.length : Int)
        · go_wp2_with fail
          go_meet
          exact ⟨by rw [← HT2.out, decide_eq_true (by omega)], rfl⟩
        · by_cases c2 : (65536 : Int) < (st.size : Int)
          · go_wp2_with fail
            go_meet
            exact ⟨by rw [← HT2.out, decide_eq_true (by omega)], rfl⟩
          · by_cases c3 : ba = 0
            · have cc3 : (ba == 0) = true := by simpa using c3
              have HC3 := hid_in c3
              clear c3
              by_cases c4 : (0 : Int) < (st.size : Int)
              · go_wp2_with fail
                go_meet
                have hc3 := HC3.out
                exact ⟨by rw [← HT2.out, decide_eq_true (by omega), decide_eq_true (by omega)], rfl⟩
              · go_wp2_with fail
                go_meet
                have hc3 := HC3.out
                exact ⟨by rw [← HT2.out, decide_eq_false (by omega), decide_eq_false (by omega)], rfl⟩
            · go_wp2_with fail
              go_meet
              exact ⟨by rw [← HT2.out, decide_eq_false (by omega)], rfl⟩
    case rest =>
      obtain ⟨rfl, hwd⟩ := hcut
      subst hwd
      cases t2
      rotate_left
      · go_upto_region 4 with fail
        go_wp2
        go_ret
        exact ⟨rfl, HB1.out⟩
      go_upto_region 6 with fail
      go_loopw [3] (fun vi W => ∃ i : Nat, i ≤ es.length ∧ vi = .int .i64 (i : Int) ∧ Hid ((es.take i).all shortE = true) ∧ Hid (Below wc.heap.size wc W)) (fun vi _ => es.length - (intOf vi).toNat)
      case atStart => exact ⟨0, by omega, rfl, rfl, Below.refl _ _⟩
      case round =>
        obtain ⟨i, hi, rfl, hA, hB⟩ := hrel
        have r4' : wr.cell? ⟨w.heap.size, 4, none⟩ = some (.slice p es.length cap) := (HR1.out.below hB.out HR1.out.lt).cell 4
        by_cases hlt : i < es.length
        · have hg : es[i]? = some es[i] := List.getElem?_eq_getElem hlt
          have hbw : Below w.heap.size w wr := HB1.out.trans (hB.out.mono HB1.out.size)
          obtain ⟨b, o, rfl, hm⟩ := (HE.out.below hbw).at hg
          have HEO := hid_in (HOK.out _ (List.getElem_mem hlt))
          have HT := hid_in (show (es.take (i + 1)).all shortE = shortE es[i] by
            rw [List.take_succ_eq_append_getElem hlt, List.all_append, hA.out]; simp)
          have HF : Hid (shortE es[i] = false → es.all shortE = false) := hid_in (fun hf => by
            rw [Bool.eq_false_iff]
            intro ha
            have := List.all_eq_true.1 ha _ (List.getElem_mem hlt)
            rw [hf] at this
            cases this)
          clear hg hbw
          generalize es[i] = x at *
          obtain ⟨cl, nu, ⟨kd, pa, de, da, at_, sz⟩⟩ := x
          have m2 : wr.cell? ⟨b, o + i * 8 + 2, none⟩ = some (.int .i64 kd) := hm 2 _ rfl
          have m3 : wr.cell? ⟨b, o + i * 8 + 3, none⟩ = some (.string pa) := hm 3 _ rfl
          have m4 : wr.cell? ⟨b, o + i * 8 + 4, none⟩ = some (.string de) := hm 4 _ rfl
          have m5 : wr.cell? ⟨b, o + i * 8 + 5, none⟩ = some (.string da) := hm 5 _ rfl
          have m6 : wr.cell? ⟨b, o + i * 8 + 6, none⟩ = some (.int .i64 at_) := hm 6 _ rfl
          have m7 : wr.cell? ⟨b, o + i * 8 + 7, none⟩ = some (.int .i64 sz) := hm 7 _ rfl
          clear hm
          by_cases hs : shortE ⟨cl, nu, ⟨kd, pa, de, da, at_, sz⟩⟩ = true
          · have HRO := hid_in (Nd.rencode_ok ⟨kd, pa, de, da, at_, sz⟩ HEO.out.op ((shortE_iff _).1 hs) wr)
            simp only [Nd.Opn.val] at HRO
            have HT2 := hid_in (show (es.take (i + 1)).all shortE = true by rw [HT.out, hs])
            clear hs
            go_wp2_with (first | (go_at_call 34; refine HRO.out.mono ?_; rintro y w2 ⟨⟨u, rfl, -⟩, hb⟩; have HB2 := hid_in hb; clear hb))
            go_roundw
            case rel => exact ⟨i + 1, by omega, by go_num, HT2.out, hB.out.trans (HB2.out.mono hB.out.size)⟩
            case measure => simp [intOf]; omega
          · have HRO := hid_in (Nd.rencode_long ⟨kd, pa, de, da, at_, sz⟩ HEO.out.op (fun h => hs ((shortE_iff _).2 h)) wr)
            simp only [Nd.Opn.val] at HRO
            have HF2 := hid_in (HF.out (by simpa using hs))
            clear hs
            go_wp2_with (first | (go_at_call 34; refine HRO.out.mono ?_; rintro y w2 ⟨rfl, hb⟩; have HB2 := hid_in hb; clear hb))
            go_ret
            refine ⟨?_, (HB1.out.trans (hB.out.mono HB1.out.size)).trans (HB2.out.mono (Nat.le_trans HB1.out.size hB.out.size))⟩
            rw [← HSH.out, HF2.out]
            rfl
        · obtain rfl : i = es.length := by omega
          go_wp2
          go_ret
          rw [List.take_length] at hA
          refine ⟨?_, HB1.out.trans (hB.out.mono HB1.out.size)⟩
          rw [← HSH.out, hA.out]
          rfl
end Go.Proofs.Ytjjofjnhhajjjaa.Jr
namespace Go.Proofs.Ytjjofjnhhajjjaa.Jr
open Go.RowKit
open Nd (Row wp_world post_Row grownBy_setCell grownBy_trans below_of_grown u8v Grew Sl hid_in i64r bytesS str)
open Pt (Ar Dk PtV FS Sub Stp liv arOf bytesOf)
/-- what Lay leaves of a new journal -/
def Laid (W : World) (B _j g : Nat) (_u0 _u1 : Value) (E : Int) (rs : List Rc) (kf : Kt) (e : Ending) (w' : World) : Prop :=
  e = .returned (.int .i64 E) ∧ ∃ d' x0 x1, JD d' rs kf ∧ Lim d' 1000000 ∧ PtV w' B g x0 x1 d' ∧ Below B W w'
theorem laid_yes {W : World} {B j g : Nat} {u0 u1 ve va : Value} {k : Kt} (hJ : JV W B j g u0 u1 Pt.newD ve zeroK) (hes : Es W va k.ents) (hok : k.ok) (hl : k.ents.length ≤ 100000000) (hm : may k = true) : Calls Try.prog 18 #[.pointer (some ⟨j, 0, none⟩), k.val va] W (Laid W B j g u0 u1 0 [recL k] k) := by
  obtain ⟨h1, h2⟩ := JD.new.anew hok hm
  have hf : foldS (recL k) zeroK = some k := foldS_L hm
  have hlim := Lim.new.ly (k := zeroK) hok
  have hc := lay_c hJ k va hes hok hl (Lim.new.room (by decide))
  unfold lyD at hlim
  unfold lyE lyD lyK at hc
  simp only [hf] at hlim hc
  rw [h1] at hc
  refine hc.mono ?_
  rintro e w' ⟨h3, x0, x1, ve', h4, h5, h6⟩
  exact ⟨h3, _, x0, x1, h2, hlim.mono (by decide), h4.pt, h5.below (Below.refl _ _) (Nat.le_trans hJ.base (Nat.le_of_lt hJ.row.lt)) (fun b hb => (hJ.fj_lt b hb).1)⟩
theorem laid_no {W : World} {B j g : Nat} {u0 u1 ve va : Value} {k : Kt} (hJ : JV W B j g u0 u1 Pt.newD ve zeroK) (hes : Es W va k.ents) (hok : k.ok) (hl : k.ents.length ≤ 100000000) (hm : may k = false) : Calls Try.prog 18 #[.pointer (some ⟨j, 0, none⟩), k.val va] W (Laid W B j g u0 u1 1 [] zeroK) := by
  have hf : foldS (recL k) zeroK = none := foldS_Ln hm
  have hc := lay_c hJ k va hes hok hl (Lim.new.room (by decide))
  unfold lyE lyD lyK at hc
  simp only [hf] at hc
  refine hc.mono ?_
  rintro e w' ⟨h3, x0, x1, ve', h4, h5, h6⟩
  exact ⟨h3, _, x0, x1, JD.new, Lim.new.mono (by decide), h4.pt, h5.below (Below.refl _ _) (Nat.le_trans hJ.base (Nat.le_of_lt hJ.row.lt)) (fun b hb => (hJ.fj_lt b hb).1)⟩
/-- the power goes in the next change -/
theorem gone {d : Dk} (h : d.down = false) : (Pt.synD 0 (Pt.armD 1 d)).down = true := by
  obtain ⟨a0, a1, l, dn, lf⟩ := d
  simp only at h
  subst h
  simp [Pt.synD, Pt.armD, Pt.begE, Pt.begD, Pt.refE, Pt.isA, Pt.spendE, Pt.spendD]
theorem OpR.pt {w w' : World} {B g : Nat} {v0 v1 : Value} {d : Dk} {kv kn kb : Int} {ks : ByteArray} {ke : List Ent} {e : Ending} (hp : PtV w B g v0 v1 d) (h : OpR w B g v0 v1 d ⟨kv, kn, kb, ks, ke⟩ e w') : ∃ j ve p c u0 u1, e = .returned (.tuple #[.pointer (some ⟨j, 0, none⟩), .agg #[.int .i64 kv, .int .i64 kn, .int .i64 kb, .string ks, .slice p ke.length c], .int .i64 0]) ∧ JV w' B j g u0 u1 d ve ⟨kv, kn, kb, ks, ke⟩ ∧ Es w' (.slice p ke.length c) ke ∧ Below B w w' := by
  obtain ⟨j, ve, p, c, u0, u1, h1, h2, h3, _, h5, _⟩ := OpR.form h
  exact ⟨j, ve, p, c, u0, u1, h1, h2, h3.val, h5.below (Below.refl _ _) (Nat.le_trans hp.base (Nat.le_of_lt hp.lt)) (fun b hb => (hp.fs_lt b hb).1)⟩
set_option maxHeartbeats 2000000 in
theorem checks_many (k : Kt) (v : Value) (w : World) (hk : k.ok) (hes : Es w v k.ents) (hl : 1000 < k.ents.length) : Calls Try.prog 4 #[k.val v] w fun e w' => e = .returned (.bool true) ∧ Below w.heap.size w w' := by
  have HAW := hid_in (fun W => awake_any W)
  have hl64 : (1000 : Int) < (k.ents.length : Int) := by omega
  obtain ⟨kv, kn, kb, ks, ke⟩ := k
  obtain ⟨kp, kc, rfl, _, _⟩ := hes.form
  simp only [Kt.val] at hl64 ⊢
  obtain ⟨W1, H1, R1, B1, S1⟩ := row_new w [.int .i64 kv, .int .i64 kn, .int .i64 kb, .string ks, .slice kp ke.length kc] 30
  clear hk hes hl
  go_enter Try.func4, Try.ntmps4
  go_upto_region 1 with fail
  refine wp_world H1.out ?_
  go_upto_region 3 with (first | (go_at_call 6; refine (HAW.out _).mono ?_; rintro e w2 ⟨rfl, hb⟩; have HB2 := hid_in hb; clear hb))
  have R2 := hid_in (R1.out.below HB2.out R1.out.lt)
  have k4 : w2.cell? ⟨w.heap.size, 4, none⟩ = some (.slice kp ke.length kc) := R2.out.cell 4
  go_wp2
  go_ret
  exact ⟨rfl, B1.out.trans (HB2.out.mono B1.out.size)⟩
end Go.Proofs.Ytjjofjnhhajjjaa.Jr
