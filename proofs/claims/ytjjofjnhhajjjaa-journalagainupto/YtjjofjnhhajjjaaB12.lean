/-
  hasNoBytes, IndexFunc and ContainsFunc over entries; Check. Check. slices.Clone, slices.Grow of none, slices.Concat of two, of entries.
-/
import Derived.Laws.Tables
import Derived.Laws.CopyOwn
import Derived.OwnWalk
import Derived.Deep.CutRange
import Derived.Laws.StructEq
import Derived.Lib.SlBytesConst
import Derived.Deep.RegionLaw
import Derived.Deep.DrawnRows
import Derived.Test.YtjjofjnhhajjjaaB00
import Derived.Test.YtjjofjnhhajjjaaB01
import Derived.Test.YtjjofjnhhajjjaaB02
import Derived.Test.YtjjofjnhhajjjaaB03
import Derived.Test.YtjjofjnhhajjjaaB04
import Derived.Test.YtjjofjnhhajjjaaB05
import Derived.Test.YtjjofjnhhajjjaaB06
import Derived.Test.YtjjofjnhhajjjaaB07
import Derived.Test.YtjjofjnhhajjjaaB08
import Derived.Test.YtjjofjnhhajjjaaB09
import Derived.Test.YtjjofjnhhajjjaaB10
import Derived.Test.YtjjofjnhhajjjaaB11
namespace Go.Proofs.Ytjjofjnhhajjjaa.Jr
open Go.RowKit
open Nd (Row wp_world post_Row grownBy_setCell below_of_grown u8v Grew Sl hid_in i64r bytesS str encO)
set_option maxHeartbeats 1000000 in
theorem noBytes_any (e : Ent) (h : e.ok) (w : World) : Calls Try.prog 38 #[e.val] w fun r w' => r = .returned (.bool (!shortE e)) ∧ Below w.heap.size w w' := by
  obtain ⟨cl, nu, ⟨kd, pa, de, da, at_, sz⟩⟩ := e
  have hok := h.op
  have HO := hid_in hok
  clear h
  simp only [Ent.val]
  by_cases hs : shortE ⟨cl, nu, ⟨kd, pa, de, da, at_, sz⟩⟩ = true
  · have HS := hid_in ((shortE_iff _).1 hs)
    rw [hs]
    clear hs
    go_enter Try.func38, Try.ntmps38
    go_wp2_with (first | (go_at_call 56; refine (Nd.encode_ok _ HO.out HS.out _).mono ?_; rintro r w1 ⟨⟨u, rfl, -⟩, hb⟩; have HB := hid_in hb; clear hb))

    go_ret
    exact ⟨rfl, ((Below.refl _ _).alloc (Nat.le_refl _) _).trans (HB.out.mono (by simp))⟩
  · have HS := hid_in (fun x => hs ((shortE_iff _).2 x))
    have hs' : shortE ⟨cl, nu, ⟨kd, pa, de, da, at_, sz⟩⟩ = false := by simpa using hs
    rw [hs']
    clear hs hs'
    go_enter Try.func38, Try.ntmps38
    go_wp2_with (first | (go_at_call 56; refine (Nd.encode_long _ HO.out HS.out _).mono ?_; rintro r w1 ⟨rfl, hb⟩; have HB := hid_in hb; clear hb))
    go_ret
    exact ⟨rfl, ((Below.refl _ _).alloc (Nat.le_refl _) _).trans (HB.out.mono (by simp))⟩
set_option maxHeartbeats 1000000 in
set_option maxRecDepth 100000 in
theorem index_any (es : List Ent) (v : Value) (w : World) (hn : es.length ≤ 9223372036854775807) (h : Es w v es) (hok : ∀ e ∈ es, e.ok) :
    Calls Try.prog 55 #[v, .func (.func 38) #[] #[]] w fun e w' => (∃ r : Int, e = .returned (.int .i64 r) ∧ (r < 0 ↔ es.all shortE = true)) ∧ Below w.heap.size w w' := by
  obtain ⟨p, cap, rfl, hc1, hc2⟩ := h.form
  have HE := hid_in h
  have HK := hid_in hok
  clear h hok
  go_enter Try.func55, Try.ntmps55
  go_wp2_with fail
  go_loopw [8] (fun vi W => ∃ i : Nat, i ≤ es.length ∧ vi = .int .i64 (i : Int) ∧ Hid ((es.take i).all shortE = true) ∧ Hid (Below w.heap.size w W)) (fun vi _ => es.length - (intOf vi).toNat)
  case atStart => exact ⟨0, by omega, rfl, rfl, Below.refl _ _⟩
  case round =>
    obtain ⟨i, hi, rfl, hA, hB⟩ := hrel
    by_cases hlt : i < es.length
    · have hg : es[i]? = some es[i] := List.getElem?_eq_getElem hlt
      obtain ⟨b, o, rfl, hm⟩ := (HE.out.below hB.out).at hg
      have HST := hid_in (noBytes_any es[i] (HK.out _ (List.getElem_mem hlt)) wr)
      have HT := hid_in (show (es.take (i + 1)).all shortE = shortE es[i] by
        rw [List.take_succ_eq_append_getElem hlt, List.all_append, hA.out]; simp)
      have HF : Hid (shortE es[i] = false → ¬ es.all shortE = true) := hid_in (fun hf ha => by
        have := List.all_eq_true.1 ha _ (List.getElem_mem hlt)
        rw [hf] at this
        cases this)
      clear hg
      generalize es[i] = x at *
      obtain ⟨cl, nu, ⟨kd, pa, de, da, at_, sz⟩⟩ := x
      simp only [Ent.val] at HST
      have m0 : wr.cell? ⟨b, o + i * 8, none⟩ = some (.int .i64 cl) := by simpa using hm 0 _ rfl
      have m1 : wr.cell? ⟨b, o + i * 8 + 1, none⟩ = some (.int .i64 nu) := hm 1 _ rfl
      have m2 : wr.cell? ⟨b, o + i * 8 + 2, none⟩ = some (.int .i64 kd) := hm 2 _ rfl
      have m3 : wr.cell? ⟨b, o + i * 8 + 3, none⟩ = some (.string pa) := hm 3 _ rfl
      have m4 : wr.cell? ⟨b, o + i * 8 + 4, none⟩ = some (.string de) := hm 4 _ rfl
      have m5 : wr.cell? ⟨b, o + i * 8 + 5, none⟩ = some (.string da) := hm 5 _ rfl
      have m6 : wr.cell? ⟨b, o + i * 8 + 6, none⟩ = some (.int .i64 at_) := hm 6 _ rfl
      have m7 : wr.cell? ⟨b, o + i * 8 + 7, none⟩ = some (.int .i64 sz) := hm 7 _ rfl
      clear hm
      generalize hsh : shortE ⟨cl, nu, ⟨kd, pa, de, da, at_, sz⟩⟩ = sh at *
      clear hsh
      cases sh
      · go_wp2_with (first | (go_at_call 38; refine HST.out.mono ?_; rintro r w1 ⟨rfl, hb⟩; have HB1 := hid_in hb; clear hb))
        go_ret
        refine ⟨⟨_, rfl, ?_⟩, hB.out.trans (HB1.out.mono hB.out.size)⟩
        have hx := HF.out (by trivial)
        constructor
        · intro h; omega
        · intro h; exact absurd h hx
      · go_wp2_with (first | (go_at_call 38; refine HST.out.mono ?_; rintro r w1 ⟨rfl, hb⟩; have HB1 := hid_in hb; clear hb))
        go_roundw
        case rel => exact ⟨i + 1, by omega, by go_num, HT.out, hB.out.trans (HB1.out.mono hB.out.size)⟩
        case measure => simp [intOf]; omega
    · obtain rfl : i = es.length := by omega
      go_wp2
      go_ret
      exact ⟨⟨_, rfl, by rw [List.take_length] at hA; simp [hA.out]⟩, hB.out⟩
set_option maxHeartbeats 1000000 in
theorem contains_any (es : List Ent) (v : Value) (w : World) (hn : es.length ≤ 9223372036854775807) (h : Es w v es) (hok : ∀ e ∈ es, e.ok) :
    Calls Try.prog 37 #[v, .func (.func 38) #[] #[]] w fun e w' => e = .returned (.bool (!es.all shortE)) ∧ Below w.heap.size w w' := by
  have HI := hid_in (index_any es v w hn h hok)
  clear h hok
  go_enter Try.func37, Try.ntmps37
  go_wp2_with (first | (go_at_call 55; refine HI.out.mono ?_; rintro e w1 ⟨⟨r, rfl, hr⟩, hb⟩; have HR := hid_in hr; have HB := hid_in hb; clear hr hb))
  go_ret
  refine ⟨?_, HB.out⟩
  have hr := HR.out
  cases ha : es.all shortE
  · rw [ha] at hr
    have : ¬ r < 0 := fun h => by have := hr.1 h; cases this
    simp
    omega
  · rw [ha] at hr
    have : r < 0 := hr.2 rfl
    simp
    omega
end Go.Proofs.Ytjjofjnhhajjjaa.Jr
namespace Go.Proofs.Ytjjofjnhhajjjaa.Jr
open Go.RowKit
open Nd (Row wp_world post_Row grownBy_setCell below_of_grown u8v Grew Sl hid_in i64r bytesS str encO)
theorem row_new (w : World) (vs : List Value) (t : TypeId) : ∃ W, Hid (w.alloc (.cells vs.toArray t) = W) ∧ Hid (Row W w.heap.size vs t) ∧ Hid (Below w.heap.size w W) ∧ Hid (W.heap.size = w.heap.size + 1) :=
  ⟨_, rfl, Row.new w vs t, (Below.refl _ _).alloc (Nat.le_refl _) _, by show _ = _; simp⟩
theorem empty_no {d : ByteArray} (h : d ≠ ⟨#[]⟩) : (d == ⟨#[]⟩) = false ∧ d.toList.isEmpty = false ∧ (d.toList == []) = false := by
  have hl : d.toList ≠ [] := fun hh => h (by
    have e := Lib.toList_data d
    rw [hh] at e
    obtain ⟨⟨l⟩⟩ := d
    simp at e
    subst e
    rfl)
  refine ⟨by rw [Bool.eq_false_iff]; exact fun hh => h ((MapKept.bytes_beq d _).1 hh), by simpa using hl, by simpa using hl⟩
theorem size_zero {d : ByteArray} (h : d ≠ ⟨#[]⟩) : d.size ≠ 0 := by
  intro hs
  apply h
  obtain ⟨⟨l⟩⟩ := d
  have : l.length = 0 := hs
  rw [List.length_eq_zero_iff] at this
  subst this
  rfl
def ifB : Bool → Int
  | true => 0
  | false => 1
/-- what Check says -/
def ckE (k : Kt) : Int := ifB (may k)
theorem ckE_yes {k : Kt} (h : may k = true) : ckE k = 0 := by unfold ckE; rw [h]; rfl
theorem ckE_no {k : Kt} (h : may k = false) : ckE k = 1 := by unfold ckE; rw [h]; rfl
set_option maxHeartbeats 2000000 in
set_option maxRecDepth 100000 in
theorem check_any (k : Kt) (v : Value) (w : World) (hk : k.ok) (hes : Es w v k.ents) : Calls Try.prog 19 #[k.val v] w fun e w' => e = .returned (.int .i64 (ckE k)) ∧ Below w.heap.size w w' := by
  obtain ⟨vw, nm, ba, st, es⟩ := k
  obtain ⟨p, cap, rfl, hc1, hc2⟩ := hes.form
  have HE := hid_in hes
  have HOK := hid_in hk.ents
  obtain ⟨hv1, hv2⟩ := hk.view
  obtain ⟨hn1, hn2⟩ := hk.normal
  obtain ⟨hb1, hb2⟩ := hk.base
  have hst := hk.state
  have hfew := hk.few
  simp only at *
  obtain ⟨W1, HW1, HR1, HB1, HS1⟩ := row_new w [.int .i64 vw, .int .i64 nm, .int .i64 ba, .string st, .slice p es.length cap] 30
  have HCT := hid_in (fun W (x : Below w.heap.size w W) => contains_any es _ W hfew (HE.out.below x) HOK.out)
  have HM : Hid (may ⟨vw, nm, ba, st, es⟩ = (decide (0 ≤ nm ∧ nm ≤ vw ∧ vw ≤ 1099511627776) && decide (0 ≤ ba ∧ ba + (es.length : Int) ≤ 1099511627776) && decide (st.size ≤ 65536 ∧ (0 < ba ∨ st.size = 0)) && (decide (es.length ≤ 32) && es.all shortE))) := by
    show _ = _
    unfold may
    simp only
    rw [Bool.eq_iff_iff]
    simp only [Bool.and_eq_true, decide_eq_true_eq]
    constructor
    · rintro ⟨⟨h1, h2, h3, h4, h5, h6, h7, h8⟩, h9⟩
      exact ⟨⟨⟨⟨h1, h2, h3⟩, h4, h5⟩, h6, h7⟩, h8, h9⟩
    · rintro ⟨⟨⟨⟨h1, h2, h3⟩, h4, h5⟩, h6, h7⟩, h8, h9⟩
      exact ⟨⟨h1, h2, h3, h4, h5, h6, h7, h8⟩, h9⟩
  unfold ckE
  rw [HM.out]
  simp only [Kt.val]
  clear hes hk HM
  have hl0 : (0 : Int) ≤ (es.length : Int) := by omega
  have hsz0 : (0 : Int) ≤ (st.size : Int) := by omega
  generalize es.length = n at *
  generalize es.all shortE = sh at *
  obtain ⟨t1, HT1⟩ : ∃ t, Hid (decide (0 ≤ nm ∧ nm ≤ vw ∧ vw ≤ 1099511627776) = t) := ⟨_, hid_in rfl⟩
  obtain ⟨t2, HT2⟩ : ∃ t, Hid (decide (0 ≤ ba ∧ ba + (n : Int) ≤ 1099511627776) = t) := ⟨_, hid_in rfl⟩
  obtain ⟨t3, HT3⟩ : ∃ t, Hid (decide (st.size ≤ 65536 ∧ (0 < ba ∨ st.size = 0)) = t) := ⟨_, hid_in rfl⟩
  obtain ⟨t4, HT4⟩ : ∃ t, Hid ((decide (n ≤ 32) && sh) = t) := ⟨_, hid_in rfl⟩
  rw [HT1.out, HT2.out, HT3.out, HT4.out]
  go_enter Try.func19, Try.ntmps19
  go_upto_region 1 with fail
  refine wp_world HW1.out ?_
  have r0 := HR1.out.cell 0
  have r1 := HR1.out.cell 1
  have r2 := HR1.out.cell 2
  have r3 := HR1.out.cell 3
  have r4 := HR1.out.cell 4
  go_cut [3] from 7 to 21 (fun x W => x = .bool t1 ∧ W = W1)
  case first =>
    by_cases c1 : 0 ≤ nm
    · by_cases c2 : nm ≤ vw
      · by_cases c3 : vw ≤ 1099511627776
        all_goals
          go_wp2_with fail
          go_meet
          exact ⟨by first | rw [← HT1.out, decide_eq_true (by omega)] | rw [← HT1.out, decide_eq_false (by omega)], rfl⟩
      · go_wp2_with fail
        go_meet
        exact ⟨by first | rw [← HT1.out, decide_eq_true (by omega)] | rw [← HT1.out, decide_eq_false (by omega)], rfl⟩
    · go_wp2_with fail
      go_meet
      exact ⟨by first | rw [← HT1.out, decide_eq_true (by omega)] | rw [← HT1.out, decide_eq_false (by omega)], rfl⟩
  case rest =>
    obtain ⟨rfl, hwc⟩ := hcut
    subst hwc
    clear hn1 hn2 hv1 hv2
    go_upto_region 2 with fail
    go_cut [4] from 22 to 33 (fun x W => x = .bool t2 ∧ W = wc)
    case first =>
      by_cases c1 : 0 ≤ ba
      · by_cases c2 : ba ≤ 1099511627776 - (n : Int)
        all_goals
          go_wp2_with fail
          go_meet
          exact ⟨by first | rw [← HT2.out, decide_eq_true (by omega)] | rw [← HT2.out, decide_eq_false (by omega)], rfl⟩
      · go_wp2_with fail
        go_meet
        exact ⟨by first | rw [← HT2.out, decide_eq_true (by omega)] | rw [← HT2.out, decide_eq_false (by omega)], rfl⟩
    case rest =>
      obtain ⟨rfl, hwd⟩ := hcut
      subst hwd
      go_upto_region 3 with fail
      go_cut [5] from 34 to 47 (fun x W => x = .bool t3 ∧ W = wc)
      case first =>
        by_cases c1 : (st.size : Int) ≤ 65536
        · by_cases c2 : 0 < ba
          · go_wp2_with fail
            go_meet
            exact ⟨by first | rw [← HT3.out, decide_eq_true (by omega)] | rw [← HT3.out, decide_eq_false (by omega)], rfl⟩
          · by_cases c3 : st = ⟨#[]⟩
            · subst c3
              have hz : (⟨#[]⟩ : ByteArray).size = 0 := rfl
              go_wp2_with fail
              go_meet
              exact ⟨by rw [← HT3.out, decide_eq_true (by omega)], rfl⟩
            · obtain ⟨d1, d2, d3⟩ := empty_no c3
              have hz := size_zero c3
              go_wp2_with fail
              go_meet
              exact ⟨by rw [← HT3.out, decide_eq_false (by omega)], rfl⟩
        · go_wp2_with fail
          go_meet
          exact ⟨by first | rw [← HT3.out, decide_eq_true (by omega)] | rw [← HT3.out, decide_eq_false (by omega)], rfl⟩
      case rest =>
        obtain ⟨rfl, hwd⟩ := hcut
        subst hwd
        go_upto_region 4 with fail
        go_cut [6] from 48 to 57 (fun x W => x = .bool t4 ∧ Hid (Below w.heap.size w W))
        case first =>
          by_cases c1 : (n : Int) ≤ 32
          · cases sh
            all_goals
              go_wp2_with (first | (go_at_call 37; refine (HCT.out _ HB1.out).mono ?_; rintro r w2 ⟨rfl, hb⟩; have HB2 := hid_in hb; clear hb))
              go_meet
              exact ⟨by rw [← HT4.out, decide_eq_true (by omega)]; rfl, HB1.out.trans (HB2.out.mono HB1.out.size)⟩
          · go_wp2_with fail
            go_meet
            exact ⟨by rw [← HT4.out, decide_eq_false (by omega)]; rfl, HB1.out⟩
        case rest =>
          obtain ⟨rfl, HB3⟩ := hcut
          go_upto_region 5 with fail
          cases t1 <;> cases t2 <;> cases t3 <;> cases t4
          all_goals
            go_wp2_with fail
            go_ret
            exact ⟨rfl, HB3.out⟩
end Go.Proofs.Ytjjofjnhhajjjaa.Jr
namespace Go.Proofs.Ytjjofjnhhajjjaa.Jr
open Go.RowKit
open Nd (Row wp_world post_Row grownBy_setCell below_of_grown u8v Grew Sl hid_in i64r)
theorem eo_empty (w : World) : ∃ W, Hid (w.alloc (.cells #[] 51) = W) ∧ Hid (EO W w.heap.size (.slice (some ⟨w.heap.size, 0, none⟩) 0 0) []) ∧ Hid (Below w.heap.size w W) :=
  ⟨_, rfl, ⟨rfl, .inr ⟨w.heap.size, 0, _, rfl, Nat.le_refl _, (MapKept.heap_alloc w _).1, Nat.le_refl _, by unfold maxLen; omega, rfl, rfl⟩⟩, (Below.refl _ _).alloc (Nat.le_refl _) _⟩
theorem EO.mono {w : World} {B C : Nat} {v : Value} {es : List Ent} (h : EO w C v es) (hB : B ≤ C) : EO w B v es := by
  obtain ⟨h1, h2⟩ := h
  refine ⟨h1, ?_⟩
  rcases h2 with h2 | ⟨g, cap, cur, e, hC, r⟩
  · exact .inl h2
  · exact .inr ⟨g, cap, cur, e, Nat.le_trans hB hC, r⟩
theorem nil28_yes (w : World) : (binOp .eql 28 (.slice none 0 0) (.slice none 0 0)).run Try.prog w = .ok (.bool true) w := by kernel_rfl
theorem nil28_no (ad : Addr) (n c : Nat) (w : World) : (binOp .eql 28 (.slice (some ad) n c) (.slice none 0 0)).run Try.prog w = .ok (.bool false) w := by kernel_rfl
theorem EO.lt {w : World} {B : Nat} {v : Value} {es : List Ent} (h : EO w B v es) : ∀ k, v.ownBlock = some k → B ≤ k ∧ k < w.heap.size := World.ownsRow.lt h
set_option maxHeartbeats 1000000 in
set_option maxRecDepth 100000 in
theorem eclone_any (es : List Ent) (v : Value) (w : World) (hn : es.length ≤ 100000000000) (h : Es w v es) :
    Calls Try.prog 31 #[v] w fun e w' => ∃ v', e = .returned v' ∧ EO w' w.heap.size v' es ∧ Below w.heap.size w w' := by
  obtain ⟨p, cap, rfl, hc1, hc2⟩ := h.form
  rcases p with _ | ad
  · obtain ⟨_, _, _, _, h1, _, _, _, _, h6⟩ := h
    injection h1 with h1 h2 h3
    obtain ⟨rfl, h7⟩ := h6 h1.symm
    subst h3
    subst h7
    clear h1 h2 h6
    simp only [List.length_nil]
    have hn1 := nil28_yes w
    go_enter Try.func31, Try.ntmps31
    go_wp2
    go_ret
    exact ⟨_, rfl, EO.nil _ _, Below.refl _ _⟩
  · obtain ⟨W1, HW1, HN1, HB1⟩ := eo_empty w
    have HE := hid_in (h.below HB1.out)
    have hn1 := nil28_no ad es.length cap w
    have hw := HW1.out
    subst hw
    clear h HW1
    go_enter Try.func31, Try.ntmps31
    go_wp2_with (first | (at_builtin; refine wpList_appE w.heap.size rfl (.tmp 5) (.tmp 6) rfl (.slice (some ⟨w.heap.size, 0, none⟩) 0 0) [] es rfl HN1.out _ rfl HE.out (by simp; omega) HB1.out.size ?_; intro v2 w2 hn2 hg2; have HB2 := hid_in (HB1.out.grown hg2 HB1.out.size (fun k e => (HN1.out.lt k e).1)); have HN2 := hid_in hn2; clear hn2 hg2))
    go_ret
    exact ⟨_, rfl, HN2.out, HB2.out⟩
set_option maxHeartbeats 2000000 in
set_option maxRecDepth 100000 in
theorem egrow_any (n : Nat) (h0 : 0 < n) (hn : n ≤ 100000000000) (w : World) :
    Calls Try.prog 91 #[.slice none 0 0, .int .i64 (n : Int)] w fun e w' => ∃ v, e = .returned v ∧ EO w' w.heap.size v [] ∧ Below w.heap.size w w' := by
  obtain ⟨i, z, hi, hz1, hz2, hz3, hz4⟩ := info51h
  have hrun := Lib.run_append_nil_zeros (P := Try.prog) w 28 3 28 51 i z .i64 .i64 Try.underlying28 Try.underlying3 hi.out hz3.out n h0 (by rw [hz1.out]; decide) (by omega) (by rw [hz2.out]; omega)
  have k1 : ¬ (n : Int) < 0 := by omega
  have k2 : (0 : Int) < (n : Int) := by omega
  have hc1 := grownCap_ge w n 0 51
  have hc2 := grownCap_le_maxLen w n 0 51 (by unfold maxLen; omega)
  obtain ⟨C, HC⟩ : ∃ C, Hid (grownCap w n 0 51 = C) := ⟨_, hid_in rfl⟩
  rw [HC.out] at hrun hc1 hc2
  obtain ⟨W2, HW2⟩ : ∃ W2, Hid (w.drew.alloc (.cells (Builtin.zeroCells z.cells n ++ Builtin.zeroCells z.cells (C - n)) 51) = W2) := ⟨_, hid_in rfl⟩
  have HZS : Hid ((Builtin.zeroCells z.cells n ++ Builtin.zeroCells z.cells (C - n)).size = C * 8) := by
    show _ = _
    have hzc : ∀ k, (Builtin.zeroCells z.cells k).size = k * 8 := fun k => by rw [size_zeroCells, hz4.out]
    rw [Array.size_append, hzc, hzc]; omega
  have HH : Hid (W2.heap[w.heap.size]? = some (.cells (Builtin.zeroCells z.cells n ++ Builtin.zeroCells z.cells (C - n)) 51 (0, 0))) := by
    show _ = _
    rw [← HW2.out]
    exact (MapKept.heap_alloc w.drew _).1
  have HB2 : Hid (Below w.heap.size w W2) := by rw [← HW2.out]; exact ((Below.refl _ _).drew).alloc (Nat.le_refl _) _
  rw [HW2.out] at hrun
  have hsl := slice28_to (some ⟨w.heap.size, 0, none⟩) n C 0 (by omega)
  go_enter Try.func91, Try.ntmps91
  go_wp2_with (first | (at_builtin; refine Lib.wpList_append_run _ rfl _ _ 28 3 rfl _ _ rfl rfl _ _ hrun ?_))
  go_ret
  exact ⟨_, rfl, ⟨rfl, .inr ⟨w.heap.size, C, _, rfl, Nat.le_refl _, HH.out, Nat.zero_le _, hc2, by rw [HZS.out], by simp [ecells]⟩⟩, HB2.out⟩
set_option maxHeartbeats 1000000 in
theorem egrow_zero (w : World) :
    Calls Try.prog 91 #[.slice none 0 0, .int .i64 0] w fun e w' => ∃ v, e = .returned v ∧ EO w' w.heap.size v [] ∧ Below w.heap.size w w' := by
  go_enter Try.func91, Try.ntmps91
  go_wp2
  go_ret
  exact ⟨_, rfl, EO.nil _ _, Below.refl _ _⟩
set_option maxHeartbeats 4000000 in
set_option maxRecDepth 100000 in
theorem econcat_any {w : World} {cb : Nat} {av bv : Value} {xs ys : List Ent} (hr : Row w cb [av, bv] 28) (ha : Es w av xs) (hb : Es w bv ys) (hl : xs.length + ys.length ≤ 100000000000) :
    Calls Try.prog 85 #[.slice (some ⟨cb, 0, none⟩) 2 2] w fun e w' => ∃ v, e = .returned v ∧ EO w' w.heap.size v (xs ++ ys) ∧ Below w.heap.size w w' := by
  have HA := hid_in ha
  have HB := hid_in hb
  obtain ⟨ap, ac, rfl, _, _⟩ := ha.form
  obtain ⟨bp, bc, rfl, _, _⟩ := hb.form
  have c0 : w.cell? ⟨cb, 0, none⟩ = some (.slice ap xs.length ac) := hr.cell 0
  have c1 : w.cell? ⟨cb, 1, none⟩ = some (.slice bp ys.length bc) := hr.cell 1
  have HR := hid_in hr
  obtain ⟨xl, HXL⟩ : ∃ xl, Hid (xs.length = xl) := ⟨_, hid_in rfl⟩
  obtain ⟨yl, HYL⟩ : ∃ yl, Hid (ys.length = yl) := ⟨_, hid_in rfl⟩
  rw [HXL.out] at HA c0 hl HR
  rw [HYL.out] at HB c1 hl HR
  have HGR : Hid (Calls Try.prog 91 #[.slice none 0 0, .int .i64 ((xl + yl : Nat) : Int)] w fun e w' => ∃ v, e = .returned v ∧ EO w' w.heap.size v [] ∧ Below w.heap.size w w') := by
    by_cases h0 : 0 < xl + yl
    · exact egrow_any (xl + yl) h0 (by omega) w
    · obtain h00 : xl + yl = 0 := by omega
      rw [h00]
      exact egrow_zero w
  have hcast : ((xl + yl : Nat) : Int) = (xl : Int) + (yl : Int) := by omega
  rw [hcast] at HGR
  have y1 : (0 : Int) ≤ (xl : Int) := by omega
  have y2 : (0 : Int) ≤ (yl : Int) := by omega
  have y3 : (xl : Int) + (yl : Int) ≤ 100000000000 := by omega
  clear ha hb hr hcast
  go_enter Try.func85, Try.ntmps85
  go_wp2_with fail
  refine wp_loop_rounds 3 ?_
  rw [rounds_succ]
  go_wp2
  rw [rounds_succ]
  go_wp2
  rw [rounds_succ]
  go_wp2_with (first | (go_at_call 91; refine HGR.out.mono ?_; rintro e w1 ⟨v1, rfl, hn1, hb1⟩; have HN1 := hid_in hn1; have HB1 := hid_in hb1; have hr1 := HR.out.below hb1 HR.out.lt; have d0 : w1.cell? ⟨cb, 0, none⟩ = some (.slice ap xl ac) := hr1.cell 0; have d1 : w1.cell? ⟨cb, 1, none⟩ = some (.slice bp yl bc) := hr1.cell 1; have HR1 := hid_in hr1; have HA1 := hid_in (HA.out.below hb1); have HB1' := hid_in (HB.out.below hb1); clear hn1 hb1 hr1))
  refine wp_loop_rounds 3 ?_
  rw [rounds_succ]
  go_upto_region 13 with fail
  go_wp2_with (first | (at_builtin; refine wpList_appE w.heap.size rfl (.tmp 31) (.tmp 32) rfl v1 [] xs rfl HN1.out _ rfl HA1.out (by rw [HXL.out]; show 0 + xl ≤ _; omega) HB1.out.size ?_; intro v2 w2 hn2 hg2; have hb2 := HB1.out.grown hg2 HB1.out.size (fun k e => (HN1.out.lt k e).1); have hr2 := HR.out.below hb2 HR.out.lt; have e1 : w2.cell? ⟨cb, 1, none⟩ = some (.slice bp yl bc) := hr2.cell 1; have HN2 := hid_in hn2; have HB2 := hid_in hb2; have HV2 := hid_in (HB.out.below hb2); clear hn2 hg2 hb2 hr2))
  rw [rounds_succ]
  go_wp2_with (first | (at_builtin; refine wpList_appE w.heap.size rfl (.tmp 31) (.tmp 32) rfl v2 ([] ++ xs) ys rfl HN2.out _ rfl HV2.out (by rw [List.nil_append, HXL.out, HYL.out]; omega) HB2.out.size ?_; intro v3 w3 hn3 hg3; have hb3 := HB2.out.grown hg3 HB2.out.size (fun k e => (HN2.out.lt k e).1); have HN3 := hid_in hn3; have HB3 := hid_in hb3; clear hn3 hg3 hb3))
  rw [rounds_succ]
  go_wp2
  go_ret
  exact ⟨_, rfl, HN3.out, HB3.out⟩
end Go.Proofs.Ytjjofjnhhajjjaa.Jr
