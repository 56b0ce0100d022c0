/-
  hasNoBytes, IndexFunc and ContainsFunc over entries; Check. Check. An entry's fields, and those of several, put behind what an Out has.
-/
import Derived.Laws.Tables
import Derived.Laws.CopyOwn
import Derived.Deep.RegionLaw
import Derived.Deep.DrawnRows
import Derived.Deep.CutRange
import Derived.Laws.StructEq
import Derived.Lib.SlBytesConst
import Derived.OwnWalk
import Derived.Test.YtjjofjnhhajjjaaA00
import Derived.Test.YtjjofjnhhajjjaaA01
import Derived.Test.YtjjofjnhhajjjaaA02
import Derived.Test.YtjjofjnhhajjjaaA03
import Derived.Test.YtjjofjnhhajjjaaA04
import Derived.Test.YtjjofjnhhajjjaaA05
import Derived.Test.YtjjofjnhhajjjaaA06
import Derived.Test.YtjjofjnhhajjjaaA07
import Derived.Test.YtjjofjnhhajjjaaA08
import Derived.Test.YtjjofjnhhajjjaaA09
import Derived.Test.YtjjofjnhhajjjaaA10
import Derived.Test.YtjjofjnhhajjjaaA11
import Derived.Test.YtjjofjnhhajjjaaA12
namespace Go.Proofs.Ytjjofjnhhajjjaa.Jr
open Go.RowKit
open Nd (Row wp_world post_Row grownBy_setCell below_of_grown u8v Grew Sl hid_in i64r bytesS str encO)
set_option maxHeartbeats 1000000 in
theorem noBytes_any (e : Ent) (h : e.ok) (w : World) : Calls Try.prog 38 #[e.val] w fun r w' => r = .returned (.bool (!shortE e)) ∧ Below w.heap.size w w' := by
  obtain ⟨cl, nu, ⟨kd, pa, de, da, at_, sz⟩⟩ := e
  have hok := h.op
  have HO := hid_in hok
  clear h
  simp only [Ent.val]
  by_cases hs : shortE ⟨cl, nu, ⟨kd, pa, de, da, at_, sz⟩⟩ = true
  · have HS := hid_in ((shortE_iff _).1 hs)
    rw [hs]
    clear hs
    go_enter Try.func38, Try.ntmps38
    go_wp2_with (first | (go_at_call 56; refine (Nd.encode_ok _ HO.out HS.out _).mono ?_; rintro r w1 ⟨⟨u, rfl, -⟩, hb⟩; have HB := hid_in hb; clear hb))

    go_ret
    exact ⟨rfl, ((Below.refl _ _).alloc (Nat.le_refl _) _).trans (HB.out.mono (by simp))⟩
  · have HS := hid_in (fun x => hs ((shortE_iff _).2 x))
    have hs' : shortE ⟨cl, nu, ⟨kd, pa, de, da, at_, sz⟩⟩ = false := by simpa using hs
    rw [hs']
    clear hs hs'
    go_enter Try.func38, Try.ntmps38
    go_wp2_with (first | (go_at_call 56; refine (Nd.encode_long _ HO.out HS.out _).mono ?_; rintro r w1 ⟨rfl, hb⟩; have HB := hid_in hb; clear hb))
    go_ret
    exact ⟨rfl, ((Below.refl _ _).alloc (Nat.le_refl _) _).trans (HB.out.mono (by simp))⟩
set_option maxHeartbeats 1000000 in
set_option maxRecDepth 100000 in
theorem index_any (es : List Ent) (v : Value) (w : World) (hn : es.length ≤ 9223372036854775807) (h : Es w v es) (hok : ∀ e ∈ es, e.ok) :
    Calls Try.prog 55 #[v, .func (.func 38) #[] #[]] w fun e w' => (∃ r : Int, e = .returned (.int .i64 r) ∧ (r < 0 ↔ es.all shortE = true)) ∧ Below w.heap.size w w' := by
  obtain ⟨p, cap, rfl, hc1, hc2⟩ := h.form
  have HE := hid_in h
  have HK := hid_in hok
  clear h hok
  go_enter Try.func55, Try.ntmps55
  go_wp2_with fail
  go_loopw [8] (fun vi W => ∃ i : Nat, i ≤ es.length ∧ vi = .int .i64 (i : Int) ∧ Hid ((es.take i).all shortE = true) ∧ Hid (Below w.heap.size w W)) (fun vi _ => es.length - (intOf vi).toNat)
  case atStart => exact ⟨0, by omega, rfl, rfl, Below.refl _ _⟩
  case round =>
    obtain ⟨i, hi, rfl, hA, hB⟩ := hrel
    by_cases hlt : i < es.length
    · have hg : es[i]? = some es[i] := List.getElem?_eq_getElem hlt
      obtain ⟨b, o, rfl, hm⟩ := (HE.out.below hB.out).at hg
      have HST := hid_in (noBytes_any es[i] (HK.out _ (List.getElem_mem hlt)) wr)
      have HT := hid_in (show (es.take (i + 1)).all shortE = shortE es[i] by
        rw [List.take_succ_eq_append_getElem hlt, List.all_append, hA.out]; simp)
      have HF : Hid (shortE es[i] = false → ¬ es.all shortE = true) := hid_in (fun hf ha => by
        have := List.all_eq_true.1 ha _ (List.getElem_mem hlt)
        rw [hf] at this
        cases this)
      clear hg
      generalize es[i] = x at *
      obtain ⟨cl, nu, ⟨kd, pa, de, da, at_, sz⟩⟩ := x
      simp only [Ent.val] at HST
      have m0 : wr.cell? ⟨b, o + i * 8, none⟩ = some (.int .i64 cl) := by simpa using hm 0 _ rfl
      have m1 : wr.cell? ⟨b, o + i * 8 + 1, none⟩ = some (.int .i64 nu) := hm 1 _ rfl
      have m2 : wr.cell? ⟨b, o + i * 8 + 2, none⟩ = some (.int .i64 kd) := hm 2 _ rfl
      have m3 : wr.cell? ⟨b, o + i * 8 + 3, none⟩ = some (.string pa) := hm 3 _ rfl
      have m4 : wr.cell? ⟨b, o + i * 8 + 4, none⟩ = some (.string de) := hm 4 _ rfl
      have m5 : wr.cell? ⟨b, o + i * 8 + 5, none⟩ = some (.string da) := hm 5 _ rfl
      have m6 : wr.cell? ⟨b, o + i * 8 + 6, none⟩ = some (.int .i64 at_) := hm 6 _ rfl
      have m7 : wr.cell? ⟨b, o + i * 8 + 7, none⟩ = some (.int .i64 sz) := hm 7 _ rfl
      clear hm
      generalize hsh : shortE ⟨cl, nu, ⟨kd, pa, de, da, at_, sz⟩⟩ = sh at *
      clear hsh
      cases sh
      · go_wp2_with (first | (go_at_call 38; refine HST.out.mono ?_; rintro r w1 ⟨rfl, hb⟩; have HB1 := hid_in hb; clear hb))
        go_ret
        refine ⟨⟨_, rfl, ?_⟩, hB.out.trans (HB1.out.mono hB.out.size)⟩
        have hx := HF.out (by trivial)
        constructor
        · intro h; omega
        · intro h; exact absurd h hx
      · go_wp2_with (first | (go_at_call 38; refine HST.out.mono ?_; rintro r w1 ⟨rfl, hb⟩; have HB1 := hid_in hb; clear hb))
        go_roundw
        case rel => exact ⟨i + 1, by omega, by go_num, HT.out, hB.out.trans (HB1.out.mono hB.out.size)⟩
        case measure => simp [intOf]; omega
    · obtain rfl : i = es.length := by omega
      go_wp2
      go_ret
      exact ⟨⟨_, rfl, by rw [List.take_length] at hA; simp [hA.out]⟩, hB.out⟩
set_option maxHeartbeats 1000000 in
theorem contains_any (es : List Ent) (v : Value) (w : World) (hn : es.length ≤ 9223372036854775807) (h : Es w v es) (hok : ∀ e ∈ es, e.ok) :
    Calls Try.prog 37 #[v, .func (.func 38) #[] #[]] w fun e w' => e = .returned (.bool (!es.all shortE)) ∧ Below w.heap.size w w' := by
  have HI := hid_in (index_any es v w hn h hok)
  clear h hok
  go_enter Try.func37, Try.ntmps37
  go_wp2_with (first | (go_at_call 55; refine HI.out.mono ?_; rintro e w1 ⟨⟨r, rfl, hr⟩, hb⟩; have HR := hid_in hr; have HB := hid_in hb; clear hr hb))
  go_ret
  refine ⟨?_, HB.out⟩
  have hr := HR.out
  cases ha : es.all shortE
  · rw [ha] at hr
    have : ¬ r < 0 := fun h => by have := hr.1 h; cases this
    simp
    omega
  · rw [ha] at hr
    have : r < 0 := hr.2 rfl
    simp
    omega
end Go.Proofs.Ytjjofjnhhajjjaa.Jr
namespace Go.Proofs.Ytjjofjnhhajjjaa.Jr
open Go.RowKit
open Nd (Row wp_world post_Row grownBy_setCell below_of_grown u8v Grew Sl hid_in i64r bytesS str encO)
theorem row_new (w : World) (vs : List Value) (t : TypeId) : ∃ W, Hid (w.alloc (.cells vs.toArray t) = W) ∧ Hid (Row W w.heap.size vs t) ∧ Hid (Below w.heap.size w W) ∧ Hid (W.heap.size = w.heap.size + 1) :=
  ⟨_, rfl, Row.new w vs t, (Below.refl _ _).alloc (Nat.le_refl _) _, by show _ = _; simp⟩
theorem empty_no {d : ByteArray} (h : d ≠ ⟨#[]⟩) : (d == ⟨#[]⟩) = false ∧ d.toList.isEmpty = false ∧ (d.toList == []) = false := by
  have hl : d.toList ≠ [] := fun hh => h (by
    have e := Lib.toList_data d
    rw [hh] at e
    obtain ⟨⟨l⟩⟩ := d
    simp at e
    subst e
    rfl)
  refine ⟨by rw [Bool.eq_false_iff]; exact fun hh => h ((MapKept.bytes_beq d _).1 hh), by simpa using hl, by simpa using hl⟩
theorem size_zero {d : ByteArray} (h : d ≠ ⟨#[]⟩) : d.size ≠ 0 := by
  intro hs
  apply h
  obtain ⟨⟨l⟩⟩ := d
  have : l.length = 0 := hs
  rw [List.length_eq_zero_iff] at this
  subst this
  rfl
def ifB : Bool → Int
  | true => 0
  | false => 1
/-- what Check says -/
def ckE (k : Kt) : Int := ifB (may k)
theorem ckE_yes {k : Kt} (h : may k = true) : ckE k = 0 := by unfold ckE; rw [h]; rfl
theorem ckE_no {k : Kt} (h : may k = false) : ckE k = 1 := by unfold ckE; rw [h]; rfl
set_option maxHeartbeats 2000000 in
set_option maxRecDepth 100000 in
theorem check_any (k : Kt) (v : Value) (w : World) (hk : k.ok) (hes : Es w v k.ents) : Calls Try.prog 19 #[k.val v] w fun e w' => e = .returned (.int .i64 (ckE k)) ∧ Below w.heap.size w w' := by
  obtain ⟨vw, nm, ba, st, es⟩ := k
  obtain ⟨p, cap, rfl, hc1, hc2⟩ := hes.form
  have HE := hid_in hes
  have HOK := hid_in hk.ents
  obtain ⟨hv1, hv2⟩ := hk.view
  obtain ⟨hn1, hn2⟩ := hk.normal
  obtain ⟨hb1, hb2⟩ := hk.base
  have hst := hk.state
  have hfew := hk.few
  simp only at *
  obtain ⟨W1, HW1, HR1, HB1, HS1⟩ := row_new w [.int .i64 vw, .int .i64 nm, .int .i64 ba, .string st, .slice p es.length cap] 30
  have HCT := hid_in (fun W (x : Below w.heap.size w W) => contains_any es _ W hfew (HE.out.below x) HOK.out)
  have HM : Hid (may ⟨vw, nm, ba, st, es⟩ = (decide (0 ≤ nm ∧ nm ≤ vw ∧ vw ≤ 1099511627776) && decide (0 ≤ ba ∧ ba + (es.length : Int) ≤ 1099511627776) && decide (st.size ≤ 65536 ∧ (0 < ba ∨ st.size = 0)) && (decide (es.length ≤ 32) && es.all shortE))) := by
    show _ = _
    unfold may
    simp only
    rw [Bool.eq_iff_iff]
    simp only [Bool.and_eq_true, decide_eq_true_eq]
    constructor
    · rintro ⟨⟨h1, h2, h3, h4, h5, h6, h7, h8⟩, h9⟩
      exact ⟨⟨⟨⟨h1, h2, h3⟩, h4, h5⟩, h6, h7⟩, h8, h9⟩
    · rintro ⟨⟨⟨⟨h1, h2, h3⟩, h4, h5⟩, h6, h7⟩, h8, h9⟩
      exact ⟨⟨h1, h2, h3, h4, h5, h6, h7, h8⟩, h9⟩
  unfold ckE
  rw [HM.out]
  simp only [Kt.val]
  clear hes hk HM
  have hl0 : (0 : Int) ≤ (es.length : Int) := by omega
  have hsz0 : (0 : Int) ≤ (st.size : Int) := by omega
  generalize es.length = n at *
  generalize es.all shortE = sh at *
  obtain ⟨t1, HT1⟩ : ∃ t, Hid (decide (0 ≤ nm ∧ nm ≤ vw ∧ vw ≤ 1099511627776) = t) := ⟨_, hid_in rfl⟩
  obtain ⟨t2, HT2⟩ : ∃ t, Hid (decide (0 ≤ ba ∧ ba + (n : Int) ≤ 1099511627776) = t) := ⟨_, hid_in rfl⟩
  obtain ⟨t3, HT3⟩ : ∃ t, Hid (decide (st.size ≤ 65536 ∧ (0 < ba ∨ st.size = 0)) = t) := ⟨_, hid_in rfl⟩
  obtain ⟨t4, HT4⟩ : ∃ t, Hid ((decide (n ≤ 32) && sh) = t) := ⟨_, hid_in rfl⟩
  rw [HT1.out, HT2.out, HT3.out, HT4.out]
  go_enter Try.func19, Try.ntmps19
  go_upto_region 1 with fail
  refine wp_world HW1.out ?_
  have r0 := HR1.out.cell 0
  have r1 := HR1.out.cell 1
  have r2 := HR1.out.cell 2
  have r3 := HR1.out.cell 3
  have r4 := HR1.out.cell 4
  go_cut [3] from 7 to 21 (fun x W => x = .bool t1 ∧ W = W1)
  case first =>
    by_cases c1 : 0 ≤ nm
    · by_cases c2 : nm ≤ vw
      · by_cases c3 : vw ≤ 1099511627776
        all_goals
          go_wp2_with fail
          go_meet
          exact ⟨by first | rw [← HT1.out, decide_eq_true (by omega)] | rw [← HT1.out, decide_eq_false (by omega)], rfl⟩
      · go_wp2_with fail
        go_meet
        exact ⟨by first | rw [← HT1.out, decide_eq_true (by omega)] | rw [← HT1.out, decide_eq_false (by omega)], rfl⟩
    · go_wp2_with fail
      go_meet
      exact ⟨by first | rw [← HT1.out, decide_eq_true (by omega)] | rw [← HT1.out, decide_eq_false (by omega)], rfl⟩
  case rest =>
    obtain ⟨rfl, hwc⟩ := hcut
    subst hwc
    clear hn1 hn2 hv1 hv2
    go_upto_region 2 with fail
    go_cut [4] from 22 to 33 (fun x W => x = .bool t2 ∧ W = wc)
    case first =>
      by_cases c1 : 0 ≤ ba
      · by_cases c2 : ba ≤ 1099511627776 - (n : Int)
        all_goals
          go_wp2_with fail
          go_meet
          exact ⟨by first | rw [← HT2.out, decide_eq_true (by omega)] | rw [← HT2.out, decide_eq_false (by omega)], rfl⟩
      · go_wp2_with fail
        go_meet
        exact ⟨by first | rw [← HT2.out, decide_eq_true (by omega)] | rw [← HT2.out, decide_eq_false (by omega)], rfl⟩
    case rest =>
      obtain ⟨rfl, hwd⟩ := hcut
      subst hwd
      go_upto_region 3 with fail
      go_cut [5] from 34 to 47 (fun x W => x = .bool t3 ∧ W = wc)
      case first =>
        by_cases c1 : (st.size : Int) ≤ 65536
        · by_cases c2 : 0 < ba
          · go_wp2_with fail
            go_meet
            exact ⟨by first | rw [← HT3.out, decide_eq_true (by omega)] | rw [← HT3.out, decide_eq_false (by omega)], rfl⟩
          · by_cases c3 : st = ⟨#[]⟩
            · subst c3
              have hz : (⟨#[]⟩ : ByteArray).size = 0 := rfl
              go_wp2_with fail
              go_meet
              exact ⟨by rw [← HT3.out, decide_eq_true (by omega)], rfl⟩
            · obtain ⟨d1, d2, d3⟩ := empty_no c3
              have hz := size_zero c3
              go_wp2_with fail
              go_meet
              exact ⟨by rw [← HT3.out, decide_eq_false (by omega)], rfl⟩
        · go_wp2_with fail
          go_meet
          exact ⟨by first | rw [← HT3.out, decide_eq_true (by omega)] | rw [← HT3.out, decide_eq_false (by omega)], rfl⟩
      case rest =>
        obtain ⟨rfl, hwd⟩ := hcut
        subst hwd
        go_upto_region 4 with fail
        go_cut [6] from 48 to 57 (fun x W => x = .bool t4 ∧ Hid (Below w.heap.size w W))
        case first =>
          by_cases c1 : (n : Int) ≤ 32
          · cases sh
            all_goals
              go_wp2_with (first | (go_at_call 37; refine (HCT.out _ HB1.out).mono ?_; rintro r w2 ⟨rfl, hb⟩; have HB2 := hid_in hb; clear hb))
              go_meet
              exact ⟨by rw [← HT4.out, decide_eq_true (by omega)]; rfl, HB1.out.trans (HB2.out.mono HB1.out.size)⟩
          · go_wp2_with fail
            go_meet
            exact ⟨by rw [← HT4.out, decide_eq_false (by omega)]; rfl, HB1.out⟩
        case rest =>
          obtain ⟨rfl, HB3⟩ := hcut
          go_upto_region 5 with fail
          cases t1 <;> cases t2 <;> cases t3 <;> cases t4
          all_goals
            go_wp2_with fail
            go_ret
            exact ⟨rfl, HB3.out⟩
end Go.Proofs.Ytjjofjnhhajjjaa.Jr
namespace Go.Proofs.Ytjjofjnhhajjjaa.Jr
open Go.RowKit
open Nd (Row wp_world post_Row grownBy_setCell grownBy_trans below_of_grown u8v Grew Sl hid_in i64r bytesS str encO OutB OutA)
/-- the Out at block g has made the bytes xs, at most m -/
def OutL (w : World) (B g : Nat) (xs : List Nat) (m : Nat) : Prop := OutB w B g xs ∧ xs.length ≤ m
theorem OutL.below {w w' : World} {B g m : Nat} {xs : List Nat} (h : OutL w B g xs m) (hb : Below w.heap.size w w') : OutL w' B g xs m := ⟨Nd.OutB.below h.1 hb, h.2⟩
theorem num_l (w : World) (B g : Nat) (xs : List Nat) (m n : Nat) (hn : n < 18446744073709551616) (hg : B ≤ g) (ho : OutL w B g xs m) (hl : m ≤ 100000000000) :
    Calls Try.prog 88 #[.pointer (some ⟨g, 0, none⟩), .int .u64 (n : Int)] w fun e w' => e = .returned (.tuple #[]) ∧ OutL w' B g (xs ++ Nd.Wire.num n) (m + 10) ∧ Below B w w' := by
  have h2 := ho.2
  refine (Nd.num_o w B g xs n hn hg ho.1 (by omega)).mono ?_
  rintro e w' ⟨rfl, h3, h4⟩
  have := Nd.num_length n
  exact ⟨rfl, ⟨h3, by rw [List.length_append]; omega⟩, h4⟩
theorem text_l (w : World) (B g : Nat) (xs : List Nat) (m : Nat) (s : ByteArray) (hg : B ≤ g) (ho : OutL w B g xs m) (hl : m ≤ 100000000000) (hs : s.size ≤ 100000) :
    Calls Try.prog 76 #[.pointer (some ⟨g, 0, none⟩), .string s] w fun e w' => e = .returned (.tuple #[]) ∧ OutL w' B g (xs ++ (Nd.Wire.num s.size ++ bytesS s)) (m + 100010) ∧ Below B w w' := by
  have h2 := ho.2
  refine (Nd.text_o w B g xs s hg ho.1 (by omega)).mono ?_
  rintro e w' ⟨rfl, h3, h4⟩
  have := Nd.num_length s.size
  exact ⟨rfl, ⟨h3, by simp only [List.length_append, Nd.bytesS_length]; omega⟩, h4⟩
/-- the Out at block g has made the bytes xs; its bytes lie in no block from N up to M -/
def OutZ (w : World) (B g N M : Nat) (xs : List Nat) : Prop := ∃ v, Nd.OutIs w B g v xs ∧ ∀ q, v.ownBlock = some q → q < N ∨ M ≤ q
theorem OutL.toZ {w w' : World} {B g m M : Nat} {xs : List Nat} (h : OutL w B g xs m) (hb : Below w.heap.size w w') : OutZ w' B g w.heap.size M xs := by
  obtain ⟨⟨v, hv⟩, _⟩ := h
  exact ⟨v, hv.below hb, fun q hq => .inl (World.ownsRow.lt hv.own q hq).2⟩
theorem OutZ.to {w : World} {B g N M : Nat} {xs : List Nat} (h : OutZ w B g N M xs) : OutB w B g xs := by
  obtain ⟨v, hv, _⟩ := h
  exact ⟨v, hv⟩
theorem outZ_step {w w' : World} {B g N M : Nat} {v v' : Value} {xs ys : List Nat} (hg : B ≤ g) (hN : g < N) (hM : M ≤ w.heap.size) (hv : Nd.OutIs w B g v xs) (hz : ∀ q, v.ownBlock = some q → q < N ∨ M ≤ q) (h1 : Nd.OutIs w' B g v' ys) (h2 : Grew w w' (Nd.OutS g v)) (h3 : Nd.Moved w v v') :
    OutZ w' B g N M ys ∧ Below B w w' ∧ Grew w w' (fun k => k < N ∨ M ≤ k) := by
  refine ⟨⟨v', h1, fun q hq => ?_⟩, Nd.out_below hg hv h2, h2.mono ?_⟩
  · rcases h3 with h3 | ⟨r, h3, h4⟩
    · exact hz q (h3 ▸ hq)
    · rw [h3] at hq
      cases hq
      exact .inr (Nat.le_trans hM h4)
  · rintro k (rfl | hk)
    · exact .inl hN
    · exact hz k hk.symm
theorem int_z (w : World) (B g N M : Nat) (xs : List Nat) (n : Int) (hn : i64r n) (hg : B ≤ g) (hN : g < N) (hM : M ≤ w.heap.size) (ho : OutZ w B g N M xs) (hl : xs.length + 10 ≤ 140737488355328) :
    Calls Try.prog 75 #[.pointer (some ⟨g, 0, none⟩), .int .i64 n] w fun e w' => e = .returned (.tuple #[]) ∧ OutZ w' B g N M (xs ++ Nd.Wire.num (Nd.Wire.zz n)) ∧ Below B w w' ∧ Grew w w' (fun k => k < N ∨ M ≤ k) := by
  obtain ⟨v, hv, hz⟩ := ho
  refine (Nd.oint_any w B g v xs n hn.1 hn.2 hv hl).mono ?_
  rintro e w' ⟨rfl, v', h1, h2, h3⟩
  exact ⟨rfl, outZ_step hg hN hM hv hz h1 h2 h3⟩
set_option maxHeartbeats 2000000 in
set_option maxRecDepth 100000 in
theorem putEntry_any (w : World) (B g : Nat) (xs : List Nat) (m : Nat) (e : Ent) (hg : B ≤ g) (ho : OutL w B g xs m) (hl : m ≤ 100000000000) (he : e.ok) (hs : e.op.short) :
    Calls Try.prog 89 #[.pointer (some ⟨g, 0, none⟩), e.val] w fun x w' => x = .returned (.tuple #[]) ∧ OutL w' B g (xs ++ entS e) (m + 4030) ∧ Below B w w' := by
  obtain ⟨cl, nu, ⟨kd, pa, de, da, at_, sz⟩⟩ := e
  simp only [Ent.val]
  have hb := Nd.OutB.base ho.1
  have hgl := Nd.OutB.blk ho.1
  obtain ⟨W1, H1, HR1, HB1, HS1⟩ := row_new w [.int .i64 cl, .int .i64 nu, .int .i64 kd, .string pa, .string de, .string da, .int .i64 at_, .int .i64 sz] 51
  have HZ := hid_in (fun M W (hb : Below w.heap.size w W) => OutL.toZ (M := M) ho hb)
  have HE := hid_in (Nd.encode_ok ⟨kd, pa, de, da, at_, sz⟩ he.op hs W1)
  have HCL := hid_in he.cl
  have HNU := hid_in he.nu
  have h2 := ho.2
  have hel := Nd.encO_len ⟨kd, pa, de, da, at_, sz⟩ hs
  have HLT := hid_in (Nd.encO_lt he.op hs)
  have hz1 := Nd.num_length (Nd.Wire.zz cl)
  have hz2 := Nd.num_length (Nd.Wire.zz nu)
  have hz3 := Nd.num_length (encO ⟨kd, pa, de, da, at_, sz⟩).length
  have HL0 : Hid (xs.length + 10 ≤ 140737488355328) := by show _ ≤ _; omega
  have HL1 : Hid ((xs ++ Nd.Wire.num (Nd.Wire.zz cl)).length + 10 ≤ 140737488355328) := by show _ ≤ _; rw [List.length_append]; omega
  have HL2 : Hid (((xs ++ Nd.Wire.num (Nd.Wire.zz cl)) ++ Nd.Wire.num (Nd.Wire.zz nu)).length + 10 + (str (encO ⟨kd, pa, de, da, at_, sz⟩)).size ≤ 140737488355328) := by
    show _ ≤ _
    rw [Nd.str_size, List.length_append, List.length_append]; omega
  have HL3 : Hid ((xs ++ entS ⟨cl, nu, ⟨kd, pa, de, da, at_, sz⟩⟩).length ≤ m + 4030) := by
    show _ ≤ _
    unfold entS
    simp only [List.length_append]
    omega
  have HXX : Hid (xs ++ entS ⟨cl, nu, ⟨kd, pa, de, da, at_, sz⟩⟩ = ((xs ++ Nd.Wire.num (Nd.Wire.zz cl)) ++ Nd.Wire.num (Nd.Wire.zz nu)) ++ (Nd.Wire.num (str (encO ⟨kd, pa, de, da, at_, sz⟩)).size ++ bytesS (str (encO ⟨kd, pa, de, da, at_, sz⟩)))) := by
    show _ = _
    rw [Nd.str_size, Nd.bytesS_str HLT.out]
    unfold entS
    simp
  generalize encO ⟨kd, pa, de, da, at_, sz⟩ = eb at *
  have HBB := hid_in hb
  have HGL := hid_in hgl
  have q2 : W1.cell? ⟨w.heap.size, 2, none⟩ = some (.int .i64 kd) := HR1.out.cell 2
  have q3 : W1.cell? ⟨w.heap.size, 3, none⟩ = some (.string pa) := HR1.out.cell 3
  have q4 : W1.cell? ⟨w.heap.size, 4, none⟩ = some (.string de) := HR1.out.cell 4
  have q5 : W1.cell? ⟨w.heap.size, 5, none⟩ = some (.string da) := HR1.out.cell 5
  have q6 : W1.cell? ⟨w.heap.size, 6, none⟩ = some (.int .i64 at_) := HR1.out.cell 6
  have q7 : W1.cell? ⟨w.heap.size, 7, none⟩ = some (.int .i64 sz) := HR1.out.cell 7
  clear ho he hs h2 hel hz1 hz2 hz3 hl hb hgl
  go_enter Try.func89, Try.ntmps89
  go_upto_region 1 with fail
  refine wp_world H1.out ?_
  go_upto_region 2 with (first | (go_at_call 56; refine HE.out.mono ?_; rintro x w2 ⟨⟨u, rfl, hu⟩, hb⟩; have HOW := hid_in hu; obtain ⟨p, c, b, rfl, hsl, hno⟩ := Nd.own_sl HLT.out hu; have HSL := hid_in hsl; have HB2 := hid_in hb; clear hsl hno hu hb))
  have HR2 := hid_in (HR1.out.below HB2.out HR1.out.lt)
  have HA2 := hid_in (HZ.out w2.heap.size w2 (HB1.out.trans (HB2.out.mono HB1.out.size)))
  have HI2 : Hid (w.heap.size < w2.heap.size) := HR2.out.lt
  have HBI : Hid (0 < eb.length → w.heap.size < b ∧ b < w2.heap.size) := fun h0 => by
    have e1 := HSL.out.at_ h0
    subst e1
    have e2 := World.ownsRow.lt HOW.out b rfl
    rw [HS1.out] at e2
    exact ⟨by omega, e2.2⟩
  have r0 : w2.cell? ⟨w.heap.size, 0, none⟩ = some (.int .i64 cl) := HR2.out.cell 0
  go_upto_region 3 with (first | (go_at_call 75; refine (int_z _ B g w.heap.size w2.heap.size _ cl HCL.out hg HGL.out (Nat.le_refl _) HA2.out HL0.out).mono ?_; rintro x w3 ⟨rfl, h1, h2, h3⟩; have HA3 := hid_in h1; have HB3 := hid_in h2; have HR3 := hid_in (HR2.out.grew h3 (fun h => by have := HI2.out; omega)); have HG3 := hid_in h3; clear h1 h2 h3 r0))
  have r1 : w3.cell? ⟨w.heap.size, 1, none⟩ = some (.int .i64 nu) := HR3.out.cell 1
  go_upto_region 4 with (first | (go_at_call 75; refine (int_z _ B g w.heap.size w2.heap.size _ nu HNU.out hg HGL.out HG3.out.size HA3.out HL1.out).mono ?_; rintro x w4 ⟨rfl, h1, h2, h3⟩; have HO4 := hid_in h1.to; have HB4 := hid_in h2; have HG4 := hid_in (HG3.out.trans h3 (fun _ _ h => h)); clear h1 h2 h3 r1))
  have HS4 := hid_in (HSL.out.grew HG4.out (fun h0 h => by have := HBI.out h0; omega))
  have hcv := Nd.conv_sl HS4.out
  go_wp2_with (first | (go_at_call 76; refine (Nd.text_o _ B g _ _ hg HO4.out HL2.out).mono ?_; rintro x w5 ⟨rfl, h1, h2⟩; have HO5 := hid_in h1; have HB5 := hid_in h2; clear h1 h2))
  go_end0
  refine ⟨rfl, ⟨?_, HL3.out⟩, ?_⟩
  · rw [HXX.out]
    exact HO5.out
  · have b1 : Below B w w2 := (HB1.out.mono HBB.out).trans (HB2.out.mono (Nat.le_trans HBB.out HB1.out.size))
    exact ((b1.trans HB3.out).trans HB4.out).trans HB5.out
end Go.Proofs.Ytjjofjnhhajjjaa.Jr
