/-
  The reference's file system: Place, below, without. The reference's Look, dirOf.
-/
import Derived.Laws.CopyOwn
import Derived.Deep.RegionLaw
import Derived.Deep.DrawnRows
import Derived.Deep.CutRange
import Derived.Lib.SlBytesConst
import Derived.Lib.AppendZeros
import Derived.Laws.Tables
import Derived.Test.YtngehkmdanhgpaaGreatQ00
import Derived.Test.YtngehkmdanhgpaaGreatQ01
import Derived.Test.YtngehkmdanhgpaaGreatQ02
import Derived.Test.YtngehkmdanhgpaaGreatQ03
import Derived.Test.YtngehkmdanhgpaaGreatQ04
import Derived.Test.YtngehkmdanhgpaaGreatQ05
import Derived.Test.YtngehkmdanhgpaaGreatQ06
import Derived.Test.YtngehkmdanhgpaaGreatQ07
import Derived.Test.YtngehkmdanhgpaaGreatQ08
import Derived.Test.YtngehkmdanhgpaaGreatQ09
import Derived.Test.YtngehkmdanhgpaaGreatQ10
import Derived.Test.YtngehkmdanhgpaaGreatQ11
import Derived.Test.YtngehkmdanhgpaaGreatQ12
import Derived.Test.YtngehkmdanhgpaaGreatQ13
import Derived.Test.YtngehkmdanhgpaaGreatQ14
import Derived.Test.YtngehkmdanhgpaaGreatQ15
import Derived.Test.YtngehkmdanhgpaaGreatQ16
import Derived.Test.YtngehkmdanhgpaaGreatQ17
import Derived.Test.YtngehkmdanhgpaaGreatQ18
import Derived.Test.YtngehkmdanhgpaaGreatQ19
import Derived.Test.YtngehkmdanhgpaaGreatQ20
import Derived.Test.YtngehkmdanhgpaaGreatQ21
import Derived.Test.YtngehkmdanhgpaaGreatQ22
import Derived.Test.YtngehkmdanhgpaaGreatQ23
import Derived.Test.YtngehkmdanhgpaaGreatQ24
import Derived.Test.YtngehkmdanhgpaaGreatQ25
import Derived.Test.YtngehkmdanhgpaaGreatQ26
import Derived.Test.YtngehkmdanhgpaaGreatQ27
import Derived.Test.YtngehkmdanhgpaaGreatQ28
import Derived.Test.YtngehkmdanhgpaaGreatQ29
import Derived.Test.YtngehkmdanhgpaaGreatQ30
import Derived.Test.YtngehkmdanhgpaaGreatQ31
import Derived.Test.YtngehkmdanhgpaaGreatQ32
namespace Go.Proofs.YtngehkmdanhgpaaGreat.Pl
open Go.RowKit
open Vp (Str B bl Val cmpL parseS showS splitS withinS IsPath)
open Nd (Row wp_world post_Row post_Row2 grownBy_setCell below_of_grown)
open Rf (Fil Fls FO fcells)
theorem gp_size {n : List Str} (h : Gp n) : (B (showS n)).size ≤ 200 := by
  have h6 := Vp.show_len n
  have h7 := h.lens
  have h8 : (B (showS n)).size = (showS n).length := by simp [B, ByteArray.size]
  omega
theorem nms_showR {n : List Str} (h : Gp n) : Rf.nmsOf (B (showS n)) = n := by
  unfold Rf.nmsOf
  rw [Vp.bl_B, h.parse]
theorem at_noneP {A : List Ent} {n : List Str} : entAt A n = none ↔ n ∉ A.map (·.names) := by
  unfold entAt
  rw [List.find?_eq_none]
  constructor
  · intro h hm
    obtain ⟨e, he, hn⟩ := List.mem_map.1 hm
    exact h e he (by simpa using hn)
  · intro h e he hn
    exact h (List.mem_map.2 ⟨e, he, by simpa using hn⟩)
def Ent.fil (e : Ent) : Fil := ⟨B (showS e.names), e.dir, e.data⟩
theorem FO.nilP (w : World) (B : Nat) : FO w B (.slice none 0 0) [] := World.ownsRow_nil _ _ _ _
/-- the reference's file system: block r leads to files -/
structure RF (w : World) (r : Nat) (es : List Ent) : Prop where
  ex : ∃ v, Row w r [v] 43 ∧ FO w 0 v (es.map Ent.fil)
theorem RF.below {w w' : World} {r : Nat} {es : List Ent} (h : RF w r es) (k : Below w.heap.size w w') : RF w' r es := by
  obtain ⟨v, h1, h2⟩ := h.ex
  exact ⟨v, h1.below k h1.lt, h2.below k⟩
theorem RF.at_ {w : World} {r : Nat} {es : List Ent} (h : RF w r es) : ∃ p cap b o, es.length ≤ cap ∧ cap ≤ 9223372036854775807 ∧ Row w r [.slice p es.length cap] 43 ∧ FO w 0 (.slice p es.length cap) (es.map Ent.fil) ∧ ∀ W, Below w.heap.size w W → ∀ (i : Nat) e, es[i]? = some e → p = some ⟨b, o, none⟩ ∧ W.cell? ⟨b, o + i * 3, none⟩ = some (.string (B (showS e.names))) ∧ W.cell? ⟨b, o + i * 3 + 1, none⟩ = some (.bool e.dir) ∧ W.cell? ⟨b, o + i * 3 + 2, none⟩ = some (.string e.data) := by
  obtain ⟨v, h1, h2⟩ := h.ex
  obtain ⟨p, cap, b, o, hv, h3, h4, h5⟩ := h2.fls.cells3
  rw [List.length_map] at hv h3
  subst hv
  refine ⟨p, cap, b, o, h3, h4, h1, h2, fun W hW i e hi => ?_⟩
  obtain ⟨q1, q2⟩ := h5 i e.fil (by rw [List.getElem?_map, hi]; rfl)
  exact ⟨q1, q2 W hW⟩
def GoodL (es : List Ent) : Prop := ∀ e ∈ es, Gp e.names ∧ e.names ≠ []
def IsAt (es : List Ent) (xs : List Str) (k : Int) : Prop := (k = -1 ∧ entAt es xs = none) ∨ ∃ (i : Nat) (e : Ent), k = (i : Int) ∧ es[i]? = some e ∧ e.names = xs
set_option maxHeartbeats 2000000 in
set_option maxRecDepth 100000 in
theorem rplace_any {w : World} {r : Nat} {es : List Ent} (h : RF w r es) (hg : GoodL es) {u : Value} {xs : List Str} (hv : Val w u xs) (hx : Gp xs) :
    Calls Tryz.prog 36 #[.pointer (some ⟨r, 0, none⟩), u] w fun e w' => ∃ k : Int, e = .returned (.int .i64 k) ∧ IsAt es xs k ∧ Below w.heap.size w w' := by
  obtain ⟨np, nc, rfl⟩ : ∃ p c, u = .slice p xs.length c := by obtain ⟨p, c, e, _⟩ := hv; exact ⟨p, c, e⟩
  have HSH := hid_in (Vp.rshow_v hv (by have := hx.lens; omega))
  obtain ⟨p, cap, b, o, hc1, hc2, hrow, -, hat⟩ := h.at_
  have HAT := hid_in hat
  have HROW := hid_in hrow
  obtain ⟨T, HT⟩ : ∃ T, Hid (B (showS xs) = T) := ⟨_, hid_in rfl⟩
  rw [HT.out] at HSH
  have HXS := hid_in hx
  have HG := hid_in hg
  generalize hnl : xs.length = nl at *
  generalize hnn : es.length = n at *
  have HNN := hid_in hnn
  clear h hg hv hx hat hrow hnl hnn
  go_enter Tryz.func36, Tryz.ntmps36
  go_upto_region 2 with (go_at_call 20; refine HSH.out.mono ?_; rintro e w1 ⟨rfl, hd1⟩; have HB1 : Hid (Below w.heap.size w w1) := hid_in (by obtain ⟨m, hm⟩ := hd1; rw [hm]; exact below_drewN (Below.refl _ _) m); clear hd1)
  go_wp2_with fail
  go_loopw [6] (fun vi W => ∃ i : Nat, i ≤ n ∧ vi = .int .i64 (i : Int) ∧ Hid (Below w.heap.size w W ∧ ∀ (j : Nat) e, j < i → es[j]? = some e → e.names ≠ xs)) (fun vi _ => n - (intOf vi).toNat)
  case atStart => exact ⟨0, by omega, rfl, HB1.out, fun j e hj => by omega⟩
  case round =>
    obtain ⟨i, hi, rfl, hbn⟩ := hrel
    have HBR := hid_in hbn.out.1
    have hno := hid_in hbn.out.2
    clear hbn
    have q2 : wr.cell? ⟨r, 0, none⟩ = some (.slice p n cap) := (HROW.out.below HBR.out HROW.out.lt).cell 0
    by_cases hlt : i < n
    · obtain ⟨e, he⟩ : ∃ e, es[i]? = some e := ⟨_, List.getElem?_eq_getElem (by rw [HNN.out]; exact hlt)⟩
      obtain ⟨rfl, c0, -, -⟩ := HAT.out _ HBR.out i e he
      have hlt2 : (i : Int) < (n : Int) := by omega
      have hge := HG.out e (List.mem_of_getElem? he)
      by_cases hen : e.names = xs
      · have HEN := hid_in (And.intro he hen)
        rw [hen, HT.out] at c0
        clear he hen hge hno
        go_wp2_with fail
        go_ret
        exact ⟨(i : Int), rfl, .inr ⟨i, e, rfl, HEN.out.1, HEN.out.2⟩, HBR.out⟩
      · have hne : B (showS e.names) ≠ T := by rw [← HT.out]; exact fun hh => hen (hge.1.injB HXS.out hh)
        have HEN := hid_in (And.intro he hen)
        generalize B (showS e.names) = T' at *
        have hb : (T' == T) = false := by rw [Bool.eq_false_iff]; exact fun hh => hne ((MapKept.bytes_beq _ _).1 hh)
        have hlst : (T'.toList == T.toList) = false := by rw [Bool.eq_false_iff]; exact fun e => hne (Rf.toL_inj (eq_of_beq e))
        have HLT := hid_in hlt
        clear he hen hge hlt
        go_wp2_with fail
        refine ⟨⟨i + 1, by have := HLT.out; omega, by go_num, HBR.out, fun j x hj hx => ?_⟩, by have := HLT.out; simp [intOf]; omega⟩
        rcases (show j < i ∨ j = i by omega) with hj | rfl
        · exact hno.out j x hj hx
        · rw [HEN.out.1] at hx
          obtain rfl := Option.some.inj hx
          exact HEN.out.2
    · obtain rfl : i = n := by omega
      clear hlt hi
      go_wp2_with fail
      go_ret
      refine ⟨-1, rfl, .inl ⟨rfl, ?_⟩, HBR.out⟩
      rw [at_noneP]
      intro hm
      obtain ⟨e, he, hen⟩ := List.mem_map.1 hm
      obtain ⟨j, hj⟩ := List.getElem?_of_mem he
      exact hno.out j e (by rw [← HNN.out]; exact (List.getElem?_eq_some_iff.1 hj).1) hj hen
theorem names_e {e : Ent} (h : Gp e.names) (w : World) : Calls Tryz.prog 19 #[.string (B (showS e.names))] w fun x w' => ∃ p c, x = .returned (.slice p e.names.length c) ∧ Val w' (.slice p e.names.length c) e.names ∧ Below w.heap.size w w' := by
  have h1 := gp_size h
  refine (Rf.names_any (B (showS e.names)) (by omega) w).mono ?_
  rintro x w' ⟨⟨v, rfl, hn⟩, hb⟩
  have h2 : Rf.nmsOf (B (showS e.names)) = e.names := nms_showR h
  rw [h2] at hn
  obtain ⟨p, c, rfl⟩ := Vp.Nms.shape hn
  exact ⟨p, c, rfl, Vp.Nms.val hn, hb⟩
theorem filter_take {es : List Ent} {f : Ent → Bool} {i : Nat} {e : Ent} (h : es[i]? = some e) : (es.take (i + 1)).filter f = (es.take i).filter f ++ (if f e then [e] else []) := by
  rw [List.take_add_one, h, List.filter_append]
  cases hf : f e <;> simp [hf]
theorem filter_len {es : List Ent} (f : Ent → Bool) (i : Nat) : ((es.take i).filter f).length ≤ es.length := Nat.le_trans (List.length_filter_le _ _) (by simp; omega)
/-- between two rounds of a loop that gathers -/
structure GR (w : World) (es : List Ent) (f : Ent → Bool) (i : Nat) (v : Value) (W : World) : Prop where
  own : FO W w.heap.size v (((es.take i).filter f).map Ent.fil)
  bel : Below w.heap.size w W
set_option maxHeartbeats 4000000 in
set_option maxRecDepth 100000 in
theorem rbelow_any {w : World} {r : Nat} {es : List Ent} (h : RF w r es) (hg : GoodL es) (hn : es.length ≤ 100000) {u : Value} {xs : List Str} (hv : Val w u xs) :
    Calls Tryz.prog 75 #[.pointer (some ⟨r, 0, none⟩), u] w fun e w' => ∃ v, e = .returned v ∧ FO w' w.heap.size v ((es.filter (belowE xs)).map Ent.fil) ∧ Below w.heap.size w w' := by
  have hxl : xs.length ≤ 9223372036854775807 := by obtain ⟨p, c, _, h1, h2, _⟩ := hv; omega
  obtain ⟨np, nc, rfl⟩ : ∃ p c, u = .slice p xs.length c := by obtain ⟨p, c, e, _⟩ := hv; exact ⟨p, c, e⟩
  obtain ⟨p, cap, b, o, hc1, hc2, hrow, -, hat⟩ := h.at_
  have HAT := hid_in hat
  have HROW := hid_in hrow
  have HG := hid_in hg
  have HV := hid_in hv
  have HXL := hid_in (rfl : xs.length = xs.length)
  generalize hnl : xs.length = nl at HV hxl ⊢
  have HNL := hid_in hnl
  generalize hnn : es.length = n at *
  have HNN := hid_in hnn
  clear h hg hv hat hrow hnn hnl HXL
  go_enter Tryz.func75, Tryz.ntmps75
  go_wp2_with fail
  go_loopw [5, 6] (fun vo vi W => ∃ i : Nat, i ≤ n ∧ vi = .int .i64 (i : Int) ∧ Hid (GR w es (belowE xs) i vo W)) (fun _ vi _ => n - (intOf vi).toNat)
  case atStart => exact ⟨0, by omega, rfl, FO.nilP _ _, Below.refl _ _⟩
  case round =>
    obtain ⟨i, hi, rfl, hgr⟩ := hrel
    have q2 : wr.cell? ⟨r, 0, none⟩ = some (.slice p n cap) := (HROW.out.below hgr.out.bel HROW.out.lt).cell 0
    by_cases hlt : i < n
    · obtain ⟨e, he⟩ : ∃ e, es[i]? = some e := ⟨_, List.getElem?_eq_getElem (by rw [HNN.out]; exact hlt)⟩
      obtain ⟨rfl, c0, c1, c2⟩ := HAT.out _ hgr.out.bel i e he
      have hlt2 : (i : Int) < (n : Int) := by omega
      have HE := hid_in he
      have HLT := hid_in hlt
      have hge := HG.out e (List.mem_of_getElem? he)
      have HNM := hid_in (fun W => names_e hge.1 W)
      have HFT := hid_in (filter_take (f := belowE xs) he)
      have hel : e.names.length ≤ 8 := hge.1.2
      generalize hm : e.names.length = en at *
      have HEN := hid_in hm
      have hel2 : (en : Int) ≤ 8 := by omega
      have hxl2 : (nl : Int) ≤ 9223372036854775807 := by omega
      clear he hlt hi hge hm
      go_upto_region 6 with (go_at_call 19; refine (HNM.out _).mono ?_; rintro x w1 ⟨p1, k1, rfl, hv1, hb1⟩; have HV1 := hid_in hv1; have HB1 := hid_in (hgr.out.bel.trans (hb1.mono hgr.out.bel.size)); have HO1 := hid_in (hgr.out.own.below hb1); clear hv1 hb1)
      have HW := hid_in (Vp.rwithin_v HV1.out (HV.out.below HB1.out))
      by_cases hbe : belowE xs e = true
      · have h12 : xs.length < e.names.length ∧ withinS e.names xs = true := by
          unfold belowE at hbe
          simpa using hbe
        have hgt : (nl : Int) < (en : Int) := by have := HNL.out; have := HEN.out; have := h12.1; omega
        rw [h12.2] at HW
        rw [if_pos hbe] at HFT
        clear h12 hbe
        go_upto_region 7 with (go_at_call 58; refine HW.out.mono ?_; rintro x w2 ⟨rfl, hd2⟩; have HX2 : Hid (Below w1.heap.size w1 w2) := hid_in (by obtain ⟨m, hm⟩ := hd2; rw [hm]; exact below_drewN (Below.refl _ _) m); have HB2 := hid_in (HB1.out.trans (HX2.out.mono HB1.out.size)); have HO2 := hid_in (HO1.out.below HX2.out); clear hd2)
        have q3 : w2.cell? ⟨r, 0, none⟩ = some (.slice (some ⟨b, o, none⟩) n cap) := (HROW.out.below HB2.out HROW.out.lt).cell 0
        obtain ⟨-, d0, d1, d2⟩ := HAT.out _ HB2.out i e HE.out
        have HB3 : Hid (Below w2.heap.size w2 (w2.alloc (.cells #[.string (B (showS e.names)), .bool e.dir, .string e.data] 48))) := hid_in ((Below.refl _ _).alloc (Nat.le_refl _) _)
        have HO3 := hid_in (HO2.out.below HB3.out)
        have HF3 := hid_in (Rf.fls_one w2 e.fil)
        have HBW := hid_in (HB2.out.trans (HB3.out.mono HB2.out.size))
        have HLE := hid_in (filter_len (es := es) (belowE xs) i)
        rw [HNN.out] at HLE
        clear c0 c1 c2 q2
        go_wp2_with (first | (at_builtin; refine Rf.wpList_app81 w.heap.size rfl _ _ rfl _ _ [e.fil] rfl HO3.out _ rfl HF3.out (by have := HLE.out; simp only [List.length_map, List.length_cons, List.length_nil]; omega) HBW.out.size ?_; intro v4 w4 ho4 hg4; have HB4 := hid_in (HO3.out.step HBW.out HBW.out.size hg4); have HO4 : Hid (FO w4 w.heap.size v4 (((es.take (i + 1)).filter (belowE xs)).map Ent.fil)) := hid_in (by rw [HFT.out, List.map_append]; exact ho4); clear ho4 hg4))
        refine ⟨⟨i + 1, by have := HLT.out; omega, by go_num, HO4.out, HB4.out⟩, by have := HLT.out; simp [intOf]; omega⟩
      · rw [if_neg hbe, List.append_nil] at HFT
        by_cases hgt : (nl : Int) < (en : Int)
        · have hw : withinS e.names xs = false := by
            unfold belowE at hbe
            have h3 : xs.length < e.names.length := by have := HNL.out; have := HEN.out; omega
            simpa [h3] using hbe
          rw [hw] at HW
          clear hw hbe
          go_wp2_with (go_at_call 58; refine HW.out.mono ?_; rintro x w2 ⟨rfl, hd2⟩; have HX2 : Hid (Below w1.heap.size w1 w2) := hid_in (by obtain ⟨m, hm⟩ := hd2; rw [hm]; exact below_drewN (Below.refl _ _) m); have HB2 := hid_in (HB1.out.trans (HX2.out.mono HB1.out.size)); have HO2 := hid_in (HO1.out.below HX2.out); clear hd2)
          exact ⟨⟨i + 1, by have := HLT.out; omega, by go_num, by rw [HFT.out]; exact HO2.out, HB2.out⟩, by have := HLT.out; simp [intOf]; omega⟩
        · clear hbe HW
          go_wp2_with fail
          exact ⟨⟨i + 1, by have := HLT.out; omega, by go_num, by rw [HFT.out]; exact HO1.out, HB1.out⟩, by have := HLT.out; simp [intOf]; omega⟩
    · obtain rfl : i = n := by omega
      clear hlt hi
      go_wp2_with fail
      go_ret
      refine ⟨_, rfl, ?_, hgr.out.bel⟩
      have := hgr.out.own
      rw [← HNN.out, List.take_length] at this
      exact this
def outE (xs : List Str) (e : Ent) : Bool := !withinS e.names xs
set_option maxHeartbeats 4000000 in
set_option maxRecDepth 100000 in
theorem rwithout_any {w : World} {r : Nat} {es : List Ent} (h : RF w r es) (hg : GoodL es) (hn : es.length ≤ 100000) {u : Value} {xs : List Str} (hv : Val w u xs) :
    Calls Tryz.prog 76 #[.pointer (some ⟨r, 0, none⟩), u] w fun e w' => ∃ v, e = .returned v ∧ FO w' w.heap.size v ((es.filter (outE xs)).map Ent.fil) ∧ Below w.heap.size w w' := by
  have hxl : xs.length ≤ 9223372036854775807 := by obtain ⟨p, c, _, h1, h2, _⟩ := hv; omega
  obtain ⟨np, nc, rfl⟩ : ∃ p c, u = .slice p xs.length c := by obtain ⟨p, c, e, _⟩ := hv; exact ⟨p, c, e⟩
  obtain ⟨p, cap, b, o, hc1, hc2, hrow, -, hat⟩ := h.at_
  have HAT := hid_in hat
  have HROW := hid_in hrow
  have HG := hid_in hg
  have HV := hid_in hv
  have HXL := hid_in (rfl : xs.length = xs.length)
  generalize hnl : xs.length = nl at HV hxl ⊢
  have HNL := hid_in hnl
  generalize hnn : es.length = n at *
  have HNN := hid_in hnn
  clear h hg hv hat hrow hnn hnl HXL
  go_enter Tryz.func76, Tryz.ntmps76
  go_wp2_with fail
  go_loopw [5, 6] (fun vo vi W => ∃ i : Nat, i ≤ n ∧ vi = .int .i64 (i : Int) ∧ Hid (GR w es (outE xs) i vo W)) (fun _ vi _ => n - (intOf vi).toNat)
  case atStart => exact ⟨0, by omega, rfl, FO.nilP _ _, Below.refl _ _⟩
  case round =>
    obtain ⟨i, hi, rfl, hgr⟩ := hrel
    have q2 : wr.cell? ⟨r, 0, none⟩ = some (.slice p n cap) := (HROW.out.below hgr.out.bel HROW.out.lt).cell 0
    by_cases hlt : i < n
    · obtain ⟨e, he⟩ : ∃ e, es[i]? = some e := ⟨_, List.getElem?_eq_getElem (by rw [HNN.out]; exact hlt)⟩
      obtain ⟨rfl, c0, c1, c2⟩ := HAT.out _ hgr.out.bel i e he
      have hlt2 : (i : Int) < (n : Int) := by omega
      have HE := hid_in he
      have HLT := hid_in hlt
      have hge := HG.out e (List.mem_of_getElem? he)
      have HNM := hid_in (fun W => names_e hge.1 W)
      have HFT := hid_in (filter_take (f := outE xs) he)
      have hel : e.names.length ≤ 8 := hge.1.2
      generalize hm : e.names.length = en at *
      have HEN := hid_in hm
      have hel2 : (en : Int) ≤ 8 := by omega
      have hxl2 : (nl : Int) ≤ 9223372036854775807 := by omega
      clear he hlt hi hge hm
      have hwi : ∀ t, withinS e.names xs = t → outE xs e = !t := fun t ht => by unfold outE; rw [ht]
      cases hw : withinS e.names xs with
      | false =>
        rw [if_pos (show outE xs e = true from hwi _ hw)] at HFT
        have HWI := hid_in hw
        clear hwi hw
        go_upto_region 6 with (first | (go_at_call 19; refine (HNM.out _).mono ?_; rintro x w1 ⟨p1, k1, rfl, hv1, hb1⟩; have HV1 := hid_in hv1; have HB1 := hid_in (hgr.out.bel.trans (hb1.mono hgr.out.bel.size)); have HO1 := hid_in (hgr.out.own.below hb1); clear hv1 hb1) | (go_at_call 58; refine (Vp.rwithin_v HV1.out (HV.out.below HB1.out)).mono ?_; rintro x w2 ⟨rfl, hd2⟩; rw [HWI.out]; have HX2 : Hid (Below w1.heap.size w1 w2) := hid_in (by obtain ⟨m, hm⟩ := hd2; rw [hm]; exact below_drewN (Below.refl _ _) m); have HB2 := hid_in (HB1.out.trans (HX2.out.mono HB1.out.size)); have HO2 := hid_in (HO1.out.below HX2.out); clear hd2))
        have q3 : w2.cell? ⟨r, 0, none⟩ = some (.slice (some ⟨b, o, none⟩) n cap) := (HROW.out.below HB2.out HROW.out.lt).cell 0
        obtain ⟨-, d0, d1, d2⟩ := HAT.out _ HB2.out i e HE.out
        have HB3 : Hid (Below w2.heap.size w2 (w2.alloc (.cells #[.string (B (showS e.names)), .bool e.dir, .string e.data] 48))) := hid_in ((Below.refl _ _).alloc (Nat.le_refl _) _)
        have HO3 := hid_in (HO2.out.below HB3.out)
        have HF3 := hid_in (Rf.fls_one w2 e.fil)
        have HBW := hid_in (HB2.out.trans (HB3.out.mono HB2.out.size))
        have HLE := hid_in (filter_len (es := es) (outE xs) i)
        rw [HNN.out] at HLE
        clear c0 c1 c2 q2
        go_wp2_with (first | (at_builtin; refine Rf.wpList_app81 w.heap.size rfl _ _ rfl _ _ [e.fil] rfl HO3.out _ rfl HF3.out (by have := HLE.out; simp only [List.length_map, List.length_cons, List.length_nil]; omega) HBW.out.size ?_; intro v4 w4 ho4 hg4; have HB4 := hid_in (HO3.out.step HBW.out HBW.out.size hg4); have HO4 : Hid (FO w4 w.heap.size v4 (((es.take (i + 1)).filter (outE xs)).map Ent.fil)) := hid_in (by rw [HFT.out, List.map_append]; exact ho4); clear ho4 hg4))
        refine ⟨⟨i + 1, by have := HLT.out; omega, by go_num, HO4.out, HB4.out⟩, by have := HLT.out; simp [intOf]; omega⟩
      | true =>
        rw [if_neg (by rw [hwi _ hw]; simp), List.append_nil] at HFT
        have HWI := hid_in hw
        clear hwi hw
        go_wp2_with (first | (go_at_call 19; refine (HNM.out _).mono ?_; rintro x w1 ⟨p1, k1, rfl, hv1, hb1⟩; have HV1 := hid_in hv1; have HB1 := hid_in (hgr.out.bel.trans (hb1.mono hgr.out.bel.size)); have HO1 := hid_in (hgr.out.own.below hb1); clear hv1 hb1) | (go_at_call 58; refine (Vp.rwithin_v HV1.out (HV.out.below HB1.out)).mono ?_; rintro x w2 ⟨rfl, hd2⟩; rw [HWI.out]; have HX2 : Hid (Below w1.heap.size w1 w2) := hid_in (by obtain ⟨m, hm⟩ := hd2; rw [hm]; exact below_drewN (Below.refl _ _) m); have HB2 := hid_in (HB1.out.trans (HX2.out.mono HB1.out.size)); have HO2 := hid_in (HO1.out.below HX2.out); clear hd2))
        exact ⟨⟨i + 1, by have := HLT.out; omega, by go_num, by rw [HFT.out]; exact HO2.out, HB2.out⟩, by have := HLT.out; simp [intOf]; omega⟩
    · obtain rfl : i = n := by omega
      have hown := hgr.out.own
      rw [show List.take i es = es by rw [← HNN.out, List.take_length]] at hown
      have HOW := hid_in hown
      have HBL := hid_in hgr.out.bel
      clear hlt hi hown hgr
      go_wp2_with fail
      go_ret
      exact ⟨_, rfl, HOW.out, HBL.out⟩
end Go.Proofs.YtngehkmdanhgpaaGreat.Pl
namespace Go.Proofs.YtngehkmdanhgpaaGreat.Pl
open Go.RowKit
open Vp (Str B bl Val cmpL parseS showS splitS withinS IsPath)
open Nd (Row wp_world post_Row post_Row2 grownBy_setCell below_of_grown)
open Rf (Fil Fls FO fcells)
/-- what the reference finds at a path -/
def lookR (es : List Ent) (xs : List Str) : Ent × Int := goA es rootE ((inits xs).drop 1)
def lkV (x : Ent × Int) : Value := if x.2 = 0 then .agg #[.string (B (showS x.1.names)), .bool x.1.dir, .string x.1.data] else .agg #[.string ⟨#[]⟩, .bool false, .string ⟨#[]⟩]
theorem s3_below {w W : World} {B b : Nat} (h : Below B w W) (hb : B ≤ b) (hB : B ≤ W.heap.size) (v0 v1 v2 : Value) : Below B w (((W.setCell ⟨b, 0, none⟩ v0).setCell ⟨b, 1, none⟩ v1).setCell ⟨b, 2, none⟩ v2) := by
  have g := grownBy_setCell
  have h1 := below_of_grown h (g W ⟨b, 0, none⟩ v0) hB hb
  have h2 := below_of_grown h1 (g _ ⟨b, 1, none⟩ v1) (Nat.le_trans hB (g W ⟨b, 0, none⟩ v0).size) hb
  exact below_of_grown h2 (g _ ⟨b, 2, none⟩ v2) (Nat.le_trans hB (Nat.le_trans (g W ⟨b, 0, none⟩ v0).size (g _ ⟨b, 1, none⟩ v1).size)) hb
theorem lk_err {es : List Ent} {xs : List Str} {k : Int} (h : lookR es xs = (noEnt, k)) (hk : k ≠ 0) : lkV (lookR es xs) = .agg #[.string ⟨#[]⟩, .bool false, .string ⟨#[]⟩] ∧ (lookR es xs).2 = k := by
  rw [h]
  unfold lkV
  rw [if_neg hk]
  exact ⟨rfl, rfl⟩
set_option maxHeartbeats 4000000 in
set_option maxRecDepth 100000 in
theorem rlook_any {w : World} {r : Nat} {es : List Ent} (h : RF w r es) (hg : GoodL es) (hnd : (es.map (·.names)).Nodup) {nv : Value} {xs : List Str} (hv : Val w nv xs) (hx : Gp xs) :
    Calls Tryz.prog 74 #[.pointer (some ⟨r, 0, none⟩), nv] w fun e w' => e = .returned (.tuple #[lkV (lookR es xs), .int .i64 (lookR es xs).2]) ∧ Below w.heap.size w w' := by
  have HV := hid_in hv
  obtain ⟨np, nc, rfl⟩ : ∃ p c, nv = .slice p xs.length c := by obtain ⟨p, c, e, _⟩ := hv; exact ⟨p, c, e⟩
  have hcap : xs.length ≤ nc := by obtain ⟨p, c, e, hr⟩ := hv; simp only [Value.slice.injEq] at e; obtain ⟨_, _, rfl⟩ := e; exact hr.le
  obtain ⟨p, cap, b, o, hc1, hc2, hrow, -, hat⟩ := h.at_
  have HAT := hid_in hat
  have HROW := hid_in hrow
  have H := hid_in h
  have HG := hid_in hg
  have HND := hid_in hnd
  have HX := hid_in hx
  have HN := hid_in hx.2
  have HCAP := hid_in hcap
  clear h hv hx hcap hg hat hrow hnd
  obtain ⟨nl, HNL⟩ : ∃ nl, Hid (xs.length = nl) := ⟨_, hid_in rfl⟩
  generalize hel : es.length = n at *
  have HEL := hid_in hel
  rw [HNL.out] at HV HN HCAP ⊢
  have hn8 := HN.out
  clear hel
  go_enter Tryz.func74, Tryz.ntmps74
  go_wp2_with fail
  go_loopw [7] (fun vi W => ∃ i : Nat, i ≤ nl ∧ vi = .int .i64 (i : Int) ∧ Hid (∃ s : Ent, lookR es xs = goA es s ((inits xs).drop (i + 1)) ∧ Row W w.heap.size [.string ⟨#[]⟩, .bool false, .string ⟨#[]⟩] 48 ∧ Row W (w.heap.size + 1) [.string (B (showS s.names)), .bool s.dir, .string s.data] 48 ∧ Below w.heap.size w W)) (fun vi _ => nl - (intOf vi).toNat)
  case atStart =>
    refine ⟨0, by omega, rfl, rootE, rfl, ?_, ?_, ?_⟩
    · exact (Row.new w [.string ⟨#[]⟩, .bool false, .string ⟨#[]⟩] 48).alloc _
    · exact Row.newAt (w.alloc _) (w.heap.size + 1) [.string ⟨#[47]⟩, .bool true, .string ⟨#[]⟩] 48 (by simp)
    · exact ((Below.refl _ _).alloc (Nat.le_refl _) _).alloc (by simp) _
  case round =>
    obtain ⟨i, hi, rfl, hR⟩ := hrel
    obtain ⟨⟨sn, sd, sx⟩, hF, hr0, hr1, hB⟩ := hR.out
    simp only at hr1
    obtain ⟨sp, HSP⟩ : ∃ x, Hid (B (showS sn) = x) := ⟨_, hid_in rfl⟩
    rw [HSP.out] at hr1
    have HF := hid_in hF
    have HR0 := hid_in hr0
    have HR1 := hid_in hr1
    have HB := hid_in hB
    have a0 := hr0.cell 0
    have a1 := hr0.cell 1
    have a2 := hr0.cell 2
    have b0 := hr0.frozen 0
    have b1 := hr0.frozen 1
    have b2 := hr0.frozen 2
    have c0 := hr1.cell 0
    have c1 := hr1.cell 1
    have c2 := hr1.cell 2
    simp only [List.getElem?_cons_succ, List.getElem?_cons_zero] at a0 a1 a2 c0 c1 c2
    clear hF hr0 hr1 hB hR
    by_cases hlt : i < nl
    · have hid := inits_drop (xs := xs) (i := i + 1) (by rw [HNL.out]; omega)
      have HID := hid_in hid
      have k1 : (i : Int) < (nl : Int) := by omega
      clear hid
      cases sd with
      | false =>
        have HRES := hid_in (lk_err (es := es) (xs := xs) (k := 70) (by rw [HF.out, HID.out]; simp [goA]) (by decide))
        go_wp2
        exact post_Row2 4 5 48 rfl w.heap.size rfl 48 [.string ⟨#[]⟩, .bool false, .string ⟨#[]⟩] (((HR0.out.set_same 0 _).set_same 1 _).set_same 2 _) _ Tryz.underlying48 rfl 3 info48 rfl rfl ⟨by rw [HRES.out.1, HRES.out.2]; rfl, s3_below HB.out (Nat.le_refl _) HB.out.size _ _ _⟩
      | true =>
        have HVT := hid_in (fun W (k : Below w.heap.size w W) => val_take (xs := xs) (by rw [HNL.out]; exact HV.out.below k) (i + 1) (by rw [HNL.out]; omega))
        have HGT := hid_in (HX.out.take (i + 1))
        have hsl := slice35_to np nl nc (i + 1) (by have := HCAP.out; omega)
        have hin : ((i + 1 : Nat) : Int) = (i : Int) + 1 := by omega
        rw [hin] at hsl
        have HPL := hid_in (rplace_any (H.out.below HB.out) HG.out (HVT.out _ HB.out) HGT.out)
        have HLT := hid_in hlt
        clear hin hlt hi
        go_upto_region 8 with (go_at_call 36; refine HPL.out.mono ?_; rintro e w2 ⟨k, rfl, hat, hb2⟩; have HR20 := hid_in (HR0.out.below hb2 HR0.out.lt); have HR21 := hid_in (HR1.out.below hb2 HR1.out.lt); have HB2 := hid_in (HB.out.trans (hb2.mono HB.out.size)); have HK := hid_in hat; clear hb2 hat)
        have d0 := HR20.out.cell 0
        have d1 := HR20.out.cell 1
        have d2 := HR20.out.cell 2
        have e0 := HR20.out.frozen 0
        have e1 := HR20.out.frozen 1
        have e2 := HR20.out.frozen 2
        have f0 := HR21.out.cell 0
        have f1 := HR21.out.cell 1
        have f2 := HR21.out.cell 2
        have g0 := HR21.out.frozen 0
        have g1 := HR21.out.frozen 1
        have g2 := HR21.out.frozen 2
        simp only [List.getElem?_cons_succ, List.getElem?_cons_zero] at d0 d1 d2 f0 f1 f2
        rcases HK.out with ⟨rfl, hno⟩ | ⟨j, t, rfl, hj, hjn⟩
        · have HRES := hid_in (lk_err (es := es) (xs := xs) (k := 4) (by rw [HF.out, HID.out]; simp [goA, hno]) (by decide))
          clear hno HK
          go_wp2
          exact post_Row2 4 5 48 rfl w.heap.size rfl 48 [.string ⟨#[]⟩, .bool false, .string ⟨#[]⟩] (((HR20.out.set_same 0 _).set_same 1 _).set_same 2 _) _ Tryz.underlying48 rfl 3 info48 rfl rfl ⟨by rw [HRES.out.1, HRES.out.2]; rfl, s3_below HB2.out (Nat.le_refl _) HB2.out.size _ _ _⟩
        · have hmem := at_mem HND.out (List.mem_of_getElem? hj)
          rw [hjn] at hmem
          have HRES : Hid (lookR es xs = goA es t ((inits xs).drop (i + 1 + 1))) := hid_in (by rw [HF.out, HID.out]; simp [goA, hmem])
          have q0 := (HROW.out.below HB2.out HROW.out.lt).cell 0
          simp only [List.getElem?_cons_zero] at q0
          obtain ⟨rfl, t0, t1, t2⟩ := HAT.out _ HB2.out j t hj
          have hjl : (j : Int) < (n : Int) := by have := (List.getElem?_eq_some_iff.1 hj).1; have := HEL.out; omega
          have hj0 : ¬ (j : Int) < 0 := by omega
          have hj1 : 0 ≤ (j : Int) := by omega
          obtain ⟨tn, td, tx⟩ := t
          simp only at t0 t1 t2
          obtain ⟨tp, HTP⟩ : ∃ x, Hid (B (showS tn) = x) := ⟨_, hid_in rfl⟩
          rw [HTP.out] at t0
          clear hmem hj hjn HK a0 a1 a2 b0 b1 b2 c0 c1 c2
          go_wp2_with fail
          refine ⟨⟨i + 1, by have := HLT.out; omega, by go_num, ⟨tn, td, tx⟩, HRES.out, ?_, ?_, ?_⟩, by have := HLT.out; simp [intOf]; omega⟩
          · exact ((HR20.out.set_other _ _ (by simp)).set_other _ _ (by simp)).set_other _ _ (by simp)
          · simp only [HTP.out]
            exact ((HR21.out.set_same 0 _).set_same 1 _).set_same 2 _
          · exact s3_below HB2.out (Nat.le_succ _) HB2.out.size _ _ _
    · obtain rfl : i = nl := by omega
      have hres : lookR es xs = (⟨sn, sd, sx⟩, 0) := by
        rw [HF.out, ← HNL.out, inits_end]; rfl
      have HRES : Hid (lkV (lookR es xs) = .agg #[.string sp, .bool sd, .string sx] ∧ (lookR es xs).2 = 0) := hid_in (by rw [hres]; unfold lkV; rw [if_pos rfl]; simp only; rw [HSP.out]; exact ⟨rfl, trivial⟩)
      have k1 : ¬ (i : Int) < (i : Int) := by omega
      clear hres
      go_wp2
      exact post_Row2 4 5 48 rfl w.heap.size rfl 48 [.string sp, .bool sd, .string sx] (((HR0.out.set_same 0 _).set_same 1 _).set_same 2 _) _ Tryz.underlying48 rfl 3 info48 rfl rfl ⟨by rw [HRES.out.1, HRES.out.2]; rfl, s3_below HB.out (Nat.le_refl _) HB.out.size _ _ _⟩
end Go.Proofs.YtngehkmdanhgpaaGreat.Pl
