/-
  The reference's Below and Drop. The reference's Drop.
-/
import Derived.Deep.CutRange
import Derived.Laws.CopyOwn
import Derived.Shelf.SlMaps.Clone
import Derived.Deep.RegionLaw
import Derived.Deep.DrawnRows
import Derived.Laws.Tables
import Derived.Test.YtglfeocfhlmloaaGreatY00
import Derived.Test.YtglfeocfhlmloaaGreatY01
import Derived.Test.YtglfeocfhlmloaaGreatY02
import Derived.Test.YtglfeocfhlmloaaGreatY03
import Derived.Test.YtglfeocfhlmloaaGreatY04
import Derived.Test.YtglfeocfhlmloaaGreatY05
import Derived.Test.YtglfeocfhlmloaaGreatY06
import Derived.Test.YtglfeocfhlmloaaGreatY07
import Derived.Test.YtglfeocfhlmloaaGreatY08
import Derived.Test.YtglfeocfhlmloaaGreatY09
import Derived.Test.YtglfeocfhlmloaaGreatY10
import Derived.Test.YtglfeocfhlmloaaGreatY11
import Derived.Test.YtglfeocfhlmloaaGreatY12
import Derived.Test.YtglfeocfhlmloaaGreatY13
import Derived.Test.YtglfeocfhlmloaaGreatY14
import Derived.Test.YtglfeocfhlmloaaGreatY15
import Derived.Test.YtglfeocfhlmloaaGreatY16
import Derived.Test.YtglfeocfhlmloaaGreatY17
import Derived.Test.YtglfeocfhlmloaaGreatY18
import Derived.Test.YtglfeocfhlmloaaGreatY19
import Derived.Test.YtglfeocfhlmloaaGreatY20
import Derived.Test.YtglfeocfhlmloaaGreatY21
import Derived.Test.YtglfeocfhlmloaaGreatY22
import Derived.Test.YtglfeocfhlmloaaGreatY23
import Derived.Test.YtglfeocfhlmloaaGreatY24
import Derived.Test.YtglfeocfhlmloaaGreatY25
import Derived.Test.YtglfeocfhlmloaaGreatY26
import Derived.Test.YtglfeocfhlmloaaGreatY27
import Derived.Test.YtglfeocfhlmloaaGreatY28
import Derived.Test.YtglfeocfhlmloaaGreatY29
import Derived.Test.YtglfeocfhlmloaaGreatY30
import Derived.Test.YtglfeocfhlmloaaGreatY31
import Derived.Test.YtglfeocfhlmloaaGreatY32
import Derived.Test.YtglfeocfhlmloaaGreatY33
import Derived.Test.YtglfeocfhlmloaaGreatY34
import Derived.Test.YtglfeocfhlmloaaGreatY35
import Derived.Test.YtglfeocfhlmloaaGreatY36
import Derived.Test.YtglfeocfhlmloaaGreatY37
import Derived.Test.YtglfeocfhlmloaaGreatY38
import Derived.Test.YtglfeocfhlmloaaGreatY39
import Derived.Test.YtglfeocfhlmloaaGreatY40
import Derived.Test.YtglfeocfhlmloaaGreatY41
namespace Go.Proofs.YtglfeocfhlmloaaGreat.Up
open Go.RowKit
open Vp (Str B bl Val cmpL parseS showS withinS IsPath checkS)
open Nd (Row wp_world post_Row post_Row2 grownBy_setCell below_of_grown)
theorem FO.step {w w' a : World} {B : Nat} {v : Value} {fs : List Fil} (h : FO w B v fs) (hb : Below B a w) (hB : B ≤ w.heap.size) (hg : w.grownBy w' v.ownBlock) : Below B a w' :=
  hb.grown hg hB (fun k e => (Nd.own_geK h k e).1)
theorem own36 (w : World) : FO (w.alloc (.cells #[] 42)) w.heap.size (.slice (some ⟨w.heap.size, 0, none⟩) 0 0) [] :=
  World.ownsRow_made (base := w.heap.size) (e := 42) (size := 4) w #[] 0 (Nat.le_refl _) (by simp) rfl
theorem fls_one (w : World) (f : Fil) : Fls (w.alloc (.cells #[.string f.path, .int .i64 f.kind, .bool f.opq, .string f.data] 42)) (.slice (some ⟨w.heap.size, 0, none⟩) 1 1) [f] := by
  have hr := Row.new w [.string f.path, .int .i64 f.kind, .bool f.opq, .string f.data] 42
  refine ⟨_, 1, w.heap.size, 0, rfl, by simp, by omega, fun _ => ⟨rfl, by simp⟩, fun j u hj => ?_, fun e => by cases e⟩
  rw [Nat.zero_add, hr.cell]
  simpa [fcells, Fil.cells] using hj
/-- names of an inode -/
theorem names_e {e : Ent} (h : Gp e.names) (w : World) : Calls Tryz.prog 45 #[.string (B (showS e.names))] w fun x w' => ∃ p c, x = .returned (.slice p e.names.length c) ∧ Val w' (.slice p e.names.length c) e.names ∧ Below w.heap.size w w' := by
  have h1 := gp_size h
  refine (Rf.names_any (B (showS e.names)) (by omega) w).mono ?_
  rintro x w' ⟨⟨v, rfl, hn⟩, hb⟩
  have h2 : Rf.nmsOf (B (showS e.names)) = e.names := (nms_show h).2
  rw [h2] at hn
  obtain ⟨p, c, rfl⟩ := Vp.Nms.shape hn
  exact ⟨p, c, rfl, Vp.Nms.val hn, hb⟩
theorem filter_take {es : List Ent} {f : Ent → Bool} {i : Nat} {e : Ent} (h : es[i]? = some e) : (es.take (i + 1)).filter f = (es.take i).filter f ++ (if f e then [e] else []) := by
  rw [List.take_add_one, h, List.filter_append]
  cases hf : f e <;> simp [hf]
theorem filter_len {es : List Ent} (f : Ent → Bool) (i : Nat) : ((es.take i).filter f).length ≤ es.length := Nat.le_trans (List.length_filter_le _ _) (by simp; omega)
/-- between two rounds of a loop that gathers -/
structure GR (w : World) (es : List Ent) (f : Ent → Bool) (i : Nat) (v : Value) (W : World) : Prop where
  own : FO W w.heap.size v (((es.take i).filter f).map Ent.fil)
  bel : Below w.heap.size w W
set_option maxHeartbeats 4000000 in
set_option maxRecDepth 100000 in
theorem rbelow_any {w : World} {r : Nat} {N Z : Int} {es : List Ent} (h : RU w r N Z es) (hg : GoodL es) (hn : es.length ≤ 100000) {u : Value} {xs : List Str} (hv : Val w u xs) :
    Calls Tryz.prog 48 #[.pointer (some ⟨r, 0, none⟩), u] w fun e w' => ∃ v, e = .returned v ∧ FO w' w.heap.size v ((es.filter (belowE xs)).map Ent.fil) ∧ Below w.heap.size w w' := by
  have hxl : xs.length ≤ 9223372036854775807 := by obtain ⟨p, c, _, h1, h2, _⟩ := hv; omega
  obtain ⟨np, nc, rfl⟩ : ∃ p c, u = .slice p xs.length c := by obtain ⟨p, c, e, _⟩ := hv; exact ⟨p, c, e⟩
  obtain ⟨p, cap, b, o, hc1, hc2, hrow, -, hat⟩ := h.at_
  have HAT := hid_in hat
  have HROW := hid_in hrow
  have HG := hid_in hg
  have HV := hid_in hv
  have HXL := hid_in (rfl : xs.length = xs.length)
  generalize hnl : xs.length = nl at HV hxl ⊢
  have HNL := hid_in hnl
  generalize hnn : es.length = n at *
  have HNN := hid_in hnn
  clear h hg hv hat hrow hnn hnl HXL
  go_enter Tryz.func48, Tryz.ntmps48
  go_wp2_with fail
  go_loopw [5, 6] (fun vo vi W => ∃ i : Nat, i ≤ n ∧ vi = .int .i64 (i : Int) ∧ Hid (GR w es (belowE xs) i vo W)) (fun _ vi _ => n - (intOf vi).toNat)
  case atStart => exact ⟨0, by omega, rfl, FO.nil _ _, Below.refl _ _⟩
  case round =>
    obtain ⟨i, hi, rfl, hgr⟩ := hrel
    have q2 : wr.cell? ⟨r, 2, none⟩ = some (.slice p n cap) := (HROW.out.below hgr.out.bel HROW.out.lt).cell 2
    by_cases hlt : i < n
    · obtain ⟨e, he⟩ : ∃ e, es[i]? = some e := ⟨_, List.getElem?_eq_getElem (by rw [HNN.out]; exact hlt)⟩
      obtain ⟨rfl, c0, c1, c2, c3⟩ := HAT.out _ hgr.out.bel i e he
      have hlt2 : (i : Int) < (n : Int) := by omega
      have HE := hid_in he
      have HLT := hid_in hlt
      have hge := HG.out e (List.mem_of_getElem? he)
      have HNM := hid_in (fun W => names_e hge.1 W)
      have HFT := hid_in (filter_take (f := belowE xs) he)
      have hel : e.names.length ≤ 8 := hge.1.2
      generalize hm : e.names.length = en at *
      have HEN := hid_in hm
      have hel2 : (en : Int) ≤ 8 := by omega
      have hxl2 : (nl : Int) ≤ 9223372036854775807 := by omega
      clear he hlt hi hge hm
      go_upto_region 6 with (go_at_call 45; refine (HNM.out _).mono ?_; rintro x w1 ⟨p1, k1, rfl, hv1, hb1⟩; have HV1 := hid_in hv1; have HB1 := hid_in (hgr.out.bel.trans (hb1.mono hgr.out.bel.size)); have HO1 := hid_in (hgr.out.own.below hb1); clear hv1 hb1)
      have HW := hid_in (Vp.rwithin_v HV1.out (HV.out.below HB1.out))
      by_cases hbe : belowE xs e = true
      · have h12 : xs.length < e.names.length ∧ withinS e.names xs = true := by
          unfold belowE at hbe
          simpa using hbe
        have hgt : (nl : Int) < (en : Int) := by have := HNL.out; have := HEN.out; have := h12.1; omega
        rw [h12.2] at HW
        rw [if_pos hbe] at HFT
        clear h12 hbe
        go_upto_region 7 with (go_at_call 44; refine HW.out.mono ?_; rintro x w2 ⟨rfl, hd2⟩; have HX2 : Hid (Below w1.heap.size w1 w2) := hid_in (by obtain ⟨m, hm⟩ := hd2; rw [hm]; exact below_drewN (Below.refl _ _) m); have HB2 := hid_in (HB1.out.trans (HX2.out.mono HB1.out.size)); have HO2 := hid_in (HO1.out.below HX2.out); clear hd2)
        have q3 : w2.cell? ⟨r, 2, none⟩ = some (.slice (some ⟨b, o, none⟩) n cap) := (HROW.out.below HB2.out HROW.out.lt).cell 2
        obtain ⟨-, d0, d1, d2, d3⟩ := HAT.out _ HB2.out i e HE.out
        have HB3 : Hid (Below w2.heap.size w2 (w2.alloc (.cells #[.string (B (showS e.names)), .int .i64 e.kind, .bool e.opq, .string e.data] 42))) := hid_in ((Below.refl _ _).alloc (Nat.le_refl _) _)
        have HO3 := hid_in (HO2.out.below HB3.out)
        have HF3 := hid_in (fls_one w2 e.fil)
        have HBW := hid_in (HB2.out.trans (HB3.out.mono HB2.out.size))
        have HLE := hid_in (filter_len (es := es) (belowE xs) i)
        rw [HNN.out] at HLE
        clear c0 c1 c2 c3 q2
        go_wp2_with (first | (at_builtin; refine wpList_app81 w.heap.size rfl _ _ rfl _ _ [e.fil] rfl HO3.out _ rfl HF3.out (by have := HLE.out; simp only [List.length_map, List.length_cons, List.length_nil]; omega) HBW.out.size ?_; intro v4 w4 ho4 hg4; have HB4 := hid_in (HO3.out.step HBW.out HBW.out.size hg4); have HO4 : Hid (FO w4 w.heap.size v4 (((es.take (i + 1)).filter (belowE xs)).map Ent.fil)) := hid_in (by rw [HFT.out, List.map_append]; exact ho4); clear ho4 hg4))
        refine ⟨⟨i + 1, by have := HLT.out; omega, by go_num, HO4.out, HB4.out⟩, by have := HLT.out; simp [intOf]; omega⟩
      · rw [if_neg hbe, List.append_nil] at HFT
        by_cases hgt : (nl : Int) < (en : Int)
        · have hw : withinS e.names xs = false := by
            unfold belowE at hbe
            have h3 : xs.length < e.names.length := by have := HNL.out; have := HEN.out; omega
            simpa [h3] using hbe
          rw [hw] at HW
          clear hw hbe
          go_wp2_with (go_at_call 44; refine HW.out.mono ?_; rintro x w2 ⟨rfl, hd2⟩; have HX2 : Hid (Below w1.heap.size w1 w2) := hid_in (by obtain ⟨m, hm⟩ := hd2; rw [hm]; exact below_drewN (Below.refl _ _) m); have HB2 := hid_in (HB1.out.trans (HX2.out.mono HB1.out.size)); have HO2 := hid_in (HO1.out.below HX2.out); clear hd2)
          exact ⟨⟨i + 1, by have := HLT.out; omega, by go_num, by rw [HFT.out]; exact HO2.out, HB2.out⟩, by have := HLT.out; simp [intOf]; omega⟩
        · clear hbe HW
          go_wp2_with fail
          exact ⟨⟨i + 1, by have := HLT.out; omega, by go_num, by rw [HFT.out]; exact HO1.out, HB1.out⟩, by have := HLT.out; simp [intOf]; omega⟩
    · obtain rfl : i = n := by omega
      clear hlt hi
      go_wp2_with fail
      go_ret
      refine ⟨_, rfl, ?_, hgr.out.bel⟩
      have := hgr.out.own
      rw [← HNN.out, List.take_length] at this
      exact this
end Go.Proofs.YtglfeocfhlmloaaGreat.Up
namespace Go.Proofs.YtglfeocfhlmloaaGreat.Up
open Go.RowKit
open Vp (Str B bl Val cmpL parseS showS withinS IsPath checkS)
open Nd (Row wp_world post_Row post_Row2 grownBy_setCell below_of_grown)
theorem FO.grown {w w' : World} {B r : Nat} {v : Value} {fs : List Fil} (h : FO w B v fs) (hg : w.grownBy w' (some r)) (hr : r < B) : FO w' B v fs := by
  obtain ⟨h1, h2 | ⟨g, cap, cur, hv, hB, hh, rest⟩⟩ := h
  · exact ⟨h1, .inl h2⟩
  · refine ⟨h1, .inr ⟨g, cap, cur, hv, hB, ?_, rest⟩⟩
    rw [hg.block g (Array.getElem?_eq_some_iff.1 hh).1 (fun e => by have := Option.some.inj e; omega)]
    exact hh
/-- another list stands in the reference's upper branch -/
theorem RU.put {w W : World} {r : Nat} {N Z : Int} {es : List Ent} {v u : Value} (h : Row w r [.int .i64 N, .int .i64 Z, u] 52) (hb : Below w.heap.size w W) (ho : FO W w.heap.size v (es.map Ent.fil)) : RU (W.setCell ⟨r, 2, none⟩ v) r N Z es ∧ w.grownBy (W.setCell ⟨r, 2, none⟩ v) (some r) := by
  have hg := grownBy_setCell W ⟨r, 2, none⟩ v
  have hW := h.below hb h.lt
  refine ⟨⟨v, hW.set_same 2 v, (ho.grown hg h.lt).mono (Nat.zero_le _)⟩, ?_⟩
  refine ⟨hg.os.trans hb.os, hg.tape.trans hb.tape, hg.output.trans hb.output, Nat.le_trans hb.size hg.size, fun k hk hn => ?_⟩
  rw [hg.block k (Nat.lt_of_lt_of_le hk hb.size) hn]
  exact hb.block k hk
set_option maxHeartbeats 4000000 in
set_option maxRecDepth 100000 in
theorem rdrop_any {w : World} {r : Nat} {N Z : Int} {es : List Ent} (h : RU w r N Z es) (hg : GoodL es) (hn : es.length ≤ 100000) {u : Value} {xs : List Str} (hv : Val w u xs) :
    Calls Tryz.prog 19 #[.pointer (some ⟨r, 0, none⟩), u] w fun e w' => e = .returned (.int .i64 ((es.length : Int) - ((es.filter (outE xs)).length : Int))) ∧ RU w' r N Z (es.filter (outE xs)) ∧ w.grownBy w' (some r) := by
  have hxl : xs.length ≤ 9223372036854775807 := by obtain ⟨p, c, _, h1, h2, _⟩ := hv; omega
  obtain ⟨np, nc, rfl⟩ : ∃ p c, u = .slice p xs.length c := by obtain ⟨p, c, e, _⟩ := hv; exact ⟨p, c, e⟩
  obtain ⟨p, cap, b, o, hc1, hc2, hrow, -, hat⟩ := h.at_
  have HAT := hid_in hat
  have HROW := hid_in hrow
  have HG := hid_in hg
  have HV := hid_in hv
  have HXL := hid_in (rfl : xs.length = xs.length)
  generalize hnl : xs.length = nl at HV hxl ⊢
  have HNL := hid_in hnl
  obtain ⟨k, HKK⟩ : ∃ k, Hid ((es.filter (outE xs)).length = k) := ⟨_, hid_in rfl⟩
  rw [HKK.out]
  generalize hnn : es.length = n at *
  have HNN := hid_in hnn
  clear h hg hv hat hrow hnn hnl HXL
  go_enter Tryz.func19, Tryz.ntmps19
  go_wp2_with fail
  go_loopw [5, 6] (fun vo vi W => ∃ i : Nat, i ≤ n ∧ vi = .int .i64 (i : Int) ∧ Hid (GR w es (outE xs) i vo W)) (fun _ vi _ => n - (intOf vi).toNat)
  case atStart => exact ⟨0, by omega, rfl, FO.nil _ _, Below.refl _ _⟩
  case round =>
    obtain ⟨i, hi, rfl, hgr⟩ := hrel
    have q2 : wr.cell? ⟨r, 2, none⟩ = some (.slice p n cap) := (HROW.out.below hgr.out.bel HROW.out.lt).cell 2
    by_cases hlt : i < n
    · obtain ⟨e, he⟩ : ∃ e, es[i]? = some e := ⟨_, List.getElem?_eq_getElem (by rw [HNN.out]; exact hlt)⟩
      obtain ⟨rfl, c0, c1, c2, c3⟩ := HAT.out _ hgr.out.bel i e he
      have hlt2 : (i : Int) < (n : Int) := by omega
      have HE := hid_in he
      have HLT := hid_in hlt
      have hge := HG.out e (List.mem_of_getElem? he)
      have HNM := hid_in (fun W => names_e hge.1 W)
      have HFT := hid_in (filter_take (f := outE xs) he)
      have hel : e.names.length ≤ 8 := hge.1.2
      generalize hm : e.names.length = en at *
      have HEN := hid_in hm
      have hel2 : (en : Int) ≤ 8 := by omega
      have hxl2 : (nl : Int) ≤ 9223372036854775807 := by omega
      clear he hlt hi hge hm
      have hwi : ∀ t, withinS e.names xs = t → outE xs e = !t := fun t ht => by unfold outE; rw [ht]
      cases hw : withinS e.names xs with
      | false =>
        rw [if_pos (show outE xs e = true from hwi _ hw)] at HFT
        have HWI := hid_in hw
        clear hwi hw
        go_upto_region 6 with (first | (go_at_call 45; refine (HNM.out _).mono ?_; rintro x w1 ⟨p1, k1, rfl, hv1, hb1⟩; have HV1 := hid_in hv1; have HB1 := hid_in (hgr.out.bel.trans (hb1.mono hgr.out.bel.size)); have HO1 := hid_in (hgr.out.own.below hb1); clear hv1 hb1) | (go_at_call 44; refine (Vp.rwithin_v HV1.out (HV.out.below HB1.out)).mono ?_; rintro x w2 ⟨rfl, hd2⟩; rw [HWI.out]; have HX2 : Hid (Below w1.heap.size w1 w2) := hid_in (by obtain ⟨m, hm⟩ := hd2; rw [hm]; exact below_drewN (Below.refl _ _) m); have HB2 := hid_in (HB1.out.trans (HX2.out.mono HB1.out.size)); have HO2 := hid_in (HO1.out.below HX2.out); clear hd2))
        have q3 : w2.cell? ⟨r, 2, none⟩ = some (.slice (some ⟨b, o, none⟩) n cap) := (HROW.out.below HB2.out HROW.out.lt).cell 2
        obtain ⟨-, d0, d1, d2, d3⟩ := HAT.out _ HB2.out i e HE.out
        have HB3 : Hid (Below w2.heap.size w2 (w2.alloc (.cells #[.string (B (showS e.names)), .int .i64 e.kind, .bool e.opq, .string e.data] 42))) := hid_in ((Below.refl _ _).alloc (Nat.le_refl _) _)
        have HO3 := hid_in (HO2.out.below HB3.out)
        have HF3 := hid_in (fls_one w2 e.fil)
        have HBW := hid_in (HB2.out.trans (HB3.out.mono HB2.out.size))
        have HLE := hid_in (filter_len (es := es) (outE xs) i)
        rw [HNN.out] at HLE
        clear c0 c1 c2 c3 q2
        go_wp2_with (first | (at_builtin; refine wpList_app81 w.heap.size rfl _ _ rfl _ _ [e.fil] rfl HO3.out _ rfl HF3.out (by have := HLE.out; simp only [List.length_map, List.length_cons, List.length_nil]; omega) HBW.out.size ?_; intro v4 w4 ho4 hg4; have HB4 := hid_in (HO3.out.step HBW.out HBW.out.size hg4); have HO4 : Hid (FO w4 w.heap.size v4 (((es.take (i + 1)).filter (outE xs)).map Ent.fil)) := hid_in (by rw [HFT.out, List.map_append]; exact ho4); clear ho4 hg4))
        refine ⟨⟨i + 1, by have := HLT.out; omega, by go_num, HO4.out, HB4.out⟩, by have := HLT.out; simp [intOf]; omega⟩
      | true =>
        rw [if_neg (by rw [hwi _ hw]; simp), List.append_nil] at HFT
        have HWI := hid_in hw
        clear hwi hw
        go_wp2_with (first | (go_at_call 45; refine (HNM.out _).mono ?_; rintro x w1 ⟨p1, k1, rfl, hv1, hb1⟩; have HV1 := hid_in hv1; have HB1 := hid_in (hgr.out.bel.trans (hb1.mono hgr.out.bel.size)); have HO1 := hid_in (hgr.out.own.below hb1); clear hv1 hb1) | (go_at_call 44; refine (Vp.rwithin_v HV1.out (HV.out.below HB1.out)).mono ?_; rintro x w2 ⟨rfl, hd2⟩; rw [HWI.out]; have HX2 : Hid (Below w1.heap.size w1 w2) := hid_in (by obtain ⟨m, hm⟩ := hd2; rw [hm]; exact below_drewN (Below.refl _ _) m); have HB2 := hid_in (HB1.out.trans (HX2.out.mono HB1.out.size)); have HO2 := hid_in (HO1.out.below HX2.out); clear hd2))
        exact ⟨⟨i + 1, by have := HLT.out; omega, by go_num, by rw [HFT.out]; exact HO2.out, HB2.out⟩, by have := HLT.out; simp [intOf]; omega⟩
    · obtain rfl : i = n := by omega
      have hown := hgr.out.own
      rw [show List.take i es = es by rw [← HNN.out, List.take_length]] at hown
      have HOW := hid_in hown
      have HBL := hid_in hgr.out.bel
      obtain ⟨pv, cv, rfl⟩ := hown.fls.form
      rw [List.length_map, HKK.out] at HOW ⊢
      have hk : k ≤ i := by rw [← HNN.out, ← HKK.out]; exact List.length_filter_le _ _
      have hrr := HROW.out.below HBL.out HROW.out.lt
      have z2 := hrr.frozen 2
      have HRP := hid_in (RU.put HROW.out HBL.out HOW.out)
      have hk2 : (k : Int) ≤ (i : Int) := by omega
      clear hlt hi hown hgr hrr
      go_wp2
      go_ret
      exact ⟨rfl, HRP.out.1, HRP.out.2⟩
end Go.Proofs.YtglfeocfhlmloaaGreat.Up
