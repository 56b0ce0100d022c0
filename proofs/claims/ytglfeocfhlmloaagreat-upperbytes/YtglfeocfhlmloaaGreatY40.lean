/-
  The reference's upper branch in memory; place and Get.
-/
import Derived.Deep.CutRange
import Derived.Laws.CopyOwn
import Derived.Shelf.SlMaps.Clone
import Derived.Deep.RegionLaw
import Derived.Deep.DrawnRows
import Derived.Laws.Tables
import Derived.Test.YtglfeocfhlmloaaGreatY00
import Derived.Test.YtglfeocfhlmloaaGreatY01
import Derived.Test.YtglfeocfhlmloaaGreatY02
import Derived.Test.YtglfeocfhlmloaaGreatY03
import Derived.Test.YtglfeocfhlmloaaGreatY04
import Derived.Test.YtglfeocfhlmloaaGreatY05
import Derived.Test.YtglfeocfhlmloaaGreatY06
import Derived.Test.YtglfeocfhlmloaaGreatY07
import Derived.Test.YtglfeocfhlmloaaGreatY08
import Derived.Test.YtglfeocfhlmloaaGreatY09
import Derived.Test.YtglfeocfhlmloaaGreatY10
import Derived.Test.YtglfeocfhlmloaaGreatY11
import Derived.Test.YtglfeocfhlmloaaGreatY12
import Derived.Test.YtglfeocfhlmloaaGreatY13
import Derived.Test.YtglfeocfhlmloaaGreatY14
import Derived.Test.YtglfeocfhlmloaaGreatY15
import Derived.Test.YtglfeocfhlmloaaGreatY16
import Derived.Test.YtglfeocfhlmloaaGreatY17
import Derived.Test.YtglfeocfhlmloaaGreatY18
import Derived.Test.YtglfeocfhlmloaaGreatY19
import Derived.Test.YtglfeocfhlmloaaGreatY20
import Derived.Test.YtglfeocfhlmloaaGreatY21
import Derived.Test.YtglfeocfhlmloaaGreatY22
import Derived.Test.YtglfeocfhlmloaaGreatY23
import Derived.Test.YtglfeocfhlmloaaGreatY24
import Derived.Test.YtglfeocfhlmloaaGreatY25
import Derived.Test.YtglfeocfhlmloaaGreatY26
import Derived.Test.YtglfeocfhlmloaaGreatY27
import Derived.Test.YtglfeocfhlmloaaGreatY28
import Derived.Test.YtglfeocfhlmloaaGreatY29
import Derived.Test.YtglfeocfhlmloaaGreatY30
import Derived.Test.YtglfeocfhlmloaaGreatY31
import Derived.Test.YtglfeocfhlmloaaGreatY32
import Derived.Test.YtglfeocfhlmloaaGreatY33
import Derived.Test.YtglfeocfhlmloaaGreatY34
import Derived.Test.YtglfeocfhlmloaaGreatY35
import Derived.Test.YtglfeocfhlmloaaGreatY36
import Derived.Test.YtglfeocfhlmloaaGreatY37
import Derived.Test.YtglfeocfhlmloaaGreatY38
import Derived.Test.YtglfeocfhlmloaaGreatY39
namespace Go.Proofs.YtglfeocfhlmloaaGreat.Up
open Go.RowKit
open Vp (Str B bl Val cmpL parseS showS withinS IsPath checkS)
open Nd (Row wp_world post_Row post_Row2 grownBy_setCell below_of_grown)
theorem FO.ck {w w' : World} {B : Nat} {v : Value} {fs : List Fil} (h : FO w B v fs) (k : CK w w') : FO w' B v fs := by
  obtain ⟨h1, h2 | ⟨g, cap, cur, hv, hB, hh, r⟩⟩ := h
  · exact ⟨h1, .inl h2⟩
  · exact ⟨h1, .inr ⟨g, cap, cur, hv, hB, k _ _ _ _ hh, r⟩⟩
theorem FO.mono {w : World} {B B' : Nat} {v : Value} {fs : List Fil} (h : FO w B v fs) (hb : B' ≤ B) : FO w B' v fs := by
  obtain ⟨h1, h2 | ⟨g, cap, cur, hv, hB, r⟩⟩ := h
  · exact ⟨h1, .inl h2⟩
  · exact ⟨h1, .inr ⟨g, cap, cur, hv, Nat.le_trans hb hB, r⟩⟩
theorem FO.nil (w : World) (B : Nat) : FO w B (.slice none 0 0) [] := World.ownsRow_nil _ _ _ _
/-- the reference's upper branch: block r holds the quotas and leads to inodes -/
structure RU (w : World) (r : Nat) (N Z : Int) (es : List Ent) : Prop where
  ex : ∃ v, Row w r [.int .i64 N, .int .i64 Z, v] 52 ∧ FO w 0 v (es.map Ent.fil)
theorem RU.ck {w w' : World} {r : Nat} {N Z : Int} {es : List Ent} (h : RU w r N Z es) (k : CK w w') : RU w' r N Z es := by
  obtain ⟨v, h1, h2⟩ := h.ex
  exact ⟨v, k _ _ _ _ h1, h2.ck k⟩
theorem RU.below {w w' : World} {r : Nat} {N Z : Int} {es : List Ent} (h : RU w r N Z es) (k : Below w.heap.size w w') : RU w' r N Z es := h.ck (ck_below k)
theorem RU.at_ {w : World} {r : Nat} {N Z : Int} {es : List Ent} (h : RU w r N Z es) : ∃ p cap b o, es.length ≤ cap ∧ cap ≤ 9223372036854775807 ∧ Row w r [.int .i64 N, .int .i64 Z, .slice p es.length cap] 52 ∧ FO w 0 (.slice p es.length cap) (es.map Ent.fil) ∧ ∀ W, Below w.heap.size w W → ∀ (i : Nat) e, es[i]? = some e → p = some ⟨b, o, none⟩ ∧ W.cell? ⟨b, o + i * 4, none⟩ = some (.string (B (showS e.names))) ∧ W.cell? ⟨b, o + i * 4 + 1, none⟩ = some (.int .i64 e.kind) ∧ W.cell? ⟨b, o + i * 4 + 2, none⟩ = some (.bool e.opq) ∧ W.cell? ⟨b, o + i * 4 + 3, none⟩ = some (.string e.data) := by
  obtain ⟨v, h1, h2⟩ := h.ex
  obtain ⟨p, cap, b, o, hv, h3, h4, h5, h6, _⟩ := h2.fls
  rw [List.length_map] at hv h3
  subst hv
  refine ⟨p, cap, b, o, h3, h4, h1, h2, fun W hW i e hi => ?_⟩
  have hne : es.map Ent.fil ≠ [] := by
    intro hh
    rw [List.map_eq_nil_iff] at hh
    rw [hh] at hi
    simp at hi
  obtain ⟨hp, hb⟩ := h5 hne
  have hf : (es.map Ent.fil)[i]? = some e.fil := by rw [List.getElem?_map, hi]; rfl
  have hc : ∀ j u, e.fil.cells[j]? = some u → W.cell? ⟨b, o + i * 4 + j, none⟩ = some u := fun j u hj => by
    rw [hW.cell (p := ⟨b, o + i * 4 + j, none⟩) hb, Nat.add_assoc]
    exact h6 _ _ (fcells_at hf j u hj)
  exact ⟨hp, hc 0 _ rfl, hc 1 _ rfl, hc 2 _ rfl, hc 3 _ rfl⟩
/-- names that are paths below the root -/
def GoodL (es : List Ent) : Prop := ∀ e ∈ es, Gp e.names ∧ e.names ≠ []
theorem good_no {es : List Ent} (h : GoodL es) {xs : List Str} (hx : xs = [] ∨ checkS xs ≠ 0) : entAt es xs = none := by
  cases he : entAt es xs with
  | none => rfl
  | some e =>
    obtain ⟨h1, h2⟩ := at_some he
    obtain ⟨h3, h4⟩ := h e h1
    rw [h2] at h3 h4
    rcases hx with hx | hx
    · exact absurd hx h4
    · exact absurd ((check_gp xs).2 h3) hx
/-- the place of names -/
def IsAt (es : List Ent) (xs : List Str) (k : Int) : Prop := (k = -1 ∧ entAt es xs = none) ∨ ∃ (i : Nat) (e : Ent), k = (i : Int) ∧ es[i]? = some e ∧ e.names = xs
set_option maxHeartbeats 2000000 in
set_option maxRecDepth 100000 in
theorem rplace_any {w : World} {r : Nat} {N Z : Int} {es : List Ent} (h : RU w r N Z es) (hg : GoodL es) {u : Value} {xs : List Str} (hv : Val w u xs) (hl : Lib.lens xs + xs.length ≤ 140737488355328) :
    Calls Tryz.prog 50 #[.pointer (some ⟨r, 0, none⟩), u] w fun e w' => ∃ k : Int, e = .returned (.int .i64 k) ∧ IsAt es xs k ∧ Below w.heap.size w w' := by
  obtain ⟨np, nc, rfl⟩ : ∃ p c, u = .slice p xs.length c := by obtain ⟨p, c, e, _⟩ := hv; exact ⟨p, c, e⟩
  have HCK := hid_in (Vp.rcheck_v hv hl)
  have hxb : xs.length ≤ 140737488355328 := by omega
  by_cases hx0 : xs = []
  · have HNO := hid_in (good_no hg (.inl hx0))
    subst hx0
    clear h hg hv hl hxb HCK
    go_enter Tryz.func50, Tryz.ntmps50
    go_wp2_with fail
    go_ret
    exact ⟨-1, rfl, .inl ⟨rfl, HNO.out⟩, Below.refl _ _⟩
  · have hn0 : ¬ (xs.length : Int) = 0 := by have := List.length_pos_iff.2 hx0; omega
    by_cases hk : checkS xs = 0
    · have hx := (check_gp xs).1 hk
      rw [hk] at HCK
      have HSH := hid_in (Vp.rshow_v hv hl)
      obtain ⟨p, cap, b, o, hc1, hc2, hrow, -, hat⟩ := h.at_
      have HAT := hid_in hat
      have HROW := hid_in hrow
      obtain ⟨T, HT⟩ : ∃ T, Hid (B (showS xs) = T) := ⟨_, hid_in rfl⟩
      rw [HT.out] at HSH
      have HXS := hid_in hx
      have HG := hid_in hg
      generalize hnl : xs.length = nl at *
      generalize hnn : es.length = n at *
      have HNN := hid_in hnn
      clear h hg hv hl hx hk hat hrow hnl hx0 hnn
      go_enter Tryz.func50, Tryz.ntmps50
      go_upto_region 3 with (go_at_call 68; refine HCK.out.mono ?_; rintro e w1 ⟨rfl, hw1⟩; replace hw1 := hw1.symm; subst hw1)
      go_upto_region 4 with (go_at_call 49; refine HSH.out.mono ?_; rintro e w1 ⟨rfl, hd1⟩; have HB1 : Hid (Below w.heap.size w w1) := hid_in (by obtain ⟨m, hm⟩ := hd1; rw [hm]; exact below_drewN (Below.refl _ _) m); clear hd1)
      go_wp2_with fail
      go_loopw [6] (fun vi W => ∃ i : Nat, i ≤ n ∧ vi = .int .i64 (i : Int) ∧ Hid (Below w.heap.size w W ∧ ∀ (j : Nat) e, j < i → es[j]? = some e → e.names ≠ xs)) (fun vi _ => n - (intOf vi).toNat)
      case atStart => exact ⟨0, by omega, rfl, HB1.out, fun j e hj => by omega⟩
      case round =>
        obtain ⟨i, hi, rfl, hbn⟩ := hrel
        have HBR := hid_in hbn.out.1
        have hno := hid_in hbn.out.2
        clear hbn
        have q2 : wr.cell? ⟨r, 2, none⟩ = some (.slice p n cap) := (HROW.out.below HBR.out HROW.out.lt).cell 2
        by_cases hlt : i < n
        · obtain ⟨e, he⟩ : ∃ e, es[i]? = some e := ⟨_, List.getElem?_eq_getElem (by rw [HNN.out]; exact hlt)⟩
          obtain ⟨rfl, c0, -, -, -⟩ := HAT.out _ HBR.out i e he
          have hlt2 : (i : Int) < (n : Int) := by omega
          have hge := HG.out e (List.mem_of_getElem? he)
          by_cases hen : e.names = xs
          · have HEN := hid_in (And.intro he hen)
            rw [hen, HT.out] at c0
            clear he hen hge hno
            go_wp2_with fail
            go_ret
            exact ⟨(i : Int), rfl, .inr ⟨i, e, rfl, HEN.out.1, HEN.out.2⟩, HBR.out⟩
          · have hne : B (showS e.names) ≠ T := by rw [← HT.out]; exact fun hh => hen (hge.1.injB HXS.out hh)
            have HEN := hid_in (And.intro he hen)
            generalize B (showS e.names) = T' at *
            have hb : (T' == T) = false := by rw [Bool.eq_false_iff]; exact fun hh => hne ((MapKept.bytes_beq _ _).1 hh)
            have hlst : (T'.toList == T.toList) = false := by rw [Bool.eq_false_iff]; exact fun e => hne (toL_inj (eq_of_beq e))
            have HLT := hid_in hlt
            clear he hen hge hlt
            go_wp2_with fail
            refine ⟨⟨i + 1, by have := HLT.out; omega, by go_num, HBR.out, fun j x hj hx => ?_⟩, by have := HLT.out; simp [intOf]; omega⟩
            rcases (show j < i ∨ j = i by omega) with hj | rfl
            · exact hno.out j x hj hx
            · rw [HEN.out.1] at hx
              obtain rfl := Option.some.inj hx
              exact HEN.out.2
        · obtain rfl : i = n := by omega
          clear hlt hi
          go_wp2_with fail
          go_ret
          refine ⟨-1, rfl, .inl ⟨rfl, ?_⟩, HBR.out⟩
          rw [at_none]
          intro hm
          obtain ⟨e, he, hen⟩ := List.mem_map.1 hm
          obtain ⟨j, hj⟩ := List.getElem?_of_mem he
          exact hno.out j e (by rw [← HNN.out]; exact (List.getElem?_eq_some_iff.1 hj).1) hj hen
    · have HNO := hid_in (good_no hg (.inr hk))
      generalize checkS xs = K at *
      generalize xs.length = nl at *
      have hkb : (K != 0) = true := by simp [hk]
      clear h hg hv hl hx0
      go_enter Tryz.func50, Tryz.ntmps50
      go_wp2_with (go_at_call 68; refine HCK.out.mono ?_; rintro e w1 ⟨rfl, hw1⟩; replace hw1 := hw1.symm; subst hw1)
      go_ret
      exact ⟨-1, rfl, .inl ⟨rfl, HNO.out⟩, Below.refl _ _⟩
end Go.Proofs.YtglfeocfhlmloaaGreat.Up
