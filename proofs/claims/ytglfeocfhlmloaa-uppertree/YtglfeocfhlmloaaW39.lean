/-
  The reference's place and Get of names of any length.
-/
import Derived.Lib.AppendZeros
import Derived.Deep.DrawnRows
import Derived.Deep.CutRange
import Derived.Laws.CopyOwn
import Derived.Shelf.SlMaps.Clone
import Derived.Deep.RegionLaw
import Derived.Laws.Tables
import Derived.Test.YtglfeocfhlmloaaW00
import Derived.Test.YtglfeocfhlmloaaW01
import Derived.Test.YtglfeocfhlmloaaW02
import Derived.Test.YtglfeocfhlmloaaW03
import Derived.Test.YtglfeocfhlmloaaW04
import Derived.Test.YtglfeocfhlmloaaW05
import Derived.Test.YtglfeocfhlmloaaW06
import Derived.Test.YtglfeocfhlmloaaW07
import Derived.Test.YtglfeocfhlmloaaW08
import Derived.Test.YtglfeocfhlmloaaW09
import Derived.Test.YtglfeocfhlmloaaW10
import Derived.Test.YtglfeocfhlmloaaW11
import Derived.Test.YtglfeocfhlmloaaW12
import Derived.Test.YtglfeocfhlmloaaW13
import Derived.Test.YtglfeocfhlmloaaW14
import Derived.Test.YtglfeocfhlmloaaW15
import Derived.Test.YtglfeocfhlmloaaW16
import Derived.Test.YtglfeocfhlmloaaW17
import Derived.Test.YtglfeocfhlmloaaW18
import Derived.Test.YtglfeocfhlmloaaW19
import Derived.Test.YtglfeocfhlmloaaW20
import Derived.Test.YtglfeocfhlmloaaW21
import Derived.Test.YtglfeocfhlmloaaW22
import Derived.Test.YtglfeocfhlmloaaW23
import Derived.Test.YtglfeocfhlmloaaW24
import Derived.Test.YtglfeocfhlmloaaW25
import Derived.Test.YtglfeocfhlmloaaW26
import Derived.Test.YtglfeocfhlmloaaW27
import Derived.Test.YtglfeocfhlmloaaW28
import Derived.Test.YtglfeocfhlmloaaW29
import Derived.Test.YtglfeocfhlmloaaW30
import Derived.Test.YtglfeocfhlmloaaW38
namespace Go.Proofs.Ytglfeocfhlmloaa.Up
open Go.RowKit
open Vp (Str B bl Val cmpL parseS showS withinS IsPath checkS)
open Nd (Row wp_world post_Row2 grownBy_setCell below_of_grown)
set_option maxHeartbeats 2000000 in
set_option maxRecDepth 100000 in
theorem rplace_wide {w : World} {r : Nat} {N Z : Int} {es : List Ent} (h : RU w r N Z es) (hg : GoodL es) {u : Value} {xs : List Str} (hv : Val w u xs) (hl : ∀ x ∈ xs, x.length ≤ 9223372036854775807) :
    Calls Try.prog 35 #[.pointer (some ⟨r, 0, none⟩), u] w fun e w' => ∃ k : Int, e = .returned (.int .i64 k) ∧ IsAt es xs k ∧ Below w.heap.size w w' := by
  obtain ⟨np, nc, rfl⟩ : ∃ p c, u = .slice p xs.length c := by obtain ⟨p, c, e, _⟩ := hv; exact ⟨p, c, e⟩
  have HCK := hid_in (Vp.rcheck_w hv hl)
  have hxb : xs.length ≤ 9223372036854775807 := by obtain ⟨p, c, _, h1, h2, _⟩ := hv; omega
  by_cases hx0 : xs = []
  · have HNO := hid_in (good_no hg (.inl hx0))
    subst hx0
    clear h hg hv hl hxb HCK
    go_enter Try.func35, Try.ntmps35
    go_wp2_with fail
    go_ret
    exact ⟨-1, rfl, .inl ⟨rfl, HNO.out⟩, Below.refl _ _⟩
  · have hn0 : ¬ (xs.length : Int) = 0 := by have := List.length_pos_iff.2 hx0; omega
    by_cases hk : checkS xs = 0
    · have hx := (check_gp xs).1 hk
      rw [hk] at HCK
      have HSH := hid_in (Vp.rshow_v hv (by have := hx.lens; omega))
      obtain ⟨p, cap, b, o, hc1, hc2, hrow, -, hat⟩ := h.at_
      have HAT := hid_in hat
      have HROW := hid_in hrow
      obtain ⟨T, HT⟩ : ∃ T, Hid (B (showS xs) = T) := ⟨_, hid_in rfl⟩
      rw [HT.out] at HSH
      have HXS := hid_in hx
      have HG := hid_in hg
      generalize hnl : xs.length = nl at *
      generalize hnn : es.length = n at *
      have HNN := hid_in hnn
      clear h hg hv hl hx hk hat hrow hnl hx0 hnn
      go_enter Try.func35, Try.ntmps35
      go_upto_region 3 with (go_at_call 55; refine HCK.out.mono ?_; rintro e w1 ⟨rfl, hw1⟩; replace hw1 := hw1.symm; subst hw1)
      go_upto_region 4 with (go_at_call 26; refine HSH.out.mono ?_; rintro e w1 ⟨rfl, hd1⟩; have HB1 : Hid (Below w.heap.size w w1) := hid_in (by obtain ⟨m, hm⟩ := hd1; rw [hm]; exact below_drewN (Below.refl _ _) m); clear hd1)
      go_wp2_with fail
      go_loopw [6] (fun vi W => ∃ i : Nat, i ≤ n ∧ vi = .int .i64 (i : Int) ∧ Hid (Below w.heap.size w W ∧ ∀ (j : Nat) e, j < i → es[j]? = some e → e.names ≠ xs)) (fun vi _ => n - (intOf vi).toNat)
      case atStart => exact ⟨0, by omega, rfl, HB1.out, fun j e hj => by omega⟩
      case round =>
        obtain ⟨i, hi, rfl, hbn⟩ := hrel
        have HBR := hid_in hbn.out.1
        have hno := hid_in hbn.out.2
        clear hbn
        have q2 : wr.cell? ⟨r, 2, none⟩ = some (.slice p n cap) := (HROW.out.below HBR.out HROW.out.lt).cell 2
        by_cases hlt : i < n
        · obtain ⟨e, he⟩ : ∃ e, es[i]? = some e := ⟨_, List.getElem?_eq_getElem (by rw [HNN.out]; exact hlt)⟩
          obtain ⟨rfl, c0, -, -, -⟩ := HAT.out _ HBR.out i e he
          have hlt2 : (i : Int) < (n : Int) := by omega
          have hge := HG.out e (List.mem_of_getElem? he)
          by_cases hen : e.names = xs
          · have HEN := hid_in (And.intro he hen)
            rw [hen, HT.out] at c0
            clear he hen hge hno
            go_wp2_with fail
            go_ret
            exact ⟨(i : Int), rfl, .inr ⟨i, e, rfl, HEN.out.1, HEN.out.2⟩, HBR.out⟩
          · have hne : B (showS e.names) ≠ T := by rw [← HT.out]; exact fun hh => hen (hge.1.injB HXS.out hh)
            have HEN := hid_in (And.intro he hen)
            generalize B (showS e.names) = T' at *
            have hb : (T' == T) = false := by rw [Bool.eq_false_iff]; exact fun hh => hne ((MapKept.bytes_beq _ _).1 hh)
            have hlst : (T'.toList == T.toList) = false := by rw [Bool.eq_false_iff]; exact fun e => hne (toL_inj (eq_of_beq e))
            have HLT := hid_in hlt
            clear he hen hge hlt
            go_wp2_with fail
            refine ⟨⟨i + 1, by have := HLT.out; omega, by go_num, HBR.out, fun j x hj hx => ?_⟩, by have := HLT.out; simp [intOf]; omega⟩
            rcases (show j < i ∨ j = i by omega) with hj | rfl
            · exact hno.out j x hj hx
            · rw [HEN.out.1] at hx
              obtain rfl := Option.some.inj hx
              exact HEN.out.2
        · obtain rfl : i = n := by omega
          clear hlt hi
          go_wp2_with fail
          go_ret
          refine ⟨-1, rfl, .inl ⟨rfl, ?_⟩, HBR.out⟩
          rw [at_none]
          intro hm
          obtain ⟨e, he, hen⟩ := List.mem_map.1 hm
          obtain ⟨j, hj⟩ := List.getElem?_of_mem he
          exact hno.out j e (by rw [← HNN.out]; exact (List.getElem?_eq_some_iff.1 hj).1) hj hen
    · have HNO := hid_in (good_no hg (.inr hk))
      generalize checkS xs = K at *
      generalize xs.length = nl at *
      have hkb : (K != 0) = true := by simp [hk]
      clear h hg hv hl hx0
      go_enter Try.func35, Try.ntmps35
      go_wp2_with (go_at_call 55; refine HCK.out.mono ?_; rintro e w1 ⟨rfl, hw1⟩; replace hw1 := hw1.symm; subst hw1)
      go_ret
      exact ⟨-1, rfl, .inl ⟨rfl, HNO.out⟩, Below.refl _ _⟩
set_option maxHeartbeats 2000000 in
set_option maxRecDepth 100000 in
theorem rget_wide {w : World} {r : Nat} {N Z : Int} {es : List Ent} (h : RU w r N Z es) (hg : GoodL es) (hnd : (es.map (·.names)).Nodup) {u : Value} {xs : List Str} (hv : Val w u xs) (hl : ∀ x ∈ xs, x.length ≤ 9223372036854775807) :
    Calls Try.prog 14 #[.pointer (some ⟨r, 0, none⟩), u] w fun e w' => e = .returned (.tuple #[inoA (entAt es xs), .bool (entAt es xs).isSome]) ∧ Below w.heap.size w w' := by
  obtain ⟨np, nc, rfl⟩ : ∃ p c, u = .slice p xs.length c := by obtain ⟨p, c, e, _⟩ := hv; exact ⟨p, c, e⟩
  obtain ⟨w1, HW1⟩ : ∃ w1, Hid (w.alloc (.cells #[.string ⟨#[]⟩, .int .i64 0, .bool false, .string ⟨#[]⟩] 36) = w1) := ⟨_, hid_in rfl⟩
  have HB1 : Hid (Below w.heap.size w w1) := by rw [← HW1.out]; exact (Below.refl _ _).alloc (Nat.le_refl _) _
  have HR1 : Hid (Row w1 w.heap.size [.string ⟨#[]⟩, .int .i64 0, .bool false, .string ⟨#[]⟩] 36) := by rw [← HW1.out]; exact Row.new w [.string ⟨#[]⟩, .int .i64 0, .bool false, .string ⟨#[]⟩] 36
  have HPL := hid_in (rplace_wide (h.below HB1.out) hg (hv.below HB1.out) hl)
  obtain ⟨p, cap, b, o, hc1, hc2, hrow, -, hat⟩ := h.at_
  have HAT := hid_in hat
  have HROW := hid_in hrow
  have HND := hid_in hnd
  obtain ⟨V, HV⟩ : ∃ V, Hid (inoA (entAt es xs) = V) := ⟨_, hid_in rfl⟩
  obtain ⟨S, HS⟩ : ∃ S, Hid ((entAt es xs).isSome = S) := ⟨_, hid_in rfl⟩
  rw [HV.out, HS.out]
  generalize xs.length = nl at *
  generalize hnn : es.length = n at *
  have HNN := hid_in hnn
  clear h hg hv hl hnd hat hrow hnn
  go_enter Try.func14, Try.ntmps14
  go_upto_region 1 with fail
  refine wp_world HW1.out ?_
  go_upto_region 2 with (go_at_call 35; refine HPL.out.mono ?_; rintro e w2 ⟨k, rfl, hk, hb2⟩; have HK := hid_in hk; have HB2 := hid_in (HB1.out.trans (hb2.mono HB1.out.size)); have HR2 := hid_in (HR1.out.below hb2 HR1.out.lt); clear hk hb2)
  have r0 := HR2.out.cell 0
  have r1 := HR2.out.cell 1
  have r2 := HR2.out.cell 2
  have r3 := HR2.out.cell 3
  have z0 := HR2.out.frozen 0
  have z1 := HR2.out.frozen 1
  have z2 := HR2.out.frozen 2
  have z3 := HR2.out.frozen 3
  have q2 : w2.cell? ⟨r, 2, none⟩ = some (.slice p n cap) := (HROW.out.below HB2.out HROW.out.lt).cell 2
  clear HPL HR1 HB1
  rcases HK.out with ⟨rfl, hno⟩ | ⟨i, e, rfl, he, hen⟩
  · have HNO := hid_in hno
    clear hno
    go_wp2
    exact post_Row2 4 5 36 rfl w.heap.size rfl 36 [.string ⟨#[]⟩, .int .i64 0, .bool false, .string ⟨#[]⟩] ((((HR2.out.set_same 0 _).set_same 1 _).set_same 2 _).set_same 3 _) _ Try.underlying36 rfl 4 info36 rfl rfl ⟨by rw [← HV.out, ← HS.out, HNO.out]; rfl, (set4_below HB2.out (Nat.le_refl _) HB2.out.size _ _ _ _).1⟩
  · have hx := at_mem HND.out (List.mem_of_getElem? he)
    rw [hen] at hx
    have HNO := hid_in hx
    have HVE : Hid (V = .agg #[.string (B (showS e.names)), .int .i64 e.kind, .bool e.opq, .string e.data] ∧ S = true) := hid_in (by rw [← HV.out, ← HS.out, hx]; exact ⟨rfl, rfl⟩)
    obtain ⟨rfl, c0, c1, c2, c3⟩ := HAT.out _ HB2.out i e he
    have hi : (i : Int) < (n : Int) := by have := (List.getElem?_eq_some_iff.1 he).1; have := HNN.out; omega
    have hi0 : ¬ (i : Int) < 0 := by omega
    generalize B (showS e.names) = T at *
    generalize e.kind = ek at *
    generalize e.opq = eq at *
    generalize e.data = ed at *
    clear he hen hx HK HAT
    go_wp2
    exact post_Row2 4 5 36 rfl w.heap.size rfl 36 [.string T, .int .i64 ek, .bool eq, .string ed] ((((HR2.out.set_same 0 _).set_same 1 _).set_same 2 _).set_same 3 _) _ Try.underlying36 rfl 4 info36 rfl rfl ⟨by rw [HVE.out.1, HVE.out.2]; rfl, (set4_below HB2.out (Nat.le_refl _) HB2.out.size _ _ _ _).1⟩
end Go.Proofs.Ytglfeocfhlmloaa.Up
