/-
  The reference's fail, dirOf. The reference's Names: the names in a directory.
-/
import Derived.Laws.CopyOwn
import Derived.Deep.RegionLaw
import Derived.Deep.DrawnRows
import Derived.Deep.CutRange
import Derived.Lib.SlBytesConst
import Derived.Lib.AppendZeros
import Derived.Laws.Tables
import Derived.Test.YtngehkmdanhgpaaGreatQ00
import Derived.Test.YtngehkmdanhgpaaGreatQ01
import Derived.Test.YtngehkmdanhgpaaGreatQ02
import Derived.Test.YtngehkmdanhgpaaGreatQ03
import Derived.Test.YtngehkmdanhgpaaGreatQ04
import Derived.Test.YtngehkmdanhgpaaGreatQ05
import Derived.Test.YtngehkmdanhgpaaGreatQ06
import Derived.Test.YtngehkmdanhgpaaGreatQ07
import Derived.Test.YtngehkmdanhgpaaGreatQ08
import Derived.Test.YtngehkmdanhgpaaGreatQ09
import Derived.Test.YtngehkmdanhgpaaGreatQ10
import Derived.Test.YtngehkmdanhgpaaGreatQ11
import Derived.Test.YtngehkmdanhgpaaGreatQ12
import Derived.Test.YtngehkmdanhgpaaGreatQ13
import Derived.Test.YtngehkmdanhgpaaGreatQ14
import Derived.Test.YtngehkmdanhgpaaGreatQ15
import Derived.Test.YtngehkmdanhgpaaGreatQ16
import Derived.Test.YtngehkmdanhgpaaGreatQ17
import Derived.Test.YtngehkmdanhgpaaGreatQ18
import Derived.Test.YtngehkmdanhgpaaGreatQ19
import Derived.Test.YtngehkmdanhgpaaGreatQ20
import Derived.Test.YtngehkmdanhgpaaGreatQ21
import Derived.Test.YtngehkmdanhgpaaGreatQ22
import Derived.Test.YtngehkmdanhgpaaGreatQ23
import Derived.Test.YtngehkmdanhgpaaGreatQ24
import Derived.Test.YtngehkmdanhgpaaGreatQ25
import Derived.Test.YtngehkmdanhgpaaGreatQ26
import Derived.Test.YtngehkmdanhgpaaGreatQ27
import Derived.Test.YtngehkmdanhgpaaGreatQ28
import Derived.Test.YtngehkmdanhgpaaGreatQ29
import Derived.Test.YtngehkmdanhgpaaGreatQ30
import Derived.Test.YtngehkmdanhgpaaGreatQ31
import Derived.Test.YtngehkmdanhgpaaGreatQ32
import Derived.Test.YtngehkmdanhgpaaGreatQ33
namespace Go.Proofs.YtngehkmdanhgpaaGreat.Pl
open Go.RowKit
open Vp (Str B bl Val cmpL parseS showS splitS withinS IsPath)
open Nd (Row wp_world post_Row post_Row2 grownBy_setCell below_of_grown)
open Rf (Fil Fls FO fcells)
theorem rfail_any (k : Int) (w : World) : Calls Tryz.prog 34 #[.int .i64 k] w fun e w' => e = .returned (.agg #[.int .i64 k, .bool false, .int .i64 0, .string ⟨#[]⟩, .slice none 0 0]) ∧ Below w.heap.size w w' := by
  go_enter Tryz.func34, Tryz.ntmps34
  go_wp2
  exact post_Row 2 37 rfl w.heap.size rfl 37 [.int .i64 k, .bool false, .int .i64 0, .string ⟨#[]⟩, .slice none 0 0] (Row.new w [.int .i64 k, .bool false, .int .i64 0, .string ⟨#[]⟩, .slice none 0 0] 37) _ Tryz.underlying37 rfl 5 info37 rfl rfl ⟨rfl, (Below.refl _ _).alloc (Nat.le_refl _) _⟩
/-- looking up a path's directory -/
def dirR (es : List Ent) (xs : List Str) : Int := if (lookR es xs.dropLast).2 = 0 ∧ (lookR es xs.dropLast).1.dir = false then 70 else (lookR es xs.dropLast).2
set_option maxHeartbeats 2000000 in
set_option maxRecDepth 100000 in
theorem rdirOf_any {w : World} {r : Nat} {es : List Ent} (h : RF w r es) (hg : GoodL es) (hnd : (es.map (·.names)).Nodup) {nv : Value} {xs : List Str} (hv : Val w nv xs) (hx : Gp xs) (h0 : xs ≠ []) :
    Calls Tryz.prog 35 #[.pointer (some ⟨r, 0, none⟩), nv] w fun e w' => e = .returned (.int .i64 (dirR es xs)) ∧ Below w.heap.size w w' := by
  obtain ⟨np, nc, rfl⟩ : ∃ p c, nv = .slice p xs.length c := by obtain ⟨p, c, e, _⟩ := hv; exact ⟨p, c, e⟩
  obtain ⟨hvf, hc1, hc2⟩ := Rf.val_front hv
  have HLK := hid_in (rlook_any h hg hnd hvf hx.dropLast)
  have hl1 : 0 < xs.length := List.length_pos_iff.2 h0
  have hsl := slice35_to np xs.length nc (xs.length - 1) (by omega)
  have hin : ((xs.length - 1 : Nat) : Int) = (xs.length : Int) - 1 := by omega
  rw [hin] at hsl
  have h8 : (xs.length : Int) ≤ 8 := by have := hx.2; omega
  have h9 : 0 < (xs.length : Int) := by omega
  unfold dirR
  generalize lookR es xs.dropLast = L at *
  obtain ⟨⟨sn, sd, sx⟩, k⟩ := L
  simp only at *
  generalize hnl : xs.length = nl at *
  generalize hnm : nl - 1 = nm at *
  clear h hg hnd hv hx h0 hvf hc1 hc2 hl1 hin hnl hnm
  by_cases hk : k = 0
  · subst hk
    unfold lkV at HLK
    rw [if_pos rfl] at HLK
    simp only at HLK
    generalize B (showS sn) = sp at *
    cases sd with
    | false =>
      go_enter Tryz.func35, Tryz.ntmps35
      go_wp2_with (go_at_call 74; refine HLK.out.mono ?_; rintro e w2 ⟨rfl, hb2⟩; have HB2 := hid_in hb2; clear hb2)
      go_ret
      exact ⟨by simp, HB2.out.alloc HB2.out.size _⟩
    | true =>
      go_enter Tryz.func35, Tryz.ntmps35
      go_wp2_with (go_at_call 74; refine HLK.out.mono ?_; rintro e w2 ⟨rfl, hb2⟩; have HB2 := hid_in hb2; clear hb2)
      go_ret
      exact ⟨by simp, HB2.out.alloc HB2.out.size _⟩
  · have hk2 : (k == 0) = false := by simpa using hk
    unfold lkV at HLK
    rw [if_neg hk] at HLK
    rw [if_neg (fun e => hk e.1)]
    clear hk
    go_enter Tryz.func35, Tryz.ntmps35
    go_wp2_with (go_at_call 74; refine HLK.out.mono ?_; rintro e w2 ⟨rfl, hb2⟩; have HB2 := hid_in hb2; clear hb2)
    go_ret
    exact ⟨rfl, HB2.out.alloc HB2.out.size _⟩
end Go.Proofs.YtngehkmdanhgpaaGreat.Pl
namespace Go.Proofs.YtngehkmdanhgpaaGreat.Pl
open Go.RowKit
open Vp (Str B bl Val cmpL parseS showS splitS withinS IsPath)
open Nd (Row wp_world post_Row post_Row2 grownBy_setCell below_of_grown)
open Rf (Fil Fls FO fcells)
theorem val_one (w : World) (y : Str) : Val (w.alloc (.cells #[.string (B y)] 9)) (.slice (some ⟨w.heap.size, 0, none⟩) 1 1) [y] := by
  have hr := Row.new w [.string (B y)] 9
  refine ⟨_, 1, rfl, ⟨by simp, by omega, fun h => (by cases h), w.heap.size, 0, fun _ => ⟨rfl, by simp⟩, fun j x hx => ?_⟩⟩
  rw [Nat.zero_add, hr.cell]
  cases j with
  | zero => simp at hx; subst hx; rfl
  | succ j => simp at hx
theorem kid_take {fs : List Ent} {xs : List Str} {i : Nat} {e : Ent} (h : fs[i]? = some e) : ((fs.take (i + 1)).filter (kidE xs)).map shownS = ((fs.take i).filter (kidE xs)).map shownS ++ (if kidE xs e then [shownS e] else []) := by
  rw [List.take_add_one, h, List.filter_append, List.map_append]
  cases hf : kidE xs e <;> simp [hf]
set_option maxHeartbeats 4000000 in
set_option maxRecDepth 100000 in
theorem rnm_any {w : World} {r : Nat} {es : List Ent} (h : RF w r es) (hg : GoodL es) (hn : es.length ≤ 100000) {nv : Value} {xs : List Str} (hv : Val w nv xs) (hx : Gp xs) :
    Calls Tryz.prog 77 #[.pointer (some ⟨r, 0, none⟩), nv] w fun e w' => ∃ v, e = .returned v ∧ Rf.Nm w' v ((kidsA es xs).map shownS) ∧ Below w.heap.size w w' := by
  have HBE := hid_in (rbelow_any h hg hn hv)
  obtain ⟨np, nc, rfl⟩ : ∃ p c, nv = .slice p xs.length c := by obtain ⟨p, c, e, _⟩ := hv; exact ⟨p, c, e⟩
  have HKA : Hid ((kidsA es xs).map shownS = ((es.filter (belowE xs)).filter (kidE xs)).map shownS) := hid_in rfl
  have hg2 : GoodL (es.filter (belowE xs)) := fun e he => hg e (List.mem_filter.1 he).1
  have hn2 : (es.filter (belowE xs)).length ≤ 100000 := Nat.le_trans (List.length_filter_le _ _) hn
  have h8 : (xs.length : Int) ≤ 8 := by have := hx.2; omega
  rw [HKA.out]
  generalize es.filter (belowE xs) = fs at *
  have HG := hid_in hg2
  have HN := hid_in hn2
  obtain ⟨nl, HNL⟩ : ∃ nl, Hid (xs.length = nl) := ⟨_, hid_in rfl⟩
  rw [HNL.out] at HBE h8 ⊢
  clear h hg hn hv hx hg2 hn2
  go_enter Tryz.func77, Tryz.ntmps77
  go_upto_region 3 with (go_at_call 75; refine HBE.out.mono ?_; rintro e w1 ⟨v1, rfl, ho1, hb1⟩; have HO1 := hid_in ho1; have HB1 := hid_in hb1; clear ho1 hb1)
  obtain ⟨p1, c1, b1, o1, hv1, hl1, hl2, hat⟩ := HO1.out.fls.cells3
  rw [List.length_map] at hv1 hl1
  subst hv1
  have HAT := hid_in hat
  generalize hfl : fs.length = n at *
  have HFL := hid_in hfl
  clear hat hfl HO1
  go_wp2_with fail
  go_loopw [5, 7] (fun vo vi W => ∃ i : Nat, i ≤ n ∧ vi = .int .i64 (i : Int) ∧ Hid (Vp.Nms W w1.heap.size vo (((fs.take i).filter (kidE xs)).map shownS) ∧ Below w1.heap.size w1 W)) (fun _ vi _ => n - (intOf vi).toNat)
  case atStart => exact ⟨0, by omega, rfl, World.ownsRow_nil _ _ _ _, Below.refl _ _⟩
  case round =>
    obtain ⟨i, hi, rfl, hR⟩ := hrel
    have HO := hid_in hR.out.1
    have HB := hid_in hR.out.2
    clear hR
    by_cases hlt : i < n
    · obtain ⟨e, he⟩ : ∃ e, fs[i]? = some e := ⟨_, List.getElem?_eq_getElem (by rw [HFL.out]; exact hlt)⟩
      obtain ⟨rfl, hcs⟩ := HAT.out i e.fil (by rw [List.getElem?_map, he]; rfl)
      have HCS := hid_in (fun W k => hcs W k)
      obtain ⟨c0, -, -⟩ := hcs _ HB.out
      simp only [Ent.fil] at c0 HCS
      have hlt2 : (i : Int) < (n : Int) := by omega
      have hi0 : ¬ (i : Int) < 0 := by omega
      have hi1 : 0 ≤ (i : Int) := by omega
      have hge := HG.out e (List.mem_of_getElem? he)
      have HNM := hid_in (fun W => names_e hge.1 W)
      have HKT := hid_in (kid_take (xs := xs) he)
      have HLT := hid_in hlt
      have HGE := hid_in hge
      have HLE : Hid ((((fs.take i).filter (kidE xs)).map shownS).length ≤ 100000) := hid_in (by
        rw [List.length_map]
        have h1 := List.length_filter_le (kidE xs) (fs.take i)
        have h2 : (fs.take i).length ≤ i := by simp; omega
        have := HN.out; omega)
      generalize ((fs.take i).filter (kidE xs)).map shownS = acc at *
      generalize hen : e.names.length = en at *
      have HEN := hid_in hen
      have hen8 : (en : Int) ≤ 8 := by have := hge.1.2; omega
      clear he hcs hlt hi hge hen
      go_upto_region 7 with (go_at_call 19; refine (HNM.out _).mono ?_; rintro x w2 ⟨p2, k2, rfl, hv2, hb2⟩; have HV2 := hid_in hv2; have HB2 := hid_in (HB.out.trans (hb2.mono HB.out.size)); have HO2 := hid_in (Nd.own_belowK HO.out hb2); clear hv2 hb2)
      by_cases hk : en = nl + 1
      · have hkk : kidE xs e = true := by unfold kidE; rw [HEN.out, HNL.out]; exact decide_eq_true hk
        rw [if_pos hkk] at HKT
        have hne : e.names ≠ [] := HGE.out.2
        obtain ⟨y, hy⟩ : ∃ y, e.names[nl]? = some y := ⟨_, List.getElem?_eq_getElem (by rw [HEN.out]; omega)⟩
        have HSW : Hid (shownS e = y ++ (if e.dir then [47] else [])) := hid_in (by
          unfold shownS
          rw [List.getLast?_eq_getElem?, HEN.out, hk, show nl + 1 - 1 = nl by omega, hy]
          rfl)
        have hys : (B y).size ≤ 1000 := by
          have := (Vp.name_facts (HGE.out.1.1 y (List.mem_of_getElem? hy))).2.2.2.1
          have e2 : (B y).size = y.length := by simp [B, ByteArray.size]
          omega
        obtain ⟨p3, k3, e3, hr⟩ := HV2.out
        rw [HEN.out] at e3
        simp only [Value.slice.injEq] at e3
        obtain ⟨rfl, _, rfl⟩ := e3
        obtain ⟨b2, o2, hp2, hc2⟩ := hr.at_
        obtain rfl := hp2 hne
        have y0 : w2.cell? ⟨b2, o2 + nl, none⟩ = some (.string (B y)) := hc2 nl y 0 hy
        obtain ⟨d0, d1, -⟩ := HCS.out _ HB2.out
        subst hk
        have q1 : (nl : Int) < ((nl + 1 : Nat) : Int) := by omega
        have q2 : ¬ (nl : Int) < 0 := by omega
        have q3 : 0 ≤ (nl : Int) := by omega
        have q4 : ((nl + 1 : Nat) : Int) = (nl : Int) + 1 := by omega
        clear hkk hne hy hc2 hr hp2 HV2 HNM
        cases hd : e.dir with
        | false =>
          rw [hd] at d1 HSW
          simp only [Bool.false_eq_true, if_false, List.append_nil] at HSW
          rw [HSW.out] at HKT
          have HF := hid_in (val_one w2 y)
          clear hd
          have HA1 : Hid (Below w2.heap.size w2 (w2.alloc (.cells #[.string (B y)] 9))) := hid_in ((Below.refl _ _).alloc (Nat.le_refl _) _)
          have HO3 := hid_in (Nd.own_belowK HO2.out HA1.out)
          have HBX := hid_in (HB2.out.trans (HA1.out.mono HB2.out.size))
          go_wp2_with (first | (at_builtin; refine wpList_appN w1.heap.size rfl (.tmp 43) (.tmp 45) rfl _ acc [y] rfl HO3.out (.slice (some ⟨w2.heap.size, 0, none⟩) 1 1) rfl HF.out (by have := HLE.out; simp only [List.length_cons, List.length_nil]; omega) HBX.out.size ?_; intro v4 w4 ho4 hg4; have HB4 := hid_in (HBX.out.grown hg4 HBX.out.size (fun k e => (Nd.own_geK HO3.out k e).1)); have HO4 := hid_in ho4; clear ho4 hg4; simp only [Act.put, List.setIfInBounds_toArray, List.set_cons_zero, List.set_cons_succ]))
          refine ⟨⟨i + 1, by have := HLT.out; omega, by go_num, ?_, HB4.out⟩, by have := HLT.out; simp [intOf]; omega⟩
          rw [HKT.out]
          exact HO4.out
        | true =>
          rw [hd] at d1 HSW
          simp only [if_true] at HSW
          rw [HSW.out] at HKT
          have hB : B (y ++ [47]) = B y ++ ⟨#[47]⟩ := B_app y [47]
          have HF := hid_in (val_one w2 (y ++ [47]))
          rw [hB] at HF
          clear hd hB
          have HA1 : Hid (Below w2.heap.size w2 (w2.alloc (.cells #[.string (B y ++ ⟨#[47]⟩)] 9))) := hid_in ((Below.refl _ _).alloc (Nat.le_refl _) _)
          have HO3 := hid_in (Nd.own_belowK HO2.out HA1.out)
          have HBX := hid_in (HB2.out.trans (HA1.out.mono HB2.out.size))
          go_wp2_with (first | (at_builtin; refine wpList_appN w1.heap.size rfl (.tmp 43) (.tmp 45) rfl _ acc [y ++ [47]] rfl HO3.out (.slice (some ⟨w2.heap.size, 0, none⟩) 1 1) rfl HF.out (by have := HLE.out; simp only [List.length_cons, List.length_nil]; omega) HBX.out.size ?_; intro v4 w4 ho4 hg4; have HB4 := hid_in (HBX.out.grown hg4 HBX.out.size (fun k e => (Nd.own_geK HO3.out k e).1)); have HO4 := hid_in ho4; clear ho4 hg4; simp only [Act.put, List.setIfInBounds_toArray, List.set_cons_zero, List.set_cons_succ]))
          refine ⟨⟨i + 1, by have := HLT.out; omega, by go_num, ?_, HB4.out⟩, by have := HLT.out; simp [intOf]; omega⟩
          rw [HKT.out]
          exact HO4.out
      · have hkk : ¬ kidE xs e = true := by unfold kidE; rw [HEN.out, HNL.out]; simpa using hk
        rw [if_neg hkk, List.append_nil] at HKT
        have hk2 : ((en : Int) == (nl : Int) + 1) = false := by rw [beq_eq_false_iff_ne]; omega
        clear hkk hk HNM HV2
        go_wp2_with fail
        refine ⟨⟨i + 1, by have := HLT.out; omega, by go_num, ?_, HB2.out⟩, by have := HLT.out; simp [intOf]; omega⟩
        rw [HKT.out]
        exact HO2.out
    · obtain rfl : i = n := by omega
      have hall : fs.take i = fs := by rw [List.take_of_length_le]; rw [HFL.out]; exact Nat.le_refl _
      rw [hall] at HO
      clear hall hlt hi
      go_wp2_with fail
      go_ret
      exact ⟨_, rfl, Rf.Nm.of HO.out, HB1.out.trans (HB.out.mono HB1.out.size)⟩
end Go.Proofs.YtngehkmdanhgpaaGreat.Pl
