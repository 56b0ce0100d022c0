/-
  The reference's write: write and truncate.
-/
import Derived.Laws.CopyOwn
import Derived.Deep.RegionLaw
import Derived.Deep.DrawnRows
import Derived.Deep.CutRange
import Derived.Lib.SlBytesConst
import Derived.Lib.AppendZeros
import Derived.Laws.Tables
import Derived.Test.YtngehkmdanhgpaaGreatQ00
import Derived.Test.YtngehkmdanhgpaaGreatQ01
import Derived.Test.YtngehkmdanhgpaaGreatQ02
import Derived.Test.YtngehkmdanhgpaaGreatQ03
import Derived.Test.YtngehkmdanhgpaaGreatQ04
import Derived.Test.YtngehkmdanhgpaaGreatQ05
import Derived.Test.YtngehkmdanhgpaaGreatQ06
import Derived.Test.YtngehkmdanhgpaaGreatQ07
import Derived.Test.YtngehkmdanhgpaaGreatQ08
import Derived.Test.YtngehkmdanhgpaaGreatQ09
import Derived.Test.YtngehkmdanhgpaaGreatQ10
import Derived.Test.YtngehkmdanhgpaaGreatQ11
import Derived.Test.YtngehkmdanhgpaaGreatQ12
import Derived.Test.YtngehkmdanhgpaaGreatQ13
import Derived.Test.YtngehkmdanhgpaaGreatQ14
import Derived.Test.YtngehkmdanhgpaaGreatQ15
import Derived.Test.YtngehkmdanhgpaaGreatQ16
import Derived.Test.YtngehkmdanhgpaaGreatQ17
import Derived.Test.YtngehkmdanhgpaaGreatQ18
import Derived.Test.YtngehkmdanhgpaaGreatQ19
import Derived.Test.YtngehkmdanhgpaaGreatQ20
import Derived.Test.YtngehkmdanhgpaaGreatQ21
import Derived.Test.YtngehkmdanhgpaaGreatQ22
import Derived.Test.YtngehkmdanhgpaaGreatQ23
import Derived.Test.YtngehkmdanhgpaaGreatQ24
import Derived.Test.YtngehkmdanhgpaaGreatQ25
import Derived.Test.YtngehkmdanhgpaaGreatQ26
import Derived.Test.YtngehkmdanhgpaaGreatQ27
import Derived.Test.YtngehkmdanhgpaaGreatQ28
import Derived.Test.YtngehkmdanhgpaaGreatQ29
import Derived.Test.YtngehkmdanhgpaaGreatQ30
import Derived.Test.YtngehkmdanhgpaaGreatQ31
import Derived.Test.YtngehkmdanhgpaaGreatQ32
import Derived.Test.YtngehkmdanhgpaaGreatQ33
import Derived.Test.YtngehkmdanhgpaaGreatQ34
import Derived.Test.YtngehkmdanhgpaaGreatQ35
import Derived.Test.YtngehkmdanhgpaaGreatQ36
namespace Go.Proofs.YtngehkmdanhgpaaGreat.Pl
open Go.RowKit
open Vp (Str B bl Val cmpL parseS showS splitS withinS IsPath)
open Nd (Row wp_world post_Row post_Row2 grownBy_setCell below_of_grown)
open Rf (Fil Fls FO fcells fcells_len)
/-- what write puts -/
def wrQ (x d : ByteArray) (a : Nat) : ByteArray := if (x.extract 0 a ++ d).size < x.size then (x.extract 0 a ++ d) ++ x.extract (x.extract 0 a ++ d).size x.size else x.extract 0 a ++ d
/-- what truncate puts -/
def trQ (x : ByteArray) : Nat → ByteArray
  | 0 => ⟨#[]⟩
  | i + 1 => trQ x i ++ (if i < x.size then x.extract i (i + 1) else ⟨#[0]⟩)
theorem trQ_size (x : ByteArray) : ∀ i, (trQ x i).size = i
  | 0 => rfl
  | i + 1 => by
    have ih := trQ_size x i
    unfold trQ
    rw [ByteArray.size_append, ih]
    split
    · rw [ByteArray.size_extract]; omega
    · rfl
def wrC (es : List Ent) (xs : List Str) (k : Int) (a : Nat) (d : ByteArray) : Int :=
  if (lookR es xs).2 ≠ 0 then (lookR es xs).2
  else if (lookR es xs).1.dir = true then 71
  else if k = 3 then (if (lookR es xs).1.data.size < a then 133 else if 1024 < a + d.size then 134 else 0)
  else 0
def wrQD (es : List Ent) (xs : List Str) (k : Int) (a z : Nat) (d : ByteArray) : ByteArray := if k = 3 then wrQ (lookR es xs).1.data d a else trQ (lookR es xs).1.data z
def WrP (w : World) (r : Nat) (es : List Ent) (xs : List Str) (c : Int) (D : ByteArray) (e : Ending) (w' : World) : Prop := (c ≠ 0 ∧ e = .returned (.agg #[.int .i64 c, .bool false, .int .i64 0, .string ⟨#[]⟩, .slice none 0 0]) ∧ RF w' r es ∧ w.grownBy w' (some r)) ∨ (c = 0 ∧ e = .returned (.agg #[.int .i64 0, .bool false, .int .i64 (D.size : Int), .string ⟨#[]⟩, .slice none 0 0]) ∧ (∃ (i : Nat) (x : Ent), es[i]? = some x ∧ x.names = xs ∧ RF w' r (es.set i ⟨xs, x.dir, D⟩)) ∧ w.grownBy w' (some r))
theorem WrP.no {w w' : World} {r : Nat} {es : List Ent} {xs : List Str} {c k : Int} {D : ByteArray} (h : RF w r es) (hc : c = k) (hk : k ≠ 0) (hb : Below w.heap.size w w') : WrP w r es xs c D (.returned (.agg #[.int .i64 k, .bool false, .int .i64 0, .string ⟨#[]⟩, .slice none 0 0])) w' := by
  subst hc
  exact .inl ⟨hk, rfl, h.below hb, below_but r hb⟩
theorem RF.at9 {w : World} {r : Nat} {es : List Ent} (h : RF w r es) : ∃ p c, Row w r [.slice p es.length c] 43 ∧ FO w 0 (.slice p es.length c) (es.map Ent.fil) := by
  obtain ⟨p, c, b, o, _, _, h1, h2, _⟩ := h.at_
  exact ⟨p, c, h1, h2⟩
theorem fo_some {w : World} {B : Nat} {v : Value} {fs : List Fil} (h : FO w B v fs) (hne : fs ≠ []) : ∃ g l c, v = .slice (some ⟨g, 0, none⟩) l c ∧ B ≤ g := by
  obtain ⟨_, ⟨_, h0⟩ | ⟨g, cap, cur, rfl, hB, _⟩⟩ := h
  · exact absurd (List.length_eq_zero_iff.1 h0) hne
  · exact ⟨g, _, cap, rfl, hB⟩
theorem WrP.yes {w w' : World} {r i : Nat} {es : List Ent} {xs : List Str} {c : Int} {D D' : ByteArray} {x : Ent} (hc : c = 0) (hd : D = D') (hi : es[i]? = some x) (hx : x.names = xs) (h : RF w' r (es.set i ⟨x.names, x.dir, D'⟩)) (hg : w.grownBy w' (some r)) : WrP w r es xs c D (.returned (.agg #[.int .i64 0, .bool false, .int .i64 (D'.size : Int), .string ⟨#[]⟩, .slice none 0 0])) w' := by
  subst hc hd hx
  exact .inr ⟨rfl, rfl, ⟨i, x, hi, rfl, h⟩, hg⟩
theorem gr_self {w W : World} {r : Nat} (h : w.grownBy W (some r)) (j : Nat) (v : Value) : w.grownBy (W.setCell ⟨r, j, none⟩ v) (some r) := by
  have hg := grownBy_setCell W ⟨r, j, none⟩ v
  refine ⟨hg.os.trans h.os, hg.tape.trans h.tape, hg.output.trans h.output, Nat.le_trans h.size hg.size, fun k hk hn => ?_⟩
  rw [hg.block k (Nat.lt_of_lt_of_le hk h.size) hn]
  exact h.block k hk hn
theorem RF.lt9 {w : World} {r : Nat} {es : List Ent} (h : RF w r es) : r < w.heap.size := by
  obtain ⟨v, h1, _⟩ := h.ex
  exact h1.lt
theorem at_some9 {es : List Ent} {xs : List Str} {k : Int} (h : IsAt es xs k) (hn : entAt es xs ≠ none) : ∃ (i : Nat) (x : Ent), k = (i : Int) ∧ es[i]? = some x ∧ x.names = xs := by
  rcases h with ⟨_, h⟩ | ⟨i, x, h1, h2, h3⟩
  · exact absurd h hn
  · exact ⟨i, x, h1, h2, h3⟩
theorem fcells_set1 : ∀ (fs : List Fil) (i : Nat) (f : Fil) (D : ByteArray), fs[i]? = some f → fcells (fs.set i ⟨f.path, f.dir, D⟩) = (fcells fs).set (i * 3 + 2) (.string D)
  | [], i, f, D, h => by simp at h
  | a :: r, 0, f, D, h => by
    simp at h
    subst h
    rfl
  | a :: r, i + 1, f, D, h => by
    have ih := fcells_set1 r i f D (by simpa using h)
    have e1 : fcells ((a :: r).set (i + 1) ⟨f.path, f.dir, D⟩) = a.cells ++ fcells (r.set i ⟨f.path, f.dir, D⟩) := rfl
    have e2 : fcells (a :: r) = a.cells ++ fcells r := rfl
    rw [e1, e2, ih, show (i + 1) * 3 + 2 = a.cells.length + (i * 3 + 2) by simp [Rf.Fil.cells]; omega, List.set_append_right _ _ (by omega)]
    congr 2
    omega
theorem fo_store {W : World} {B g l c : Nat} {es : List Ent} {i : Nat} {x : Ent} (h : FO W B (.slice (some ⟨g, 0, none⟩) l c) (es.map Ent.fil)) (hi : es[i]? = some x) : ∃ vs, Row W g vs 48 ∧ (∃ u, vs[i * 3 + 2]? = some u) ∧ i < l ∧ ∀ W' D, Row W' g (vs.set (i * 3 + 2) (.string D)) 48 → FO W' B (.slice (some ⟨g, 0, none⟩) l c) ((es.set i ⟨x.names, x.dir, D⟩).map Ent.fil) := by
  obtain ⟨h1, ⟨h2, _⟩ | ⟨g', cap', cur, hv, hB, hh, hn, hm, hs, ht⟩⟩ := h
  · cases h2
  · simp only [Value.slice.injEq, Option.some.injEq, Addr.mk.injEq] at hv
    obtain ⟨⟨rfl, -⟩, rfl, rfl⟩ := hv
    have hil : i < es.length := (List.getElem?_eq_some_iff.1 hi).1
    rw [List.length_map] at hn ht
    have hc : es.length * 3 ≤ cur.size := by rw [hs]; exact Nat.mul_le_mul_right 3 hn
    refine ⟨cur.toList, ?_, ⟨_, List.getElem?_eq_getElem (by simp; omega)⟩, by rw [List.length_map]; exact hil, fun W' D hr => ?_⟩
    · unfold Row
      exact hh
    · have e : (es.set i ⟨x.names, x.dir, D⟩).map Ent.fil = (es.map Ent.fil).set i ⟨x.fil.path, x.fil.dir, D⟩ := by rw [List.map_set]; rfl
      rw [e]
      unfold FO
      rw [List.length_set, List.length_map, fcells_set1 _ i x.fil D (by rw [List.getElem?_map, hi]; rfl)]
      refine ⟨?_, .inr ⟨g, c, (cur.toList.set (i * 3 + 2) (.string D)).toArray, rfl, hB, hr, hn, hm, ?_, ?_⟩⟩
      · rw [List.length_set]; have := fcells_len (es.map Ent.fil); rw [List.length_map] at this; exact this
      · simp; exact hs
      · rw [← ht]
        exact (List.take_set ..)
theorem goA_at (es : List Ent) : ∀ (ps : List (List Str)) (s t : Ent) (x : List Str), goA es s (ps ++ [x]) = (t, 0) → entAt es x = some t := goA_last es
theorem look_file {es : List Ent} {xs : List Str} (_hx : Gp xs) : (lookR es xs).2 = 0 → (lookR es xs).1.dir = false → es ≠ [] ∧ entAt es xs ≠ none := by
  intro h1 h2
  have h3 : lookR es xs = ((lookR es xs).1, 0) := Prod.ext rfl h1
  by_cases h0 : xs = []
  · subst h0
    have h5 : lookR es [] = (rootE, 0) := rfl
    rw [h5] at h2
    cases h2
  · obtain ⟨ps, hps⟩ : ∃ ps, (inits xs).drop 1 = ps ++ [xs] := by
      unfold inits
      rw [List.range_succ, List.map_append, List.map_cons, List.map_nil, List.take_length]
      obtain ⟨n, hn⟩ : ∃ n, xs.length = n + 1 := ⟨xs.length - 1, by have := List.length_pos_iff.2 h0; omega⟩
      rw [hn, List.range_succ_eq_map, List.map_cons, List.cons_append, List.drop_succ_cons, List.drop_zero]
      exact ⟨_, rfl⟩
    unfold lookR at h3
    rw [hps] at h3
    have h4 := goA_at es ps rootE _ xs h3
    refine ⟨fun e => ?_, fun e => by rw [e] at h4; cases h4⟩
    rw [e] at h4
    cases h4
set_option maxHeartbeats 8000000 in
set_option maxRecDepth 100000 in
theorem rwrite_any {w : World} {r : Nat} {es : List Ent} (h : RF w r es) (hg : GoodL es) (hnd : (es.map (·.names)).Nodup) (hn : es.length ≤ 100000) (hS : Small es) {nv : Value} {xs : List Str} (hv : Val w nv xs) (hx : Gp xs) (k : Int) (hk : k = 3 ∨ k = 4) (a z : Nat) (ha : a ≤ 1024) (hz : z ≤ 1024) (p t d : ByteArray) (hd : d.size ≤ 1024) :
    Calls Tryz.prog 38 #[.pointer (some ⟨r, 0, none⟩), .agg #[.int .i64 k, .string p, .string t, .string d, .int .i64 (a : Int), .int .i64 (z : Int)], nv] w fun e w' => WrP w r es xs (wrC es xs k a d) (wrQD es xs k a z d) e w' := by
  obtain ⟨np, nc, rfl⟩ : ∃ p c, nv = .slice p xs.length c := by obtain ⟨p, c, e, _⟩ := hv; exact ⟨p, c, e⟩
  obtain ⟨WA, HWA, HRO, HRA, HBA⟩ := op_box w k a z p t d
  have HRU := hid_in h
  have HLK := hid_in (fun W (k : Below w.heap.size w W) => rlook_any (h.below k) hg hnd (hv.below k) hx)
  have HPL := hid_in (fun W (k : Below w.heap.size w W) => rplace_any (h.below k) hg (hv.below k) hx)
  have HNN := hid_in hn
  obtain ⟨C, HC⟩ : ∃ C, Hid (wrC es xs k a d = C) := ⟨_, hid_in rfl⟩
  obtain ⟨D, HD⟩ : ∃ D, Hid (wrQD es xs k a z d = D) := ⟨_, hid_in rfl⟩
  have HC0 : Hid (C = wrC es xs k a d) := hid_in HC.out.symm
  have HD0 : Hid (D = wrQD es xs k a z d) := hid_in HD.out.symm
  unfold wrC at HC0
  unfold wrQD at HD0
  have hsm : (lookR es xs).1.data.size ≤ 1024 := goA_small hS _ rootE (by decide)
  have HFND : Hid ((lookR es xs).2 = 0 → (lookR es xs).1.dir = false → es ≠ [] ∧ entAt es xs ≠ none) := hid_in (look_file hx)
  rw [HC.out, HD.out]
  generalize lookR es xs = L at *
  obtain ⟨⟨sn, sd, sx⟩, k0⟩ := L
  simp only at HC0 HD0 HLK hsm HFND
  generalize xs.length = nl at *
  have hs9 : (sx.size : Int) ≤ 1024 := by omega
  have ha9 : (a : Int) ≤ 1024 := by omega
  have hz9 : (z : Int) ≤ 1024 := by omega
  have hd9 : (d.size : Int) ≤ 1024 := by omega
  clear h hg hnd hn hv hx HC HD hS
  by_cases h0 : k0 = 0
  · subst h0
    rw [if_neg (by simp)] at HC0
    unfold lkV at HLK
    rw [if_pos rfl] at HLK
    simp only at HLK
    generalize B (showS sn) = sp at *
    cases sd with
    | true =>
      have HCO : Hid (C = 71) := hid_in (HC0.out.trans (if_pos rfl))
      clear HC0 HD0 HFND
      go_enter Tryz.func38, Tryz.ntmps38
      go_upto_region 1 with fail
      refine wp_world HWA.out ?_
      go_wp2_with (first | (go_at_call 74; refine (HLK.out _ HBA.out).mono ?_; rintro e w2 ⟨rfl, hb2⟩; have HC2 := hid_in hb2; clear hb2) | (go_at_call 34; refine (rfail_any _ _).mono ?_; rintro e w5 ⟨rfl, hb5⟩; have hc5 := (HC2.out.alloc HC2.out.size _).trans (hb5.mono (HC2.out.alloc HC2.out.size _).size); obtain ⟨⟨g0, g1, g2, g3, g4⟩, q0, q1, q2, q3, q4⟩ := res_cells HRA.out hc5; have HR5 := hid_in (HRA.out.below hc5 HRA.out.lt); have HB5 := hid_in (HBA.out.trans (hc5.mono HBA.out.size)); clear hb5 hc5))
      exact post_Row 6 37 rfl (w.heap.size + 1) rfl 37 [.int .i64 71, .bool false, .int .i64 0, .string ⟨#[]⟩, .slice none 0 0] (((((HR5.out.set_same 0 _).set_same 1 _).set_same 2 _).set_same 3 _).set_same 4 _) _ Tryz.underlying37 rfl 5 info37 rfl rfl (WrP.no HRU.out HCO.out (by decide) (s5_below HB5.out (by omega) _ _ _ _ _))
    | false =>
      rw [if_neg (by simp)] at HC0
      obtain ⟨hne, hat⟩ := HFND.out rfl rfl
      have HNE : Hid (([] : List Fil) ++ es.map Ent.fil ≠ []) := hid_in (by simpa using hne)
      have HAT := hid_in hat
      clear HFND hne hat
      rcases hk with rfl | rfl
      · rw [if_pos rfl] at HC0 HD0
        by_cases h1 : sx.size < a
        · have j1 : (sx.size : Int) < (a : Int) := by omega
          have HCO : Hid (C = 133) := hid_in (HC0.out.trans (if_pos h1))
          clear HC0 HD0 h1
          go_enter Tryz.func38, Tryz.ntmps38
          go_upto_region 1 with fail
          refine wp_world HWA.out ?_
          go_upto_region 8 with (first | (go_at_call 74; refine (HLK.out _ HBA.out).mono ?_; rintro e w2 ⟨rfl, hb2⟩; have HC2 := hid_in hb2; clear hb2))
          obtain ⟨w3, HW3⟩ : ∃ w3, Hid (w2.alloc (.cells #[.string sp, .bool false, .string sx] 48) = w3) := ⟨_, hid_in rfl⟩
          have HC3 : Hid (Below WA.heap.size WA w3) := hid_in (by rw [← HW3.out]; exact HC2.out.alloc HC2.out.size _)
          have HB3 := hid_in (HBA.out.trans (HC3.out.mono HBA.out.size))
          refine wp_world HW3.out ?_
          generalize w2.heap.size = bx
          clear HW3 HC2
          have o0 := (HRO.out.below HC3.out HRO.out.lt).cell 0
          have o3 := (HRO.out.below HC3.out HRO.out.lt).cell 3
          have o4 := (HRO.out.below HC3.out HRO.out.lt).cell 4
          have o5 := (HRO.out.below HC3.out HRO.out.lt).cell 5
          simp only [List.getElem?_cons_succ, List.getElem?_cons_zero] at o0 o3 o4 o5
          go_wp2_with (first | (go_at_call 34; refine (rfail_any _ _).mono ?_; rintro e w5 ⟨rfl, hb5⟩; have hc5 := HC3.out.trans (hb5.mono HC3.out.size); obtain ⟨⟨g0, g1, g2, g3, g4⟩, q0, q1, q2, q3, q4⟩ := res_cells HRA.out hc5; have HR5 := hid_in (HRA.out.below hc5 HRA.out.lt); have HB5 := hid_in (HBA.out.trans (hc5.mono HBA.out.size)); clear hb5 hc5))
          exact post_Row 6 37 rfl (w.heap.size + 1) rfl 37 [.int .i64 133, .bool false, .int .i64 0, .string ⟨#[]⟩, .slice none 0 0] (((((HR5.out.set_same 0 _).set_same 1 _).set_same 2 _).set_same 3 _).set_same 4 _) _ Tryz.underlying37 rfl 5 info37 rfl rfl (WrP.no HRU.out HCO.out (by decide) (s5_below HB5.out (by omega) _ _ _ _ _))
        · have j1 : ¬ (sx.size : Int) < (a : Int) := by omega
          rw [if_neg h1] at HC0
          by_cases h2 : 1024 < a + d.size
          · have j2 : 1024 < (a : Int) + (d.size : Int) := by omega
            have HCO : Hid (C = 134) := hid_in (HC0.out.trans (if_pos h2))
            clear HC0 HD0 h1 h2
            go_enter Tryz.func38, Tryz.ntmps38
            go_upto_region 1 with fail
            refine wp_world HWA.out ?_
            go_upto_region 8 with (first | (go_at_call 74; refine (HLK.out _ HBA.out).mono ?_; rintro e w2 ⟨rfl, hb2⟩; have HC2 := hid_in hb2; clear hb2))
            obtain ⟨w3, HW3⟩ : ∃ w3, Hid (w2.alloc (.cells #[.string sp, .bool false, .string sx] 48) = w3) := ⟨_, hid_in rfl⟩
            have HC3 : Hid (Below WA.heap.size WA w3) := hid_in (by rw [← HW3.out]; exact HC2.out.alloc HC2.out.size _)
            have HB3 := hid_in (HBA.out.trans (HC3.out.mono HBA.out.size))
            refine wp_world HW3.out ?_
            generalize w2.heap.size = bx
            clear HW3 HC2
            have o0 := (HRO.out.below HC3.out HRO.out.lt).cell 0
            have o3 := (HRO.out.below HC3.out HRO.out.lt).cell 3
            have o4 := (HRO.out.below HC3.out HRO.out.lt).cell 4
            have o5 := (HRO.out.below HC3.out HRO.out.lt).cell 5
            simp only [List.getElem?_cons_succ, List.getElem?_cons_zero] at o0 o3 o4 o5
            go_wp2_with (first | (go_at_call 34; refine (rfail_any _ _).mono ?_; rintro e w5 ⟨rfl, hb5⟩; have hc5 := HC3.out.trans (hb5.mono HC3.out.size); obtain ⟨⟨g0, g1, g2, g3, g4⟩, q0, q1, q2, q3, q4⟩ := res_cells HRA.out hc5; have HR5 := hid_in (HRA.out.below hc5 HRA.out.lt); have HB5 := hid_in (HBA.out.trans (hc5.mono HBA.out.size)); clear hb5 hc5))
            exact post_Row 6 37 rfl (w.heap.size + 1) rfl 37 [.int .i64 134, .bool false, .int .i64 0, .string ⟨#[]⟩, .slice none 0 0] (((((HR5.out.set_same 0 _).set_same 1 _).set_same 2 _).set_same 3 _).set_same 4 _) _ Tryz.underlying37 rfl 5 info37 rfl rfl (WrP.no HRU.out HCO.out (by decide) (s5_below HB5.out (by omega) _ _ _ _ _))
          · have j2 : ¬ 1024 < (a : Int) + (d.size : Int) := by omega
            have HCO : Hid (C = 0) := hid_in (HC0.out.trans (if_neg h2))
            clear HC0
            unfold wrQ at HD0
            have hto := str_to sx (a : Int) (by omega) (by omega)
            rw [Int.toNat_natCast] at hto
            have hxs : (sx.extract 0 a).size ≤ 1024 := by rw [ByteArray.size_extract]; omega
            have hadd := str_add (sx.extract 0 a) d (by omega)
            have hys : ((sx.extract 0 a ++ d).size : Int) ≤ 2048 := by rw [ByteArray.size_append]; omega
            generalize sx.extract 0 a = x0 at *
            go_enter Tryz.func38, Tryz.ntmps38
            go_upto_region 1 with fail
            refine wp_world HWA.out ?_
            go_upto_region 8 with (first | (go_at_call 74; refine (HLK.out _ HBA.out).mono ?_; rintro e w2 ⟨rfl, hb2⟩; have HC2 := hid_in hb2; clear hb2))
            obtain ⟨w3, HW3⟩ : ∃ w3, Hid (w2.alloc (.cells #[.string sp, .bool false, .string sx] 48) = w3) := ⟨_, hid_in rfl⟩
            have HC3 : Hid (Below WA.heap.size WA w3) := hid_in (by rw [← HW3.out]; exact HC2.out.alloc HC2.out.size _)
            have HB3 := hid_in (HBA.out.trans (HC3.out.mono HBA.out.size))
            refine wp_world HW3.out ?_
            generalize w2.heap.size = bx
            clear HW3 HC2
            have o0 := (HRO.out.below HC3.out HRO.out.lt).cell 0
            have o3 := (HRO.out.below HC3.out HRO.out.lt).cell 3
            have o4 := (HRO.out.below HC3.out HRO.out.lt).cell 4
            have o5 := (HRO.out.below HC3.out HRO.out.lt).cell 5
            simp only [List.getElem?_cons_succ, List.getElem?_cons_zero] at o0 o3 o4 o5
            go_upto_region 13 with fail
            go_quiet (fail)
            have HC4 := hid_in (Nd.below_drewN HC3.out nq)
            have HB4 := hid_in (Nd.below_drewN HB3.out nq)
            generalize w3.drewN nq = w4 at *
            clear o0 o3 o4 o5 HC3 HB3 h1 h2 hto hadd hxs
            generalize x0 ++ d = y at *
            by_cases h3 : y.size < sx.size
            · have j3 : (y.size : Int) < (sx.size : Int) := by omega
              have hfr := str_from sx (y.size : Int) (by omega) (by omega)
              rw [Int.toNat_natCast] at hfr
              have hes : (sx.extract y.size sx.size).size ≤ 1024 := by rw [ByteArray.size_extract]; omega
              have hadd2 := str_add y (sx.extract y.size sx.size) (by omega)
              rw [if_pos h3] at HD0
              clear h3 hadd2
              go_upto_region 22 with fail
              generalize y ++ sx.extract y.size sx.size = yy at *
              have HBW := hid_in (HBA.out.trans (HC4.out.mono HBA.out.size))
              have HRW := hid_in (HRU.out.below HBW.out)
              obtain ⟨p9, n9, hrow9, hfo9⟩ := HRW.out.at9
              have m9 := hrow9.cell 0
              have m8 := (hrow9.alloc (.cells #[] 48)).cell 0
              simp only [List.getElem?_cons_zero] at m9 m8
              have HA9 : Hid (Below w4.heap.size w4 (w4.alloc (.cells #[] 48))) := hid_in ((Below.refl _ _).alloc (Nat.le_refl _) _)
              have HE9 := hid_in (Rf.own81 w4)
              have HF9 := hid_in ((hfo9.below HA9.out).fls)
              clear hrow9 hfo9
              go_upto_region 23 with (first | (at_builtin; refine Rf.wpList_app81 w4.heap.size rfl (.tmp 82) (.tmp 86) rfl _ [] (es.map Ent.fil) rfl HE9.out _ rfl HF9.out (by have := HNN.out; simp only [List.length_nil, List.length_map]; omega) HA9.out.size ?_; intro v10 w10 ho10 hg10; obtain ⟨ge, l10, c10, rfl, hge⟩ := fo_some ho10 HNE.out; have HO10 := hid_in ho10; have HG10 := hid_in hge; have HB10c := hid_in (HA9.out.grown hg10 HA9.out.size (fun k e => (Nd.own_geK HE9.out k e).1)); clear ho10 hg10 hge; simp only [Act.put, List.setIfInBounds_toArray, List.set_cons_zero, List.set_cons_succ]))
              have HC10 := hid_in (HC4.out.trans (HB10c.out.mono HC4.out.size))
              have HB10 := hid_in (HBA.out.trans (HC10.out.mono HBA.out.size))
              rw [List.nil_append] at HO10
              go_upto_region 24 with (first | (go_at_call 36; refine (HPL.out _ HB10.out).mono ?_; rintro e w11 ⟨kk, rfl, hat, hb11⟩; obtain ⟨ix, x, rfl, hix, hxn⟩ := at_some9 hat HAT.out; obtain ⟨vs, hvr, ⟨u9, hu9⟩, hil, hset⟩ := fo_store (HO10.out.below hb11) hix; have i0 : ¬ (ix : Int) < 0 := (by omega); have i1 : 0 ≤ (ix : Int) := (by omega); have i2 : (ix : Int) < (l10 : Int) := (by omega); have hvc : w11.cell? ⟨ge, ix * 3 + 2, none⟩ = some u9 := (by rw [hvr.cell]; exact hu9); have hvz := hvr.frozen (ix * 3 + 2); have HVR := hid_in hvr; have HSET := hid_in hset; have HIX := hid_in (And.intro hix hxn); have HC11 := hid_in (HC10.out.trans (hb11.mono HC10.out.size)); clear hat hb11 hix hxn hil hset hvr hu9))
              have HB11 := hid_in (HBA.out.trans (HC11.out.mono HBA.out.size))
              have hrl := HRU.out.lt9
              have hgr : r < w4.heap.size := Nat.lt_of_lt_of_le hrl HBW.out.size
              have HGE : Hid (w4.heap.size ≤ ge) := HG10
              have hgn : ge ≠ r := by have := HGE.out; omega
              have hbn : ge ≠ w.heap.size + 1 := by have h1 := HRA.out.lt; have h2 := HC4.out.size; have h3 := HGE.out; omega
              obtain ⟨w12, HW12⟩ : ∃ u, Hid (w11.setCell ⟨ge, ix * 3 + 2, none⟩ (.string yy) = u) := ⟨_, hid_in rfl⟩
              have HFO12 : Hid (FO w12 w4.heap.size (.slice (some ⟨ge, 0, none⟩) l10 c10) ((es.set ix ⟨x.names, x.dir, yy⟩).map Ent.fil)) := hid_in (HSET.out w12 yy (by rw [← HW12.out]; exact HVR.out.set_same _ _))
              have HRR12 : Hid (Row w12 (w.heap.size + 1) [.int .i64 0, .bool false, .int .i64 0, .string ⟨#[]⟩, .slice none 0 0] 37) := hid_in (by rw [← HW12.out]; exact (HRA.out.below HC11.out HRA.out.lt).set_other _ _ (fun e => hbn e.symm))
              obtain ⟨pr, cr, hrow, -⟩ := HRU.out.at9
              have HRW12 : Hid (Row w12 r [.slice pr es.length cr] 43) := hid_in (by rw [← HW12.out]; exact (hrow.below HB11.out hrow.lt).set_other _ _ (fun e => hgn e.symm))
              have HGR12 : Hid (w.grownBy w12 (some r)) := hid_in (by rw [← HW12.out]; exact gr_set (below_but r HB11.out) (Nat.le_trans HBW.out.size HGE.out) _ _)
              have m12 := HRW12.out.cell 0
              have z12 := HRW12.out.frozen 0
              simp only [List.getElem?_cons_zero] at m12
              refine wp_world HW12.out ?_
              clear HW12 hvc hvz m9 m8 hrow
              go_upto_region 25 with fail
              obtain ⟨w13, HW13⟩ : ∃ u, Hid (w12.setCell ⟨r, 0, none⟩ (.slice (some ⟨ge, 0, none⟩) l10 c10) = u) := ⟨_, hid_in rfl⟩
              have HRF13 : Hid (RF w13 r (es.set ix ⟨x.names, x.dir, yy⟩)) := hid_in ⟨_, by rw [← HW13.out]; exact HRW12.out.set_same 0 _, by rw [← HW13.out]; exact Rf.FO.mono (fo_grown HFO12.out (grownBy_setCell _ _ _) hgr) (Nat.zero_le _)⟩
              have HRR13 : Hid (Row w13 (w.heap.size + 1) [.int .i64 0, .bool false, .int .i64 0, .string ⟨#[]⟩, .slice none 0 0] 37) := hid_in (by rw [← HW13.out]; exact HRR12.out.set_other _ _ (by simp; omega))
              have HGR13 : Hid (w.grownBy w13 (some r)) := hid_in (by rw [← HW13.out]; exact gr_self HGR12.out _ _)
              refine wp_world HW13.out ?_
              clear HW13 m12 z12
              obtain ⟨⟨g0, g1, g2, g3, g4⟩, q0, q1, q2, q3, q4⟩ := res_cells HRR13.out (Below.refl _ _)
              go_wp2_with fail
              exact post_Row 6 37 rfl (w.heap.size + 1) rfl 37 [.int .i64 0, .bool false, .int .i64 (yy.size : Int), .string ⟨#[]⟩, .slice none 0 0] (((((HRR13.out.set_same 0 _).set_same 1 _).set_same 2 _).set_same 3 _).set_same 4 _) _ Tryz.underlying37 rfl 5 info37 rfl rfl (WrP.yes HCO.out HD0.out HIX.out.1 HIX.out.2 (HRF13.out.set5 HRR13.out _ _ _ _ _) (gr_set5 HGR13.out (by omega) _ _ _ _ _))
            · have j3 : ¬ (y.size : Int) < (sx.size : Int) := by omega
              rw [if_neg h3] at HD0
              clear h3
              go_upto_region 22 with fail
              have HBW := hid_in (HBA.out.trans (HC4.out.mono HBA.out.size))
              have HRW := hid_in (HRU.out.below HBW.out)
              obtain ⟨p9, n9, hrow9, hfo9⟩ := HRW.out.at9
              have m9 := hrow9.cell 0
              have m8 := (hrow9.alloc (.cells #[] 48)).cell 0
              simp only [List.getElem?_cons_zero] at m9 m8
              have HA9 : Hid (Below w4.heap.size w4 (w4.alloc (.cells #[] 48))) := hid_in ((Below.refl _ _).alloc (Nat.le_refl _) _)
              have HE9 := hid_in (Rf.own81 w4)
              have HF9 := hid_in ((hfo9.below HA9.out).fls)
              clear hrow9 hfo9
              go_upto_region 23 with (first | (at_builtin; refine Rf.wpList_app81 w4.heap.size rfl (.tmp 82) (.tmp 86) rfl _ [] (es.map Ent.fil) rfl HE9.out _ rfl HF9.out (by have := HNN.out; simp only [List.length_nil, List.length_map]; omega) HA9.out.size ?_; intro v10 w10 ho10 hg10; obtain ⟨ge, l10, c10, rfl, hge⟩ := fo_some ho10 HNE.out; have HO10 := hid_in ho10; have HG10 := hid_in hge; have HB10c := hid_in (HA9.out.grown hg10 HA9.out.size (fun k e => (Nd.own_geK HE9.out k e).1)); clear ho10 hg10 hge; simp only [Act.put, List.setIfInBounds_toArray, List.set_cons_zero, List.set_cons_succ]))
              have HC10 := hid_in (HC4.out.trans (HB10c.out.mono HC4.out.size))
              have HB10 := hid_in (HBA.out.trans (HC10.out.mono HBA.out.size))
              rw [List.nil_append] at HO10
              go_upto_region 24 with (first | (go_at_call 36; refine (HPL.out _ HB10.out).mono ?_; rintro e w11 ⟨kk, rfl, hat, hb11⟩; obtain ⟨ix, x, rfl, hix, hxn⟩ := at_some9 hat HAT.out; obtain ⟨vs, hvr, ⟨u9, hu9⟩, hil, hset⟩ := fo_store (HO10.out.below hb11) hix; have i0 : ¬ (ix : Int) < 0 := (by omega); have i1 : 0 ≤ (ix : Int) := (by omega); have i2 : (ix : Int) < (l10 : Int) := (by omega); have hvc : w11.cell? ⟨ge, ix * 3 + 2, none⟩ = some u9 := (by rw [hvr.cell]; exact hu9); have hvz := hvr.frozen (ix * 3 + 2); have HVR := hid_in hvr; have HSET := hid_in hset; have HIX := hid_in (And.intro hix hxn); have HC11 := hid_in (HC10.out.trans (hb11.mono HC10.out.size)); clear hat hb11 hix hxn hil hset hvr hu9))
              have HB11 := hid_in (HBA.out.trans (HC11.out.mono HBA.out.size))
              have hrl := HRU.out.lt9
              have hgr : r < w4.heap.size := Nat.lt_of_lt_of_le hrl HBW.out.size
              have HGE : Hid (w4.heap.size ≤ ge) := HG10
              have hgn : ge ≠ r := by have := HGE.out; omega
              have hbn : ge ≠ w.heap.size + 1 := by have h1 := HRA.out.lt; have h2 := HC4.out.size; have h3 := HGE.out; omega
              obtain ⟨w12, HW12⟩ : ∃ u, Hid (w11.setCell ⟨ge, ix * 3 + 2, none⟩ (.string y) = u) := ⟨_, hid_in rfl⟩
              have HFO12 : Hid (FO w12 w4.heap.size (.slice (some ⟨ge, 0, none⟩) l10 c10) ((es.set ix ⟨x.names, x.dir, y⟩).map Ent.fil)) := hid_in (HSET.out w12 y (by rw [← HW12.out]; exact HVR.out.set_same _ _))
              have HRR12 : Hid (Row w12 (w.heap.size + 1) [.int .i64 0, .bool false, .int .i64 0, .string ⟨#[]⟩, .slice none 0 0] 37) := hid_in (by rw [← HW12.out]; exact (HRA.out.below HC11.out HRA.out.lt).set_other _ _ (fun e => hbn e.symm))
              obtain ⟨pr, cr, hrow, -⟩ := HRU.out.at9
              have HRW12 : Hid (Row w12 r [.slice pr es.length cr] 43) := hid_in (by rw [← HW12.out]; exact (hrow.below HB11.out hrow.lt).set_other _ _ (fun e => hgn e.symm))
              have HGR12 : Hid (w.grownBy w12 (some r)) := hid_in (by rw [← HW12.out]; exact gr_set (below_but r HB11.out) (Nat.le_trans HBW.out.size HGE.out) _ _)
              have m12 := HRW12.out.cell 0
              have z12 := HRW12.out.frozen 0
              simp only [List.getElem?_cons_zero] at m12
              refine wp_world HW12.out ?_
              clear HW12 hvc hvz m9 m8 hrow
              go_upto_region 25 with fail
              obtain ⟨w13, HW13⟩ : ∃ u, Hid (w12.setCell ⟨r, 0, none⟩ (.slice (some ⟨ge, 0, none⟩) l10 c10) = u) := ⟨_, hid_in rfl⟩
              have HRF13 : Hid (RF w13 r (es.set ix ⟨x.names, x.dir, y⟩)) := hid_in ⟨_, by rw [← HW13.out]; exact HRW12.out.set_same 0 _, by rw [← HW13.out]; exact Rf.FO.mono (fo_grown HFO12.out (grownBy_setCell _ _ _) hgr) (Nat.zero_le _)⟩
              have HRR13 : Hid (Row w13 (w.heap.size + 1) [.int .i64 0, .bool false, .int .i64 0, .string ⟨#[]⟩, .slice none 0 0] 37) := hid_in (by rw [← HW13.out]; exact HRR12.out.set_other _ _ (by simp; omega))
              have HGR13 : Hid (w.grownBy w13 (some r)) := hid_in (by rw [← HW13.out]; exact gr_self HGR12.out _ _)
              refine wp_world HW13.out ?_
              clear HW13 m12 z12
              obtain ⟨⟨g0, g1, g2, g3, g4⟩, q0, q1, q2, q3, q4⟩ := res_cells HRR13.out (Below.refl _ _)
              go_wp2_with fail
              exact post_Row 6 37 rfl (w.heap.size + 1) rfl 37 [.int .i64 0, .bool false, .int .i64 (y.size : Int), .string ⟨#[]⟩, .slice none 0 0] (((((HRR13.out.set_same 0 _).set_same 1 _).set_same 2 _).set_same 3 _).set_same 4 _) _ Tryz.underlying37 rfl 5 info37 rfl rfl (WrP.yes HCO.out HD0.out HIX.out.1 HIX.out.2 (HRF13.out.set5 HRR13.out _ _ _ _ _) (gr_set5 HGR13.out (by omega) _ _ _ _ _))
      · rw [if_neg (by decide)] at HC0 HD0
        have HCO : Hid (C = 0) := HC0
        clear HC0
        go_enter Tryz.func38, Tryz.ntmps38
        go_upto_region 1 with fail
        refine wp_world HWA.out ?_
        go_upto_region 8 with (first | (go_at_call 74; refine (HLK.out _ HBA.out).mono ?_; rintro e w2 ⟨rfl, hb2⟩; have HC2 := hid_in hb2; clear hb2))
        obtain ⟨w3, HW3⟩ : ∃ w3, Hid (w2.alloc (.cells #[.string sp, .bool false, .string sx] 48) = w3) := ⟨_, hid_in rfl⟩
        have HC3 : Hid (Below WA.heap.size WA w3) := hid_in (by rw [← HW3.out]; exact HC2.out.alloc HC2.out.size _)
        have HB3 := hid_in (HBA.out.trans (HC3.out.mono HBA.out.size))
        refine wp_world HW3.out ?_
        generalize w2.heap.size = bx
        clear HW3 HC2
        have o0 := (HRO.out.below HC3.out HRO.out.lt).cell 0
        have o3 := (HRO.out.below HC3.out HRO.out.lt).cell 3
        have o4 := (HRO.out.below HC3.out HRO.out.lt).cell 4
        have o5 := (HRO.out.below HC3.out HRO.out.lt).cell 5
        simp only [List.getElem?_cons_succ, List.getElem?_cons_zero] at o0 o3 o4 o5
        clear o3 o4 HLK
        go_wp2_with fail
        go_loopw [10, 11] (fun vd vi W => ∃ i : Nat, i ≤ z ∧ vi = .int .i64 (i : Int) ∧ vd = .string (trQ sx i) ∧ W = w3) (fun _ vi _ => z - (intOf vi).toNat)
        case atStart => exact ⟨0, by omega, rfl, rfl, rfl⟩
        case round =>
          obtain ⟨i, hi, rfl, rfl, rfl⟩ := hrel
          by_cases hlt : i < z
          · have k1 : (i : Int) < (z : Int) := by omega
            have hqs : ((trQ sx i).size : Int) ≤ 1024 := by rw [trQ_size]; omega
            have HQ : Hid (trQ sx (i + 1) = trQ sx i ++ (if i < sx.size then sx.extract i (i + 1) else ⟨#[0]⟩)) := hid_in rfl
            have HLT := hid_in hlt
            by_cases hx2 : i < sx.size
            · have k2 : (i : Int) < (sx.size : Int) := by omega
              have hmid := str_mid sx (i : Int) ((i : Int) + 1) (by omega) (by omega) (by omega)
              have ht1 : ((i : Int) + 1).toNat = i + 1 := by omega
              rw [Int.toNat_natCast, ht1] at hmid
              rw [if_pos hx2] at HQ
              have hes : (sx.extract i (i + 1)).size ≤ 1024 := by rw [ByteArray.size_extract]; omega
              generalize sx.extract i (i + 1) = y1 at *
              generalize trQ sx i = q at *
              clear hx2 hlt hi ht1
              go_wp2_with fail
              exact ⟨⟨i + 1, by have := HLT.out; omega, by go_num, by rw [HQ.out], trivial⟩, by have := HLT.out; simp [intOf]; omega⟩
            · have k2 : ¬ (i : Int) < (sx.size : Int) := by omega
              rw [if_neg hx2] at HQ
              generalize trQ sx i = q at *
              clear hx2 hlt hi
              go_wp2_with fail
              exact ⟨⟨i + 1, by have := HLT.out; omega, by go_num, by rw [HQ.out], trivial⟩, by have := HLT.out; simp [intOf]; omega⟩
          · obtain rfl : i = z := by omega
            have k1 : ¬ (i : Int) < (i : Int) := by omega
            clear hlt hi
            generalize trQ sx i = yy at *
            go_upto_region 22 with fail
            have HBW := hid_in (HBA.out.trans (HC3.out.mono HBA.out.size))
            have HRW := hid_in (HRU.out.below HBW.out)
            obtain ⟨p9, n9, hrow9, hfo9⟩ := HRW.out.at9
            have m9 := hrow9.cell 0
            have m8 := (hrow9.alloc (.cells #[] 48)).cell 0
            simp only [List.getElem?_cons_zero] at m9 m8
            have HA9 : Hid (Below wr.heap.size wr (wr.alloc (.cells #[] 48))) := hid_in ((Below.refl _ _).alloc (Nat.le_refl _) _)
            have HE9 := hid_in (Rf.own81 wr)
            have HF9 := hid_in ((hfo9.below HA9.out).fls)
            clear hrow9 hfo9
            go_upto_region 23 with (first | (at_builtin; refine Rf.wpList_app81 wr.heap.size rfl (.tmp 82) (.tmp 86) rfl _ [] (es.map Ent.fil) rfl HE9.out _ rfl HF9.out (by have := HNN.out; simp only [List.length_nil, List.length_map]; omega) HA9.out.size ?_; intro v10 w10 ho10 hg10; obtain ⟨ge, l10, c10, rfl, hge⟩ := fo_some ho10 HNE.out; have HO10 := hid_in ho10; have HG10 := hid_in hge; have HB10c := hid_in (HA9.out.grown hg10 HA9.out.size (fun k e => (Nd.own_geK HE9.out k e).1)); clear ho10 hg10 hge; simp only [Act.put, List.setIfInBounds_toArray, List.set_cons_zero, List.set_cons_succ]))
            have HC10 := hid_in (HC3.out.trans (HB10c.out.mono HC3.out.size))
            have HB10 := hid_in (HBA.out.trans (HC10.out.mono HBA.out.size))
            rw [List.nil_append] at HO10
            go_upto_region 24 with (first | (go_at_call 36; refine (HPL.out _ HB10.out).mono ?_; rintro e w11 ⟨kk, rfl, hat, hb11⟩; obtain ⟨ix, x, rfl, hix, hxn⟩ := at_some9 hat HAT.out; obtain ⟨vs, hvr, ⟨u9, hu9⟩, hil, hset⟩ := fo_store (HO10.out.below hb11) hix; have i0 : ¬ (ix : Int) < 0 := (by omega); have i1 : 0 ≤ (ix : Int) := (by omega); have i2 : (ix : Int) < (l10 : Int) := (by omega); have hvc : w11.cell? ⟨ge, ix * 3 + 2, none⟩ = some u9 := (by rw [hvr.cell]; exact hu9); have hvz := hvr.frozen (ix * 3 + 2); have HVR := hid_in hvr; have HSET := hid_in hset; have HIX := hid_in (And.intro hix hxn); have HC11 := hid_in (HC10.out.trans (hb11.mono HC10.out.size)); clear hat hb11 hix hxn hil hset hvr hu9))
            have HB11 := hid_in (HBA.out.trans (HC11.out.mono HBA.out.size))
            have hrl := HRU.out.lt9
            have hgr : r < wr.heap.size := Nat.lt_of_lt_of_le hrl HBW.out.size
            have HGE : Hid (wr.heap.size ≤ ge) := HG10
            have hgn : ge ≠ r := by have := HGE.out; omega
            have hbn : ge ≠ w.heap.size + 1 := by have h1 := HRA.out.lt; have h2 := HC3.out.size; have h3 := HGE.out; omega
            obtain ⟨w12, HW12⟩ : ∃ u, Hid (w11.setCell ⟨ge, ix * 3 + 2, none⟩ (.string yy) = u) := ⟨_, hid_in rfl⟩
            have HFO12 : Hid (FO w12 wr.heap.size (.slice (some ⟨ge, 0, none⟩) l10 c10) ((es.set ix ⟨x.names, x.dir, yy⟩).map Ent.fil)) := hid_in (HSET.out w12 yy (by rw [← HW12.out]; exact HVR.out.set_same _ _))
            have HRR12 : Hid (Row w12 (w.heap.size + 1) [.int .i64 0, .bool false, .int .i64 0, .string ⟨#[]⟩, .slice none 0 0] 37) := hid_in (by rw [← HW12.out]; exact (HRA.out.below HC11.out HRA.out.lt).set_other _ _ (fun e => hbn e.symm))
            obtain ⟨pr, cr, hrow, -⟩ := HRU.out.at9
            have HRW12 : Hid (Row w12 r [.slice pr es.length cr] 43) := hid_in (by rw [← HW12.out]; exact (hrow.below HB11.out hrow.lt).set_other _ _ (fun e => hgn e.symm))
            have HGR12 : Hid (w.grownBy w12 (some r)) := hid_in (by rw [← HW12.out]; exact gr_set (below_but r HB11.out) (Nat.le_trans HBW.out.size HGE.out) _ _)
            have m12 := HRW12.out.cell 0
            have z12 := HRW12.out.frozen 0
            simp only [List.getElem?_cons_zero] at m12
            refine wp_world HW12.out ?_
            clear HW12 hvc hvz m9 m8 hrow
            go_upto_region 25 with fail
            obtain ⟨w13, HW13⟩ : ∃ u, Hid (w12.setCell ⟨r, 0, none⟩ (.slice (some ⟨ge, 0, none⟩) l10 c10) = u) := ⟨_, hid_in rfl⟩
            have HRF13 : Hid (RF w13 r (es.set ix ⟨x.names, x.dir, yy⟩)) := hid_in ⟨_, by rw [← HW13.out]; exact HRW12.out.set_same 0 _, by rw [← HW13.out]; exact Rf.FO.mono (fo_grown HFO12.out (grownBy_setCell _ _ _) hgr) (Nat.zero_le _)⟩
            have HRR13 : Hid (Row w13 (w.heap.size + 1) [.int .i64 0, .bool false, .int .i64 0, .string ⟨#[]⟩, .slice none 0 0] 37) := hid_in (by rw [← HW13.out]; exact HRR12.out.set_other _ _ (by simp; omega))
            have HGR13 : Hid (w.grownBy w13 (some r)) := hid_in (by rw [← HW13.out]; exact gr_self HGR12.out _ _)
            refine wp_world HW13.out ?_
            clear HW13 m12 z12
            obtain ⟨⟨g0, g1, g2, g3, g4⟩, q0, q1, q2, q3, q4⟩ := res_cells HRR13.out (Below.refl _ _)
            go_wp2_with fail
            exact post_Row 6 37 rfl (w.heap.size + 1) rfl 37 [.int .i64 0, .bool false, .int .i64 (yy.size : Int), .string ⟨#[]⟩, .slice none 0 0] (((((HRR13.out.set_same 0 _).set_same 1 _).set_same 2 _).set_same 3 _).set_same 4 _) _ Tryz.underlying37 rfl 5 info37 rfl rfl (WrP.yes HCO.out HD0.out HIX.out.1 HIX.out.2 (HRF13.out.set5 HRR13.out _ _ _ _ _) (gr_set5 HGR13.out (by omega) _ _ _ _ _))
  · have hk2 : (k0 != 0) = true := by simpa using h0
    have HCO : Hid (C = k0) := hid_in (HC0.out.trans (if_pos h0))
    unfold lkV at HLK
    rw [if_neg h0] at HLK
    have HKN := hid_in h0
    clear HC0 HD0 h0 hk HFND
    go_enter Tryz.func38, Tryz.ntmps38
    go_upto_region 1 with fail
    refine wp_world HWA.out ?_
    go_wp2_with (first | (go_at_call 74; refine (HLK.out _ HBA.out).mono ?_; rintro e w2 ⟨rfl, hb2⟩; have HC2 := hid_in hb2; clear hb2) | (go_at_call 34; refine (rfail_any _ _).mono ?_; rintro e w5 ⟨rfl, hb5⟩; have hc5 := (HC2.out.alloc HC2.out.size _).trans (hb5.mono (HC2.out.alloc HC2.out.size _).size); obtain ⟨⟨g0, g1, g2, g3, g4⟩, q0, q1, q2, q3, q4⟩ := res_cells HRA.out hc5; have HR5 := hid_in (HRA.out.below hc5 HRA.out.lt); have HB5 := hid_in (HBA.out.trans (hc5.mono HBA.out.size)); clear hb5 hc5))
    exact post_Row 6 37 rfl (w.heap.size + 1) rfl 37 [.int .i64 k0, .bool false, .int .i64 0, .string ⟨#[]⟩, .slice none 0 0] (((((HR5.out.set_same 0 _).set_same 1 _).set_same 2 _).set_same 3 _).set_same 4 _) _ Tryz.underlying37 rfl 5 info37 rfl rfl (WrP.no HRU.out HCO.out HKN.out (s5_below HB5.out (by omega) _ _ _ _ _))
end Go.Proofs.YtngehkmdanhgpaaGreat.Pl
