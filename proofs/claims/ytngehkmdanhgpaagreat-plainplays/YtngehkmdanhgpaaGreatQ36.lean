/-
  The reference's ask: read, list and stat.
-/
import Derived.Laws.CopyOwn
import Derived.Deep.RegionLaw
import Derived.Deep.DrawnRows
import Derived.Deep.CutRange
import Derived.Lib.SlBytesConst
import Derived.Lib.AppendZeros
import Derived.Laws.Tables
import Derived.Test.YtngehkmdanhgpaaGreatQ00
import Derived.Test.YtngehkmdanhgpaaGreatQ01
import Derived.Test.YtngehkmdanhgpaaGreatQ02
import Derived.Test.YtngehkmdanhgpaaGreatQ03
import Derived.Test.YtngehkmdanhgpaaGreatQ04
import Derived.Test.YtngehkmdanhgpaaGreatQ05
import Derived.Test.YtngehkmdanhgpaaGreatQ06
import Derived.Test.YtngehkmdanhgpaaGreatQ07
import Derived.Test.YtngehkmdanhgpaaGreatQ08
import Derived.Test.YtngehkmdanhgpaaGreatQ09
import Derived.Test.YtngehkmdanhgpaaGreatQ10
import Derived.Test.YtngehkmdanhgpaaGreatQ11
import Derived.Test.YtngehkmdanhgpaaGreatQ12
import Derived.Test.YtngehkmdanhgpaaGreatQ13
import Derived.Test.YtngehkmdanhgpaaGreatQ14
import Derived.Test.YtngehkmdanhgpaaGreatQ15
import Derived.Test.YtngehkmdanhgpaaGreatQ16
import Derived.Test.YtngehkmdanhgpaaGreatQ17
import Derived.Test.YtngehkmdanhgpaaGreatQ18
import Derived.Test.YtngehkmdanhgpaaGreatQ19
import Derived.Test.YtngehkmdanhgpaaGreatQ20
import Derived.Test.YtngehkmdanhgpaaGreatQ21
import Derived.Test.YtngehkmdanhgpaaGreatQ22
import Derived.Test.YtngehkmdanhgpaaGreatQ23
import Derived.Test.YtngehkmdanhgpaaGreatQ24
import Derived.Test.YtngehkmdanhgpaaGreatQ25
import Derived.Test.YtngehkmdanhgpaaGreatQ26
import Derived.Test.YtngehkmdanhgpaaGreatQ27
import Derived.Test.YtngehkmdanhgpaaGreatQ28
import Derived.Test.YtngehkmdanhgpaaGreatQ29
import Derived.Test.YtngehkmdanhgpaaGreatQ30
import Derived.Test.YtngehkmdanhgpaaGreatQ31
import Derived.Test.YtngehkmdanhgpaaGreatQ32
import Derived.Test.YtngehkmdanhgpaaGreatQ33
import Derived.Test.YtngehkmdanhgpaaGreatQ34
import Derived.Test.YtngehkmdanhgpaaGreatQ35
namespace Go.Proofs.YtngehkmdanhgpaaGreat.Pl
open Go.RowKit
open Vp (Str B bl Val cmpL parseS showS splitS withinS IsPath)
open Nd (Row wp_world post_Row post_Row2 grownBy_setCell below_of_grown)
open Rf (Fil Fls FO fcells)
theorem goA_small {es : List Ent} (h : Small es) : ∀ (ps : List (List Str)) (s : Ent), s.data.size ≤ 1024 → (goA es s ps).1.data.size ≤ 1024
  | [], _, hs => hs
  | p :: ps, s, hs => by
    simp only [goA]
    split
    · decide
    · split
      · decide
      · rename_i t ht
        exact goA_small h ps t (h t (List.mem_of_find?_eq_some ht))
def rdQ (x : ByteArray) (a z : Nat) : ByteArray := if z < (x.extract a x.size).size then (x.extract a x.size).extract 0 z else x.extract a x.size
/-- what is answered to who asks -/
def askR (es : List Ent) (xs : List Str) (k : Int) (a z : Nat) : RA :=
  if (lookR es xs).2 ≠ 0 then RA.err (lookR es xs).2
  else if k = 10 then (if (lookR es xs).1.dir = true then ⟨0, true, (((kidsA es xs).map shownS).length : Int), ⟨#[]⟩, []⟩ else ⟨0, false, ((lookR es xs).1.data.size : Int), ⟨#[]⟩, []⟩)
  else if k = 9 then (if (lookR es xs).1.dir = true then ⟨0, true, (((kidsA es xs).map shownS).length : Int), ⟨#[]⟩, (kidsA es xs).map shownS⟩ else RA.err 70)
  else if (lookR es xs).1.dir = true then RA.err 71
  else if (lookR es xs).1.data.size < a then RA.err 133
  else ⟨0, false, ((lookR es xs).1.data.size : Int), rdQ (lookR es xs).1.data a z, []⟩
def AskP (w : World) (R : RA) (e : Ending) (w' : World) : Prop := ∃ v, e = .returned (.agg #[.int .i64 R.code, .bool R.dir, .int .i64 R.size, .string R.data, v]) ∧ Rf.Nm w' v R.names ∧ Below w.heap.size w w'
theorem AskP.mk {w w' : World} {R : RA} {c s : Int} {d : Bool} {x : ByteArray} {ns : List Str} {v : Value} (hR : R = ⟨c, d, s, x, ns⟩) (hn : Rf.Nm w' v ns) (hb : Below w.heap.size w w') : AskP w R (.returned (.agg #[.int .i64 c, .bool d, .int .i64 s, .string x, v])) w' := by
  subst hR
  exact ⟨v, rfl, hn, hb⟩
theorem nm_s5 {W : World} {b : Nat} {vs : List Value} {v : Value} {xs : List Str} (h : Rf.Nm W v xs) (hr : Row W b vs 37) (v0 v1 v2 v3 v4 : Value) : Rf.Nm (((((W.setCell ⟨b, 0, none⟩ v0).setCell ⟨b, 1, none⟩ v1).setCell ⟨b, 2, none⟩ v2).setCell ⟨b, 3, none⟩ v3).setCell ⟨b, 4, none⟩ v4) v xs := nm_set5 h hr (by decide) v0 v1 v2 v3 v4
set_option maxHeartbeats 4000000 in
set_option maxRecDepth 100000 in
theorem rask_any {w : World} {r : Nat} {es : List Ent} (h : RF w r es) (hg : GoodL es) (hnd : (es.map (·.names)).Nodup) (hn : es.length ≤ 100000) (hS : Small es) {nv : Value} {xs : List Str} (hv : Val w nv xs) (hx : Gp xs) (k : Int) (hk : k = 8 ∨ k = 9 ∨ k = 10) (a z : Nat) (ha : a ≤ 1024) (hz : z ≤ 1024) (p t d : ByteArray) :
    Calls Tryz.prog 41 #[.pointer (some ⟨r, 0, none⟩), .agg #[.int .i64 k, .string p, .string t, .string d, .int .i64 (a : Int), .int .i64 (z : Int)], nv] w fun e w' => AskP w (askR es xs k a z) e w' := by
  obtain ⟨np, nc, rfl⟩ : ∃ p c, nv = .slice p xs.length c := by obtain ⟨p, c, e, _⟩ := hv; exact ⟨p, c, e⟩
  obtain ⟨WA, HWA, HRO, HRA, HBA⟩ := op_box w k a z p t d
  have HLK := hid_in (fun W (k : Below w.heap.size w W) => rlook_any (h.below k) hg hnd (hv.below k) hx)
  have HNM : Hid (∀ W, Below w.heap.size w W → Calls Tryz.prog 77 #[.pointer (some ⟨r, 0, none⟩), .slice np xs.length nc] W fun e w' => ∃ p c, e = .returned (.slice p ((kidsA es xs).map shownS).length c) ∧ Rf.Nm w' (.slice p ((kidsA es xs).map shownS).length c) ((kidsA es xs).map shownS) ∧ Below W.heap.size W w') := hid_in (fun W k => by
    refine (rnm_any (h.below k) hg hn (hv.below k) hx).mono ?_
    rintro e w' ⟨v, rfl, hnm, hb⟩
    obtain ⟨p, c, rfl⟩ := hnm.form
    exact ⟨p, c, rfl, hnm, hb⟩)
  obtain ⟨R, HR⟩ : ∃ R, Hid (askR es xs k a z = R) := ⟨_, hid_in rfl⟩
  have HRR0 : Hid (R = askR es xs k a z) := hid_in HR.out.symm
  unfold askR at HRR0
  have hsm : (lookR es xs).1.data.size ≤ 1024 := goA_small hS _ rootE (by decide)
  rw [HR.out]
  generalize lookR es xs = L at *
  obtain ⟨⟨sn, sd, sx⟩, k0⟩ := L
  simp only at HRR0 HLK hsm
  generalize (kidsA es xs).map shownS = ns at *
  generalize xs.length = nl at *
  generalize hkl : ns.length = kl at *
  have hs9 : (sx.size : Int) ≤ 1024 := by omega
  have ha9 : (a : Int) ≤ 1024 := by omega
  have hz9 : (z : Int) ≤ 1024 := by omega
  clear h hg hnd hn hv hx hkl HR hS
  by_cases h0 : k0 = 0
  · subst h0
    rw [if_neg (by simp)] at HRR0
    unfold lkV at HLK
    rw [if_pos rfl] at HLK
    simp only at HLK
    generalize B (showS sn) = sp at *
    rcases hk with rfl | rfl | rfl
    · rw [if_neg (by decide), if_neg (by decide)] at HRR0
      cases sd with
      | true =>
        have HRR : Hid (R = ⟨71, false, 0, ⟨#[]⟩, []⟩) := hid_in (HRR0.out.trans (if_pos rfl))
        clear HRR0
        go_enter Tryz.func41, Tryz.ntmps41
        go_upto_region 1 with fail
        refine wp_world HWA.out ?_
        go_upto_region 5 with (first | (go_at_call 74; refine (HLK.out _ HBA.out).mono ?_; rintro e w2 ⟨rfl, hb2⟩; have HC2 := hid_in hb2; have HB3c : Hid (Below WA.heap.size WA (w2.alloc (.cells #[.string sp, .bool true, .string sx] 48))) := hid_in (HC2.out.alloc HC2.out.size _); have HB3 := hid_in (HBA.out.trans (HB3c.out.mono HBA.out.size)); clear hb2) | (go_at_call 77; refine (HNM.out _ HB3.out).mono ?_; rintro e w3 ⟨p3, k3, rfl, hn3, hb3⟩; have HN3 := hid_in hn3; have HC3 := hid_in (HB3c.out.trans (hb3.mono HB3c.out.size)); have HX3 := hid_in ((Row.new w2 [.string sp, .bool true, .string sx] 48).below hb3 (Row.new w2 [.string sp, .bool true, .string sx] 48).lt); clear hn3 hb3))
        have x1 := HX3.out.cell 1
        have x2 := HX3.out.cell 2
        simp only [List.getElem?_cons_succ, List.getElem?_cons_zero] at x1 x2
        have o0 := (HRO.out.below HC3.out HRO.out.lt).cell 0
        have o4 := (HRO.out.below HC3.out HRO.out.lt).cell 4
        have o5 := (HRO.out.below HC3.out HRO.out.lt).cell 5
        simp only [List.getElem?_cons_succ, List.getElem?_cons_zero] at o0 o4 o5
        go_wp2_with (first | (go_at_call 34; refine (rfail_any _ _).mono ?_; rintro e w5 ⟨rfl, hb5⟩; have hc5 := HC3.out.trans (hb5.mono HC3.out.size); obtain ⟨⟨g0, g1, g2, g3, g4⟩, q0, q1, q2, q3, q4⟩ := res_cells HRA.out hc5; have HR5 := hid_in (HRA.out.below hc5 HRA.out.lt); have HB5 := hid_in (HBA.out.trans (hc5.mono HBA.out.size)); clear hb5 hc5))
        exact post_Row 6 37 rfl (w.heap.size + 1) rfl 37 [.int .i64 71, .bool false, .int .i64 0, .string ⟨#[]⟩, .slice none 0 0] (((((HR5.out.set_same 0 _).set_same 1 _).set_same 2 _).set_same 3 _).set_same 4 _) _ Tryz.underlying37 rfl 5 info37 rfl rfl (AskP.mk HRR.out (nm_nil _) (s5_below HB5.out (by omega) _ _ _ _ _))
      | false =>
        rw [if_neg (by simp)] at HRR0
        by_cases h1 : sx.size < a
        · have j1 : (sx.size : Int) < (a : Int) := by omega
          have HRR : Hid (R = ⟨133, false, 0, ⟨#[]⟩, []⟩) := hid_in (HRR0.out.trans (if_pos h1))
          clear HRR0 h1
          go_enter Tryz.func41, Tryz.ntmps41
          go_upto_region 1 with fail
          refine wp_world HWA.out ?_
          go_upto_region 5 with (first | (go_at_call 74; refine (HLK.out _ HBA.out).mono ?_; rintro e w2 ⟨rfl, hb2⟩; have HC2 := hid_in hb2; have HB3c : Hid (Below WA.heap.size WA (w2.alloc (.cells #[.string sp, .bool false, .string sx] 48))) := hid_in (HC2.out.alloc HC2.out.size _); have HB3 := hid_in (HBA.out.trans (HB3c.out.mono HBA.out.size)); clear hb2) | (go_at_call 77; refine (HNM.out _ HB3.out).mono ?_; rintro e w3 ⟨p3, k3, rfl, hn3, hb3⟩; have HN3 := hid_in hn3; have HC3 := hid_in (HB3c.out.trans (hb3.mono HB3c.out.size)); have HX3 := hid_in ((Row.new w2 [.string sp, .bool false, .string sx] 48).below hb3 (Row.new w2 [.string sp, .bool false, .string sx] 48).lt); clear hn3 hb3))
          have x1 := HX3.out.cell 1
          have x2 := HX3.out.cell 2
          simp only [List.getElem?_cons_succ, List.getElem?_cons_zero] at x1 x2
          have o0 := (HRO.out.below HC3.out HRO.out.lt).cell 0
          have o4 := (HRO.out.below HC3.out HRO.out.lt).cell 4
          have o5 := (HRO.out.below HC3.out HRO.out.lt).cell 5
          simp only [List.getElem?_cons_succ, List.getElem?_cons_zero] at o0 o4 o5
          go_wp2_with (first | (go_at_call 34; refine (rfail_any _ _).mono ?_; rintro e w5 ⟨rfl, hb5⟩; have hc5 := HC3.out.trans (hb5.mono HC3.out.size); obtain ⟨⟨g0, g1, g2, g3, g4⟩, q0, q1, q2, q3, q4⟩ := res_cells HRA.out hc5; have HR5 := hid_in (HRA.out.below hc5 HRA.out.lt); have HB5 := hid_in (HBA.out.trans (hc5.mono HBA.out.size)); clear hb5 hc5))
          exact post_Row 6 37 rfl (w.heap.size + 1) rfl 37 [.int .i64 133, .bool false, .int .i64 0, .string ⟨#[]⟩, .slice none 0 0] (((((HR5.out.set_same 0 _).set_same 1 _).set_same 2 _).set_same 3 _).set_same 4 _) _ Tryz.underlying37 rfl 5 info37 rfl rfl (AskP.mk HRR.out (nm_nil _) (s5_below HB5.out (by omega) _ _ _ _ _))
        · have j1 : ¬ (sx.size : Int) < (a : Int) := by omega
          rw [if_neg h1] at HRR0
          have hf := str_from sx (a : Int) (by omega) (by omega)
          rw [Int.toNat_natCast] at hf
          unfold rdQ at HRR0
          have hyz : ((sx.extract a sx.size).size : Int) ≤ 1024 := by rw [ByteArray.size_extract]; omega
          generalize sx.extract a sx.size = y at *
          by_cases h2 : z < y.size
          · have j2 : (z : Int) < (y.size : Int) := by omega
            have hto := str_to y (z : Int) (by omega) (by omega)
            rw [Int.toNat_natCast] at hto
            rw [if_pos h2] at HRR0
            have HRR := HRR0
            clear HRR0 h1 h2
            generalize y.extract 0 z = yy at *
            go_enter Tryz.func41, Tryz.ntmps41
            go_upto_region 1 with fail
            refine wp_world HWA.out ?_
            go_upto_region 5 with (first | (go_at_call 74; refine (HLK.out _ HBA.out).mono ?_; rintro e w2 ⟨rfl, hb2⟩; have HC2 := hid_in hb2; have HB3c : Hid (Below WA.heap.size WA (w2.alloc (.cells #[.string sp, .bool false, .string sx] 48))) := hid_in (HC2.out.alloc HC2.out.size _); have HB3 := hid_in (HBA.out.trans (HB3c.out.mono HBA.out.size)); clear hb2) | (go_at_call 77; refine (HNM.out _ HB3.out).mono ?_; rintro e w3 ⟨p3, k3, rfl, hn3, hb3⟩; have HN3 := hid_in hn3; have HC3 := hid_in (HB3c.out.trans (hb3.mono HB3c.out.size)); have HX3 := hid_in ((Row.new w2 [.string sp, .bool false, .string sx] 48).below hb3 (Row.new w2 [.string sp, .bool false, .string sx] 48).lt); clear hn3 hb3))
            have x1 := HX3.out.cell 1
            have x2 := HX3.out.cell 2
            simp only [List.getElem?_cons_succ, List.getElem?_cons_zero] at x1 x2
            have o0 := (HRO.out.below HC3.out HRO.out.lt).cell 0
            have o4 := (HRO.out.below HC3.out HRO.out.lt).cell 4
            have o5 := (HRO.out.below HC3.out HRO.out.lt).cell 5
            simp only [List.getElem?_cons_succ, List.getElem?_cons_zero] at o0 o4 o5
            obtain ⟨⟨g0, g1, g2, g3, g4⟩, q0, q1, q2, q3, q4⟩ := res_cells HRA.out HC3.out
            have HR5 := hid_in (HRA.out.below HC3.out HRA.out.lt)
            have HB5 := hid_in (HBA.out.trans (HC3.out.mono HBA.out.size))
            go_wp2_with fail
            exact post_Row 6 37 rfl (w.heap.size + 1) rfl 37 [.int .i64 0, .bool false, .int .i64 (sx.size : Int), .string yy, .slice none 0 0] (((((HR5.out.set_same 0 _).set_same 1 _).set_same 2 _).set_same 3 _).set_same 4 _) _ Tryz.underlying37 rfl 5 info37 rfl rfl (AskP.mk HRR.out (nm_nil _) (s5_below HB5.out (by omega) _ _ _ _ _))
          · have j2 : ¬ (z : Int) < (y.size : Int) := by omega
            rw [if_neg h2] at HRR0
            have HRR := HRR0
            clear HRR0 h1 h2
            go_enter Tryz.func41, Tryz.ntmps41
            go_upto_region 1 with fail
            refine wp_world HWA.out ?_
            go_upto_region 5 with (first | (go_at_call 74; refine (HLK.out _ HBA.out).mono ?_; rintro e w2 ⟨rfl, hb2⟩; have HC2 := hid_in hb2; have HB3c : Hid (Below WA.heap.size WA (w2.alloc (.cells #[.string sp, .bool false, .string sx] 48))) := hid_in (HC2.out.alloc HC2.out.size _); have HB3 := hid_in (HBA.out.trans (HB3c.out.mono HBA.out.size)); clear hb2) | (go_at_call 77; refine (HNM.out _ HB3.out).mono ?_; rintro e w3 ⟨p3, k3, rfl, hn3, hb3⟩; have HN3 := hid_in hn3; have HC3 := hid_in (HB3c.out.trans (hb3.mono HB3c.out.size)); have HX3 := hid_in ((Row.new w2 [.string sp, .bool false, .string sx] 48).below hb3 (Row.new w2 [.string sp, .bool false, .string sx] 48).lt); clear hn3 hb3))
            have x1 := HX3.out.cell 1
            have x2 := HX3.out.cell 2
            simp only [List.getElem?_cons_succ, List.getElem?_cons_zero] at x1 x2
            have o0 := (HRO.out.below HC3.out HRO.out.lt).cell 0
            have o4 := (HRO.out.below HC3.out HRO.out.lt).cell 4
            have o5 := (HRO.out.below HC3.out HRO.out.lt).cell 5
            simp only [List.getElem?_cons_succ, List.getElem?_cons_zero] at o0 o4 o5
            obtain ⟨⟨g0, g1, g2, g3, g4⟩, q0, q1, q2, q3, q4⟩ := res_cells HRA.out HC3.out
            have HR5 := hid_in (HRA.out.below HC3.out HRA.out.lt)
            have HB5 := hid_in (HBA.out.trans (HC3.out.mono HBA.out.size))
            go_wp2_with fail
            exact post_Row 6 37 rfl (w.heap.size + 1) rfl 37 [.int .i64 0, .bool false, .int .i64 (sx.size : Int), .string y, .slice none 0 0] (((((HR5.out.set_same 0 _).set_same 1 _).set_same 2 _).set_same 3 _).set_same 4 _) _ Tryz.underlying37 rfl 5 info37 rfl rfl (AskP.mk HRR.out (nm_nil _) (s5_below HB5.out (by omega) _ _ _ _ _))
    · rw [if_neg (by decide), if_pos rfl] at HRR0
      cases sd with
      | true =>
        have HRR : Hid (R = ⟨0, true, (kl : Int), ⟨#[]⟩, ns⟩) := hid_in (HRR0.out.trans (if_pos rfl))
        clear HRR0
        go_enter Tryz.func41, Tryz.ntmps41
        go_upto_region 1 with fail
        refine wp_world HWA.out ?_
        go_upto_region 5 with (first | (go_at_call 74; refine (HLK.out _ HBA.out).mono ?_; rintro e w2 ⟨rfl, hb2⟩; have HC2 := hid_in hb2; have HB3c : Hid (Below WA.heap.size WA (w2.alloc (.cells #[.string sp, .bool true, .string sx] 48))) := hid_in (HC2.out.alloc HC2.out.size _); have HB3 := hid_in (HBA.out.trans (HB3c.out.mono HBA.out.size)); clear hb2) | (go_at_call 77; refine (HNM.out _ HB3.out).mono ?_; rintro e w3 ⟨p3, k3, rfl, hn3, hb3⟩; have HN3 := hid_in hn3; have HC3 := hid_in (HB3c.out.trans (hb3.mono HB3c.out.size)); have HX3 := hid_in ((Row.new w2 [.string sp, .bool true, .string sx] 48).below hb3 (Row.new w2 [.string sp, .bool true, .string sx] 48).lt); clear hn3 hb3))
        have x1 := HX3.out.cell 1
        have x2 := HX3.out.cell 2
        simp only [List.getElem?_cons_succ, List.getElem?_cons_zero] at x1 x2
        have o0 := (HRO.out.below HC3.out HRO.out.lt).cell 0
        have o4 := (HRO.out.below HC3.out HRO.out.lt).cell 4
        have o5 := (HRO.out.below HC3.out HRO.out.lt).cell 5
        simp only [List.getElem?_cons_succ, List.getElem?_cons_zero] at o0 o4 o5
        obtain ⟨⟨g0, g1, g2, g3, g4⟩, q0, q1, q2, q3, q4⟩ := res_cells HRA.out HC3.out
        have HR5 := hid_in (HRA.out.below HC3.out HRA.out.lt)
        have HB5 := hid_in (HBA.out.trans (HC3.out.mono HBA.out.size))
        go_wp2_with fail
        exact post_Row 6 37 rfl (w.heap.size + 1) rfl 37 [.int .i64 0, .bool true, .int .i64 (kl : Int), .string ⟨#[]⟩, .slice p3 kl k3] (((((HR5.out.set_same 0 _).set_same 1 _).set_same 2 _).set_same 3 _).set_same 4 _) _ Tryz.underlying37 rfl 5 info37 rfl rfl (AskP.mk HRR.out (nm_s5 HN3.out HR5.out _ _ _ _ _) (s5_below HB5.out (by omega) _ _ _ _ _))
      | false =>
        have HRR : Hid (R = ⟨70, false, 0, ⟨#[]⟩, []⟩) := hid_in (HRR0.out.trans (if_neg (by simp)))
        clear HRR0
        go_enter Tryz.func41, Tryz.ntmps41
        go_upto_region 1 with fail
        refine wp_world HWA.out ?_
        go_upto_region 5 with (first | (go_at_call 74; refine (HLK.out _ HBA.out).mono ?_; rintro e w2 ⟨rfl, hb2⟩; have HC2 := hid_in hb2; have HB3c : Hid (Below WA.heap.size WA (w2.alloc (.cells #[.string sp, .bool false, .string sx] 48))) := hid_in (HC2.out.alloc HC2.out.size _); have HB3 := hid_in (HBA.out.trans (HB3c.out.mono HBA.out.size)); clear hb2) | (go_at_call 77; refine (HNM.out _ HB3.out).mono ?_; rintro e w3 ⟨p3, k3, rfl, hn3, hb3⟩; have HN3 := hid_in hn3; have HC3 := hid_in (HB3c.out.trans (hb3.mono HB3c.out.size)); have HX3 := hid_in ((Row.new w2 [.string sp, .bool false, .string sx] 48).below hb3 (Row.new w2 [.string sp, .bool false, .string sx] 48).lt); clear hn3 hb3))
        have x1 := HX3.out.cell 1
        have x2 := HX3.out.cell 2
        simp only [List.getElem?_cons_succ, List.getElem?_cons_zero] at x1 x2
        have o0 := (HRO.out.below HC3.out HRO.out.lt).cell 0
        have o4 := (HRO.out.below HC3.out HRO.out.lt).cell 4
        have o5 := (HRO.out.below HC3.out HRO.out.lt).cell 5
        simp only [List.getElem?_cons_succ, List.getElem?_cons_zero] at o0 o4 o5
        go_wp2_with (first | (go_at_call 34; refine (rfail_any _ _).mono ?_; rintro e w5 ⟨rfl, hb5⟩; have hc5 := HC3.out.trans (hb5.mono HC3.out.size); obtain ⟨⟨g0, g1, g2, g3, g4⟩, q0, q1, q2, q3, q4⟩ := res_cells HRA.out hc5; have HR5 := hid_in (HRA.out.below hc5 HRA.out.lt); have HB5 := hid_in (HBA.out.trans (hc5.mono HBA.out.size)); clear hb5 hc5))
        exact post_Row 6 37 rfl (w.heap.size + 1) rfl 37 [.int .i64 70, .bool false, .int .i64 0, .string ⟨#[]⟩, .slice none 0 0] (((((HR5.out.set_same 0 _).set_same 1 _).set_same 2 _).set_same 3 _).set_same 4 _) _ Tryz.underlying37 rfl 5 info37 rfl rfl (AskP.mk HRR.out (nm_nil _) (s5_below HB5.out (by omega) _ _ _ _ _))
    · rw [if_pos rfl] at HRR0
      cases sd with
      | true =>
        have HRR : Hid (R = ⟨0, true, (kl : Int), ⟨#[]⟩, []⟩) := hid_in (HRR0.out.trans (if_pos rfl))
        clear HRR0
        go_enter Tryz.func41, Tryz.ntmps41
        go_upto_region 1 with fail
        refine wp_world HWA.out ?_
        go_upto_region 5 with (first | (go_at_call 74; refine (HLK.out _ HBA.out).mono ?_; rintro e w2 ⟨rfl, hb2⟩; have HC2 := hid_in hb2; have HB3c : Hid (Below WA.heap.size WA (w2.alloc (.cells #[.string sp, .bool true, .string sx] 48))) := hid_in (HC2.out.alloc HC2.out.size _); have HB3 := hid_in (HBA.out.trans (HB3c.out.mono HBA.out.size)); clear hb2) | (go_at_call 77; refine (HNM.out _ HB3.out).mono ?_; rintro e w3 ⟨p3, k3, rfl, hn3, hb3⟩; have HN3 := hid_in hn3; have HC3 := hid_in (HB3c.out.trans (hb3.mono HB3c.out.size)); have HX3 := hid_in ((Row.new w2 [.string sp, .bool true, .string sx] 48).below hb3 (Row.new w2 [.string sp, .bool true, .string sx] 48).lt); clear hn3 hb3))
        have x1 := HX3.out.cell 1
        have x2 := HX3.out.cell 2
        simp only [List.getElem?_cons_succ, List.getElem?_cons_zero] at x1 x2
        have o0 := (HRO.out.below HC3.out HRO.out.lt).cell 0
        have o4 := (HRO.out.below HC3.out HRO.out.lt).cell 4
        have o5 := (HRO.out.below HC3.out HRO.out.lt).cell 5
        simp only [List.getElem?_cons_succ, List.getElem?_cons_zero] at o0 o4 o5
        obtain ⟨⟨g0, g1, g2, g3, g4⟩, q0, q1, q2, q3, q4⟩ := res_cells HRA.out HC3.out
        have HR5 := hid_in (HRA.out.below HC3.out HRA.out.lt)
        have HB5 := hid_in (HBA.out.trans (HC3.out.mono HBA.out.size))
        go_wp2_with fail
        exact post_Row 6 37 rfl (w.heap.size + 1) rfl 37 [.int .i64 0, .bool true, .int .i64 (kl : Int), .string ⟨#[]⟩, .slice none 0 0] (((((HR5.out.set_same 0 _).set_same 1 _).set_same 2 _).set_same 3 _).set_same 4 _) _ Tryz.underlying37 rfl 5 info37 rfl rfl (AskP.mk HRR.out (nm_nil _) (s5_below HB5.out (by omega) _ _ _ _ _))
      | false =>
        have HRR : Hid (R = ⟨0, false, (sx.size : Int), ⟨#[]⟩, []⟩) := hid_in (HRR0.out.trans (if_neg (by simp)))
        clear HRR0
        go_enter Tryz.func41, Tryz.ntmps41
        go_upto_region 1 with fail
        refine wp_world HWA.out ?_
        go_upto_region 5 with (first | (go_at_call 74; refine (HLK.out _ HBA.out).mono ?_; rintro e w2 ⟨rfl, hb2⟩; have HC2 := hid_in hb2; have HB3c : Hid (Below WA.heap.size WA (w2.alloc (.cells #[.string sp, .bool false, .string sx] 48))) := hid_in (HC2.out.alloc HC2.out.size _); have HB3 := hid_in (HBA.out.trans (HB3c.out.mono HBA.out.size)); clear hb2) | (go_at_call 77; refine (HNM.out _ HB3.out).mono ?_; rintro e w3 ⟨p3, k3, rfl, hn3, hb3⟩; have HN3 := hid_in hn3; have HC3 := hid_in (HB3c.out.trans (hb3.mono HB3c.out.size)); have HX3 := hid_in ((Row.new w2 [.string sp, .bool false, .string sx] 48).below hb3 (Row.new w2 [.string sp, .bool false, .string sx] 48).lt); clear hn3 hb3))
        have x1 := HX3.out.cell 1
        have x2 := HX3.out.cell 2
        simp only [List.getElem?_cons_succ, List.getElem?_cons_zero] at x1 x2
        have o0 := (HRO.out.below HC3.out HRO.out.lt).cell 0
        have o4 := (HRO.out.below HC3.out HRO.out.lt).cell 4
        have o5 := (HRO.out.below HC3.out HRO.out.lt).cell 5
        simp only [List.getElem?_cons_succ, List.getElem?_cons_zero] at o0 o4 o5
        obtain ⟨⟨g0, g1, g2, g3, g4⟩, q0, q1, q2, q3, q4⟩ := res_cells HRA.out HC3.out
        have HR5 := hid_in (HRA.out.below HC3.out HRA.out.lt)
        have HB5 := hid_in (HBA.out.trans (HC3.out.mono HBA.out.size))
        go_wp2_with fail
        exact post_Row 6 37 rfl (w.heap.size + 1) rfl 37 [.int .i64 0, .bool false, .int .i64 (sx.size : Int), .string ⟨#[]⟩, .slice none 0 0] (((((HR5.out.set_same 0 _).set_same 1 _).set_same 2 _).set_same 3 _).set_same 4 _) _ Tryz.underlying37 rfl 5 info37 rfl rfl (AskP.mk HRR.out (nm_nil _) (s5_below HB5.out (by omega) _ _ _ _ _))
  · have hk2 : (k0 != 0) = true := by simpa using h0
    have HRR : Hid (R = ⟨k0, false, 0, ⟨#[]⟩, []⟩) := hid_in (HRR0.out.trans (if_pos h0))
    unfold lkV at HLK
    rw [if_neg h0] at HLK
    clear HRR0 h0 hk
    go_enter Tryz.func41, Tryz.ntmps41
    go_upto_region 1 with fail
    refine wp_world HWA.out ?_
    go_wp2_with (first | (go_at_call 74; refine (HLK.out _ HBA.out).mono ?_; rintro e w2 ⟨rfl, hb2⟩; have HC2 := hid_in hb2; clear hb2) | (go_at_call 34; refine (rfail_any _ _).mono ?_; rintro e w5 ⟨rfl, hb5⟩; have hc5 := (HC2.out.alloc HC2.out.size _).trans (hb5.mono (HC2.out.alloc HC2.out.size _).size); obtain ⟨⟨g0, g1, g2, g3, g4⟩, q0, q1, q2, q3, q4⟩ := res_cells HRA.out hc5; have HR5 := hid_in (HRA.out.below hc5 HRA.out.lt); have HB5 := hid_in (HBA.out.trans (hc5.mono HBA.out.size)); clear hb5 hc5))
    exact post_Row 6 37 rfl (w.heap.size + 1) rfl 37 [.int .i64 k0, .bool false, .int .i64 0, .string ⟨#[]⟩, .slice none 0 0] (((((HR5.out.set_same 0 _).set_same 1 _).set_same 2 _).set_same 3 _).set_same 4 _) _ Tryz.underlying37 rfl 5 info37 rfl rfl (AskP.mk HRR.out (nm_nil _) (s5_below HB5.out (by omega) _ _ _ _ _))
end Go.Proofs.YtngehkmdanhgpaaGreat.Pl
