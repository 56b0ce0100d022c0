/-
  slices.Clone, slices.Grow of none, slices.Concat of two, of entries.
-/
import Derived.Laws.Tables
import Derived.Laws.CopyOwn
import Derived.Deep.RegionLaw
import Derived.Deep.DrawnRows
import Derived.Deep.CutRange
import Derived.Laws.StructEq
import Derived.Lib.SlBytesConst
import Derived.OwnWalk
import Derived.Test.YtjjofjnhhajjjaaA00
import Derived.Test.YtjjofjnhhajjjaaA01
import Derived.Test.YtjjofjnhhajjjaaA02
import Derived.Test.YtjjofjnhhajjjaaA03
import Derived.Test.YtjjofjnhhajjjaaA04
import Derived.Test.YtjjofjnhhajjjaaA05
import Derived.Test.YtjjofjnhhajjjaaA06
import Derived.Test.YtjjofjnhhajjjaaA07
import Derived.Test.YtjjofjnhhajjjaaA08
import Derived.Test.YtjjofjnhhajjjaaA09
import Derived.Test.YtjjofjnhhajjjaaA10
import Derived.Test.YtjjofjnhhajjjaaA11
import Derived.Test.YtjjofjnhhajjjaaA12
namespace Go.Proofs.Ytjjofjnhhajjjaa.Jr
open Go.RowKit
open Nd (Row wp_world post_Row grownBy_setCell below_of_grown u8v Grew Sl hid_in i64r)
theorem eo_empty (w : World) : ∃ W, Hid (w.alloc (.cells #[] 51) = W) ∧ Hid (EO W w.heap.size (.slice (some ⟨w.heap.size, 0, none⟩) 0 0) []) ∧ Hid (Below w.heap.size w W) :=
  ⟨_, rfl, ⟨rfl, .inr ⟨w.heap.size, 0, _, rfl, Nat.le_refl _, (MapKept.heap_alloc w _).1, Nat.le_refl _, by unfold maxLen; omega, rfl, rfl⟩⟩, (Below.refl _ _).alloc (Nat.le_refl _) _⟩
theorem EO.mono {w : World} {B C : Nat} {v : Value} {es : List Ent} (h : EO w C v es) (hB : B ≤ C) : EO w B v es := by
  obtain ⟨h1, h2⟩ := h
  refine ⟨h1, ?_⟩
  rcases h2 with h2 | ⟨g, cap, cur, e, hC, r⟩
  · exact .inl h2
  · exact .inr ⟨g, cap, cur, e, Nat.le_trans hB hC, r⟩
theorem nil28_yes (w : World) : (binOp .eql 28 (.slice none 0 0) (.slice none 0 0)).run Try.prog w = .ok (.bool true) w := by kernel_rfl
theorem nil28_no (ad : Addr) (n c : Nat) (w : World) : (binOp .eql 28 (.slice (some ad) n c) (.slice none 0 0)).run Try.prog w = .ok (.bool false) w := by kernel_rfl
theorem EO.lt {w : World} {B : Nat} {v : Value} {es : List Ent} (h : EO w B v es) : ∀ k, v.ownBlock = some k → B ≤ k ∧ k < w.heap.size := World.ownsRow.lt h
set_option maxHeartbeats 1000000 in
set_option maxRecDepth 100000 in
theorem eclone_any (es : List Ent) (v : Value) (w : World) (hn : es.length ≤ 100000000000) (h : Es w v es) :
    Calls Try.prog 31 #[v] w fun e w' => ∃ v', e = .returned v' ∧ EO w' w.heap.size v' es ∧ Below w.heap.size w w' := by
  obtain ⟨p, cap, rfl, hc1, hc2⟩ := h.form
  rcases p with _ | ad
  · obtain ⟨_, _, _, _, h1, _, _, _, _, h6⟩ := h
    injection h1 with h1 h2 h3
    obtain ⟨rfl, h7⟩ := h6 h1.symm
    subst h3
    subst h7
    clear h1 h2 h6
    simp only [List.length_nil]
    have hn1 := nil28_yes w
    go_enter Try.func31, Try.ntmps31
    go_wp2
    go_ret
    exact ⟨_, rfl, EO.nil _ _, Below.refl _ _⟩
  · obtain ⟨W1, HW1, HN1, HB1⟩ := eo_empty w
    have HE := hid_in (h.below HB1.out)
    have hn1 := nil28_no ad es.length cap w
    have hw := HW1.out
    subst hw
    clear h HW1
    go_enter Try.func31, Try.ntmps31
    go_wp2_with (first | (at_builtin; refine wpList_appE w.heap.size rfl (.tmp 5) (.tmp 6) rfl (.slice (some ⟨w.heap.size, 0, none⟩) 0 0) [] es rfl HN1.out _ rfl HE.out (by simp; omega) HB1.out.size ?_; intro v2 w2 hn2 hg2; have HB2 := hid_in (HB1.out.grown hg2 HB1.out.size (fun k e => (HN1.out.lt k e).1)); have HN2 := hid_in hn2; clear hn2 hg2))
    go_ret
    exact ⟨_, rfl, HN2.out, HB2.out⟩
set_option maxHeartbeats 2000000 in
set_option maxRecDepth 100000 in
theorem egrow_any (n : Nat) (h0 : 0 < n) (hn : n ≤ 100000000000) (w : World) :
    Calls Try.prog 91 #[.slice none 0 0, .int .i64 (n : Int)] w fun e w' => ∃ v, e = .returned v ∧ EO w' w.heap.size v [] ∧ Below w.heap.size w w' := by
  obtain ⟨i, z, hi, hz1, hz2, hz3, hz4⟩ := info51h
  have hrun := Lib.run_append_nil_zeros (P := Try.prog) w 28 3 28 51 i z .i64 .i64 Try.underlying28 Try.underlying3 hi.out hz3.out n h0 (by rw [hz1.out]; decide) (by omega) (by rw [hz2.out]; omega)
  have k1 : ¬ (n : Int) < 0 := by omega
  have k2 : (0 : Int) < (n : Int) := by omega
  have hc1 := grownCap_ge w n 0 51
  have hc2 := grownCap_le_maxLen w n 0 51 (by unfold maxLen; omega)
  obtain ⟨C, HC⟩ : ∃ C, Hid (grownCap w n 0 51 = C) := ⟨_, hid_in rfl⟩
  rw [HC.out] at hrun hc1 hc2
  obtain ⟨W2, HW2⟩ : ∃ W2, Hid (w.drew.alloc (.cells (Builtin.zeroCells z.cells n ++ Builtin.zeroCells z.cells (C - n)) 51) = W2) := ⟨_, hid_in rfl⟩
  have HZS : Hid ((Builtin.zeroCells z.cells n ++ Builtin.zeroCells z.cells (C - n)).size = C * 8) := by
    show _ = _
    have hzc : ∀ k, (Builtin.zeroCells z.cells k).size = k * 8 := fun k => by rw [size_zeroCells, hz4.out]
    rw [Array.size_append, hzc, hzc]; omega
  have HH : Hid (W2.heap[w.heap.size]? = some (.cells (Builtin.zeroCells z.cells n ++ Builtin.zeroCells z.cells (C - n)) 51 (0, 0))) := by
    show _ = _
    rw [← HW2.out]
    exact (MapKept.heap_alloc w.drew _).1
  have HB2 : Hid (Below w.heap.size w W2) := by rw [← HW2.out]; exact ((Below.refl _ _).drew).alloc (Nat.le_refl _) _
  rw [HW2.out] at hrun
  have hsl := slice28_to (some ⟨w.heap.size, 0, none⟩) n C 0 (by omega)
  go_enter Try.func91, Try.ntmps91
  go_wp2_with (first | (at_builtin; refine Lib.wpList_append_run _ rfl _ _ 28 3 rfl _ _ rfl rfl _ _ hrun ?_))
  go_ret
  exact ⟨_, rfl, ⟨rfl, .inr ⟨w.heap.size, C, _, rfl, Nat.le_refl _, HH.out, Nat.zero_le _, hc2, by rw [HZS.out], by simp [ecells]⟩⟩, HB2.out⟩
set_option maxHeartbeats 1000000 in
theorem egrow_zero (w : World) :
    Calls Try.prog 91 #[.slice none 0 0, .int .i64 0] w fun e w' => ∃ v, e = .returned v ∧ EO w' w.heap.size v [] ∧ Below w.heap.size w w' := by
  go_enter Try.func91, Try.ntmps91
  go_wp2
  go_ret
  exact ⟨_, rfl, EO.nil _ _, Below.refl _ _⟩
set_option maxHeartbeats 4000000 in
set_option maxRecDepth 100000 in
theorem econcat_any {w : World} {cb : Nat} {av bv : Value} {xs ys : List Ent} (hr : Row w cb [av, bv] 28) (ha : Es w av xs) (hb : Es w bv ys) (hl : xs.length + ys.length ≤ 100000000000) :
    Calls Try.prog 85 #[.slice (some ⟨cb, 0, none⟩) 2 2] w fun e w' => ∃ v, e = .returned v ∧ EO w' w.heap.size v (xs ++ ys) ∧ Below w.heap.size w w' := by
  have HA := hid_in ha
  have HB := hid_in hb
  obtain ⟨ap, ac, rfl, _, _⟩ := ha.form
  obtain ⟨bp, bc, rfl, _, _⟩ := hb.form
  have c0 : w.cell? ⟨cb, 0, none⟩ = some (.slice ap xs.length ac) := hr.cell 0
  have c1 : w.cell? ⟨cb, 1, none⟩ = some (.slice bp ys.length bc) := hr.cell 1
  have HR := hid_in hr
  obtain ⟨xl, HXL⟩ : ∃ xl, Hid (xs.length = xl) := ⟨_, hid_in rfl⟩
  obtain ⟨yl, HYL⟩ : ∃ yl, Hid (ys.length = yl) := ⟨_, hid_in rfl⟩
  rw [HXL.out] at HA c0 hl HR
  rw [HYL.out] at HB c1 hl HR
  have HGR : Hid (Calls Try.prog 91 #[.slice none 0 0, .int .i64 ((xl + yl : Nat) : Int)] w fun e w' => ∃ v, e = .returned v ∧ EO w' w.heap.size v [] ∧ Below w.heap.size w w') := by
    by_cases h0 : 0 < xl + yl
    · exact egrow_any (xl + yl) h0 (by omega) w
    · obtain h00 : xl + yl = 0 := by omega
      rw [h00]
      exact egrow_zero w
  have hcast : ((xl + yl : Nat) : Int) = (xl : Int) + (yl : Int) := by omega
  rw [hcast] at HGR
  have y1 : (0 : Int) ≤ (xl : Int) := by omega
  have y2 : (0 : Int) ≤ (yl : Int) := by omega
  have y3 : (xl : Int) + (yl : Int) ≤ 100000000000 := by omega
  clear ha hb hr hcast
  go_enter Try.func85, Try.ntmps85
  go_wp2_with fail
  refine wp_loop_rounds 3 ?_
  rw [rounds_succ]
  go_wp2
  rw [rounds_succ]
  go_wp2
  rw [rounds_succ]
  go_wp2_with (first | (go_at_call 91; refine HGR.out.mono ?_; rintro e w1 ⟨v1, rfl, hn1, hb1⟩; have HN1 := hid_in hn1; have HB1 := hid_in hb1; have hr1 := HR.out.below hb1 HR.out.lt; have d0 : w1.cell? ⟨cb, 0, none⟩ = some (.slice ap xl ac) := hr1.cell 0; have d1 : w1.cell? ⟨cb, 1, none⟩ = some (.slice bp yl bc) := hr1.cell 1; have HR1 := hid_in hr1; have HA1 := hid_in (HA.out.below hb1); have HB1' := hid_in (HB.out.below hb1); clear hn1 hb1 hr1))
  refine wp_loop_rounds 3 ?_
  rw [rounds_succ]
  go_upto_region 13 with fail
  go_wp2_with (first | (at_builtin; refine wpList_appE w.heap.size rfl (.tmp 31) (.tmp 32) rfl v1 [] xs rfl HN1.out _ rfl HA1.out (by rw [HXL.out]; show 0 + xl ≤ _; omega) HB1.out.size ?_; intro v2 w2 hn2 hg2; have hb2 := HB1.out.grown hg2 HB1.out.size (fun k e => (HN1.out.lt k e).1); have hr2 := HR.out.below hb2 HR.out.lt; have e1 : w2.cell? ⟨cb, 1, none⟩ = some (.slice bp yl bc) := hr2.cell 1; have HN2 := hid_in hn2; have HB2 := hid_in hb2; have HV2 := hid_in (HB.out.below hb2); clear hn2 hg2 hb2 hr2))
  rw [rounds_succ]
  go_wp2_with (first | (at_builtin; refine wpList_appE w.heap.size rfl (.tmp 31) (.tmp 32) rfl v2 ([] ++ xs) ys rfl HN2.out _ rfl HV2.out (by rw [List.nil_append, HXL.out, HYL.out]; omega) HB2.out.size ?_; intro v3 w3 hn3 hg3; have hb3 := HB2.out.grown hg3 HB2.out.size (fun k e => (HN2.out.lt k e).1); have HN3 := hid_in hn3; have HB3 := hid_in hb3; clear hn3 hg3 hb3))
  rw [rounds_succ]
  go_wp2
  go_ret
  exact ⟨_, rfl, HN3.out, HB3.out⟩
end Go.Proofs.Ytjjofjnhhajjjaa.Jr
