/-
  slices.Grow of none, slices.Concat of two paths.
-/
import Derived.Lib.AppendZeros
import Derived.Deep.RegionLaw
import Derived.Deep.DrawnRows
import Derived.Laws.Tables
import Derived.Laws.CopyOwn
import Derived.Lib.SlBytesConst
import Derived.Test.YtngehkmdanhgpaaGreatR00
import Derived.Test.YtngehkmdanhgpaaGreatR01
import Derived.Test.YtngehkmdanhgpaaGreatR02
import Derived.Test.YtngehkmdanhgpaaGreatR03
import Derived.Test.YtngehkmdanhgpaaGreatR04
import Derived.Test.YtngehkmdanhgpaaGreatR05
import Derived.Test.YtngehkmdanhgpaaGreatR06
import Derived.Test.YtngehkmdanhgpaaGreatR07
import Derived.Test.YtngehkmdanhgpaaGreatR08
import Derived.Test.YtngehkmdanhgpaaGreatR09
import Derived.Test.YtngehkmdanhgpaaGreatR10
import Derived.Test.YtngehkmdanhgpaaGreatR11
import Derived.Test.YtngehkmdanhgpaaGreatR12
import Derived.Test.YtngehkmdanhgpaaGreatR13
import Derived.Test.YtngehkmdanhgpaaGreatR14
import Derived.Test.YtngehkmdanhgpaaGreatR15
import Derived.Test.YtngehkmdanhgpaaGreatR16
import Derived.Test.YtngehkmdanhgpaaGreatR17
import Derived.Test.YtngehkmdanhgpaaGreatR18
import Derived.Test.YtngehkmdanhgpaaGreatR19
import Derived.Test.YtngehkmdanhgpaaGreatR20
import Derived.Test.YtngehkmdanhgpaaGreatR21
import Derived.Test.YtngehkmdanhgpaaGreatR22
import Derived.Test.YtngehkmdanhgpaaGreatR23
import Derived.Test.YtngehkmdanhgpaaGreatR24
import Derived.Test.YtngehkmdanhgpaaGreatR25
import Derived.Test.YtngehkmdanhgpaaGreatR26
import Derived.Test.YtngehkmdanhgpaaGreatR27
import Derived.Test.YtngehkmdanhgpaaGreatR28
import Derived.Test.YtngehkmdanhgpaaGreatR29
namespace Go.Proofs.YtngehkmdanhgpaaGreat.Pl
open Go.RowKit
open Vp (Str B bl Val cmpL parseS showS splitS withinS IsPath sv)
open Nd (Row wp_world post_Row post_Row2 grownBy_setCell below_of_grown)
theorem info9h : ∃ i z, Hid (Tryz.prog.info? 9 = some i) ∧ Hid (i.size = 1) ∧ Hid (i.bytes = 16) ∧ Hid (i.zero = some z) ∧ Hid (z.cells.size = 1) := by
  have h : (Tryz.prog.info? 9).map (fun i => (i.size, i.bytes, i.zero.map (·.cells.size))) = some (1, 16, some 1) := by kernel_rfl
  cases hi : Tryz.prog.info? 9 with
  | none => rw [hi] at h; cases h
  | some i =>
    rw [hi] at h
    simp only [Option.map_some, Option.some.injEq, Prod.mk.injEq] at h
    obtain ⟨h1, h2, h3⟩ := h
    cases hz : i.zero with
    | none => rw [hz] at h3; cases h3
    | some z => rw [hz] at h3; exact ⟨i, z, rfl, h1, h2, hz, Option.some.inj h3⟩
/-- names put behind a row of the call's own -/
theorem wpList_appN {ops : Array Oper} {rest : List Oper} {o : Oper} {a : Act} {w : World} {Q : Exit → Act → World → Prop} (B : Nat) (hgd : o.guard = none) (s x : Operand) (ho : o.op = .call { callee := .builtin .append, args := #[s, x], argTypes := #[35, 35] })
    (v : Value) (xs ys : List Str) (hs : a.eval s = v) (hown : Vp.Nms w B v xs) (u : Value) (hx : a.eval x = u) (hu : Val w u ys) (hlen : xs.length + ys.length ≤ 1000000) (hB : B ≤ w.heap.size)
    (h : ∀ v' w', Vp.Nms w' B v' (xs ++ ys) → w.grownBy w' v.ownBlock → wpList Tryz.prog ops Q rest (a.put o.dst v') w') : wpList Tryz.prog ops Q (o :: rest) a w := by
  obtain ⟨p, cap, rfl, hr⟩ := hu
  obtain ⟨i, z, hi, hz1, hz2, hz3, hz4⟩ := info9h
  rcases p with _ | ad
  · obtain ⟨rfl, rfl⟩ := hr.nil rfl
    refine wpList_append_own_none hgd s x 35 ho B 9 i 1 Tryz.underlying35 hi.out v xs.length (xs.map sv) hs hown hx ?_
    exact h v w (by simpa using hown) ⟨rfl, rfl, rfl, Nat.le_refl _, fun _ _ _ => rfl⟩
  · obtain ⟨b, off, h1, h2⟩ := hr.cells
    refine wpList_append_own w hgd s x 35 ho B 9 i z 1 16 Tryz.underlying35 hi.out hz3.out hz1.out hz2.out hz4.out (by decide) v xs.length (xs.map sv) hs hown ad ys.length cap (ys.map sv) hx (by simp) (fun j u hj => ?_) (fun u hu => by obtain ⟨y, _, rfl⟩ := List.mem_map.1 hu; rfl) (by unfold maxLen; omega) (by omega) hB ?_
    · have hne : ys ≠ [] := by rintro rfl; simp at hj
      obtain rfl := Option.some.inj (h1 hne).1
      rw [Addr.add_mid]
      rw [List.getElem?_map] at hj
      cases hy : ys[j]? with
      | none => rw [hy] at hj; cases hj
      | some y =>
        rw [hy] at hj
        obtain rfl := Option.some.inj hj
        exact h2 j y hy
    · intro v' w' h6 h7 _
      refine h v' w' ?_ h7
      unfold Vp.Nms
      rw [List.length_append, List.map_append]
      exact h6
set_option maxHeartbeats 2000000 in
set_option maxRecDepth 100000 in
theorem grow_any (n : Nat) (h0 : 0 < n) (hn : n ≤ 1000) (w : World) :
    Calls Tryz.prog 141 #[.slice none 0 0, .int .i64 (n : Int)] w fun e w' => ∃ v, e = .returned v ∧ Vp.Nms w' w.heap.size v [] ∧ Below w.heap.size w w' := by
  obtain ⟨i, z, hi, hz1, hz2, hz3, hz4⟩ := info9h
  have hrun := Lib.run_append_nil_zeros (P := Tryz.prog) w 35 3 35 9 i z .i64 .i64 Tryz.underlying35 Tryz.underlying3 hi.out hz3.out n h0 (by rw [hz1.out]; decide) (by omega) (by rw [hz2.out]; omega)
  have k1 : ¬ (n : Int) < 0 := by omega
  have k2 : (0 : Int) < (n : Int) := by omega
  have hc1 := grownCap_ge w n 0 9
  have hc2 := grownCap_le_maxLen w n 0 9 (by unfold maxLen; omega)
  obtain ⟨C, HC⟩ : ∃ C, Hid (grownCap w n 0 9 = C) := ⟨_, hid_in rfl⟩
  rw [HC.out] at hrun hc1 hc2
  obtain ⟨W2, HW2⟩ : ∃ W2, Hid (w.drew.alloc (.cells (Builtin.zeroCells z.cells n ++ Builtin.zeroCells z.cells (C - n)) 9) = W2) := ⟨_, hid_in rfl⟩
  have HZS : Hid ((Builtin.zeroCells z.cells n ++ Builtin.zeroCells z.cells (C - n)).size = C) := by
    show _ = _
    have hzc : ∀ k, (Builtin.zeroCells z.cells k).size = k := fun k => by rw [size_zeroCells, hz4.out]; omega
    rw [Array.size_append, hzc, hzc]; omega
  have HH : Hid (W2.heap[w.heap.size]? = some (.cells (Builtin.zeroCells z.cells n ++ Builtin.zeroCells z.cells (C - n)) 9 (0, 0))) := by
    show _ = _
    rw [← HW2.out]
    exact (MapKept.heap_alloc w.drew _).1
  have HB2 : Hid (Below w.heap.size w W2) := by rw [← HW2.out]; exact (below_drew w).alloc (Nat.le_refl _) _
  rw [HW2.out] at hrun
  have hsl := slice35_to (some ⟨w.heap.size, 0, none⟩) n C 0 (by omega)
  go_enter Tryz.func141, Tryz.ntmps141
  go_wp2_with (first | (at_builtin; refine Lib.wpList_append_run _ rfl _ _ 35 3 rfl _ _ rfl rfl _ _ hrun ?_))
  go_ret
  exact ⟨_, rfl, ⟨rfl, .inr ⟨w.heap.size, C, _, rfl, Nat.le_refl _, HH.out, Nat.zero_le _, hc2, by rw [HZS.out]; omega, by simp⟩⟩, HB2.out⟩
set_option maxHeartbeats 4000000 in
set_option maxRecDepth 100000 in
theorem concat_any {w : World} {cb : Nat} {av bv : Value} {xs ys : List Str} (hr : Row w cb [av, bv] 35) (ha : Val w av xs) (hb : Val w bv ys) (hx : 0 < xs.length) (hl : xs.length + ys.length ≤ 100) :
    Calls Tryz.prog 127 #[.slice (some ⟨cb, 0, none⟩) 2 2] w fun e w' => ∃ v, e = .returned v ∧ Vp.Nms w' w.heap.size v (xs ++ ys) ∧ Below w.heap.size w w' := by
  have HA := hid_in ha
  have HB := hid_in hb
  obtain ⟨ap, ac, rfl⟩ : ∃ a c, av = .slice a xs.length c := by obtain ⟨a, c, e, _⟩ := ha; exact ⟨a, c, e⟩
  obtain ⟨bp, bc, rfl⟩ : ∃ a c, bv = .slice a ys.length c := by obtain ⟨a, c, e, _⟩ := hb; exact ⟨a, c, e⟩
  have c0 : w.cell? ⟨cb, 0, none⟩ = some (.slice ap xs.length ac) := hr.cell 0
  have c1 : w.cell? ⟨cb, 1, none⟩ = some (.slice bp ys.length bc) := hr.cell 1
  have HR := hid_in hr
  obtain ⟨xl, HXL⟩ : ∃ xl, Hid (xs.length = xl) := ⟨_, hid_in rfl⟩
  obtain ⟨yl, HYL⟩ : ∃ yl, Hid (ys.length = yl) := ⟨_, hid_in rfl⟩
  rw [HXL.out] at HA c0 hx hl HR
  rw [HYL.out] at HB c1 hl HR
  have HGR := hid_in (grow_any (xl + yl) (by omega) (by omega) w)
  have hcast : ((xl + yl : Nat) : Int) = (xl : Int) + (yl : Int) := by omega
  rw [hcast] at HGR
  clear ha hb hr hcast
  go_enter Tryz.func127, Tryz.ntmps127
  go_wp2_with fail
  refine wp_loop_rounds 3 ?_
  rw [rounds_succ]
  go_wp2
  rw [rounds_succ]
  go_wp2
  rw [rounds_succ]
  go_wp2_with (first | (go_at_call 141; refine HGR.out.mono ?_; rintro e w1 ⟨v1, rfl, hn1, hb1⟩; have HN1 := hid_in hn1; have HB1 := hid_in hb1; have hr1 := HR.out.below hb1 HR.out.lt; have d0 : w1.cell? ⟨cb, 0, none⟩ = some (.slice ap xl ac) := hr1.cell 0; have d1 : w1.cell? ⟨cb, 1, none⟩ = some (.slice bp yl bc) := hr1.cell 1; have HR1 := hid_in hr1; have HA1 := hid_in (HA.out.below hb1); have HB1' := hid_in (HB.out.below hb1); clear hn1 hb1 hr1))
  refine wp_loop_rounds 3 ?_
  rw [rounds_succ]
  go_wp2_with (first | (at_builtin; refine wpList_appN w.heap.size rfl (.tmp 31) (.tmp 32) rfl v1 [] xs rfl HN1.out _ rfl HA1.out (by rw [HXL.out]; simp; omega) HB1.out.size ?_; intro v2 w2 hn2 hg2; have hb2 := HB1.out.grown hg2 HB1.out.size (fun k e => (HN1.out.row_ge k e).1); have hr2 := HR.out.below hb2 HR.out.lt; have e1 : w2.cell? ⟨cb, 1, none⟩ = some (.slice bp yl bc) := hr2.cell 1; have HN2 := hid_in hn2; have HB2 := hid_in hb2; have HV2 := hid_in (HB.out.below hb2); clear hn2 hg2 hb2 hr2))
  rw [rounds_succ]
  go_wp2_with (first | (at_builtin; refine wpList_appN w.heap.size rfl (.tmp 31) (.tmp 32) rfl v2 ([] ++ xs) ys rfl HN2.out _ rfl HV2.out (by rw [List.nil_append, HXL.out, HYL.out]; omega) HB2.out.size ?_; intro v3 w3 hn3 hg3; have hb3 := HB2.out.grown hg3 HB2.out.size (fun k e => (HN2.out.row_ge k e).1); have HN3 := hid_in hn3; have HB3 := hid_in hb3; clear hn3 hg3 hb3))
  rw [rounds_succ]
  go_wp2
  go_ret
  exact ⟨_, rfl, HN3.out, HB3.out⟩
end Go.Proofs.YtngehkmdanhgpaaGreat.Pl
