/-
  The walk of op.Check. The walk of op.Check: where just the fields are set that the kind names.
-/
import Derived.Deep.RegionHeld3
import Derived.Lib.SlBytesConst
import Derived.Laws.CopyOwn
import Derived.Deep.RegionLaw
import Derived.Deep.DrawnRows
import Derived.Lib.AppendZeros
import Derived.Laws.Tables
import Derived.Test.YtngehkmdanhgpaaGreatQ00
import Derived.Test.YtngehkmdanhgpaaGreatQ01
import Derived.Test.YtngehkmdanhgpaaGreatQ02
import Derived.Test.YtngehkmdanhgpaaGreatQ03
import Derived.Test.YtngehkmdanhgpaaGreatQ04
import Derived.Test.YtngehkmdanhgpaaGreatQ05
import Derived.Test.YtngehkmdanhgpaaGreatQ06
import Derived.Test.YtngehkmdanhgpaaGreatQ07
import Derived.Test.YtngehkmdanhgpaaGreatQ08
import Derived.Test.YtngehkmdanhgpaaGreatQ19
namespace Go.Proofs.YtngehkmdanhgpaaGreat.Nd
open Go.RowKit
theorem neq_yes (o q : Opn) (h : q ≠ o) (w : World) : (binOp .neq 40 (.agg #[.int .i64 o.kind, .string o.path, .string o.dest, .string o.data, .int .i64 o.at_, .int .i64 o.size]) (.agg #[.int .i64 q.kind, .string q.path, .string q.dest, .string q.data, .int .i64 q.at_, .int .i64 q.size])).run Tryz.prog w = .ok (.bool true) w := by
  go_simp
  intro h1 h2 h3 h4 h5 h6
  exact h (by cases o; cases q; simp only [Opn.mk.injEq]; exact ⟨h1.symm, (toL_inj h2).symm, (toL_inj h3).symm, (toL_inj h4).symm, h5.symm, h6.symm⟩)
theorem neq_no (o : Opn) (w : World) : (binOp .neq 40 (.agg #[.int .i64 o.kind, .string o.path, .string o.dest, .string o.data, .int .i64 o.at_, .int .i64 o.size]) (.agg #[.int .i64 o.kind, .string o.path, .string o.dest, .string o.data, .int .i64 o.at_, .int .i64 o.size])).run Tryz.prog w = .ok (.bool false) w := by
  go_simp
theorem kinds_in {k : Int} (h : 1 ≤ k ∧ k ≤ 11) : k = 1 ∨ k = 2 ∨ k = 3 ∨ k = 4 ∨ k = 5 ∨ k = 6 ∨ k = 7 ∨ k = 8 ∨ k = 9 ∨ k = 10 ∨ k = 11 := by omega
theorem named_any (o : Opn) (hk : 1 ≤ o.kind ∧ o.kind ≤ 11) (w : World) : Calls Tryz.prog 60 #[.agg #[.int .i64 o.kind, .string o.path, .string o.dest, .string o.data, .int .i64 o.at_, .int .i64 o.size]] w fun e w' => e = .returned (.agg #[.int .i64 (namedS o).kind, .string (namedS o).path, .string (namedS o).dest, .string (namedS o).data, .int .i64 (namedS o).at_, .int .i64 (namedS o).size]) ∧ Below w.heap.size w w' := by
  obtain ⟨k, p, t, d, a, z⟩ := o
  simp only at hk ⊢
  rcases kinds_in hk with rfl | rfl | rfl | rfl | rfl | rfl | rfl | rfl | rfl | rfl | rfl
  · exact named_1 p t d a z w
  · exact named_2 p t d a z w
  · exact named_3 p t d a z w
  · exact named_4 p t d a z w
  · exact named_5 p t d a z w
  · exact named_6 p t d a z w
  · exact named_7 p t d a z w
  · exact named_8 p t d a z w
  · exact named_9 p t d a z w
  · exact named_10 p t d a z w
  · exact named_11 p t d a z w
theorem word_none {k : Int} (h : ¬ (1 ≤ k ∧ k ≤ 11)) : wordOf k = ⟨#[]⟩ := by
  unfold wordOf
  repeat rw [if_neg (by omega)]
theorem word_some {k : Int} (h : 1 ≤ k ∧ k ≤ 11) : wordOf k ≠ ⟨#[]⟩ := by
  rcases kinds_in h with rfl | rfl | rfl | rfl | rfl | rfl | rfl | rfl | rfl | rfl | rfl <;> decide
instance (k a z : Int) : Decidable (numsOk k a z) := by unfold numsOk; infer_instance
/-- what Check answers -/
def checkS (o : Opn) : Int :=
  if ¬ (1 ≤ o.kind ∧ o.kind ≤ 11) then 100 else if namedS o ≠ o ∨ ¬ numsOk o.kind o.at_ o.size then 1 else
  if 1024 < o.data.size ∨ 1024 < o.at_ ∨ 1024 < o.size then 134 else pathsS o.kind o.path o.dest
set_option maxHeartbeats 2000000 in
set_option maxRecDepth 100000 in
theorem check_kind (o : Opn) (hk : ¬ (1 ≤ o.kind ∧ o.kind ≤ 11)) (w : World) : Calls Tryz.prog 31 #[o.val] w fun e w' => e = .returned (.int .i64 100) ∧ Below w.heap.size w w' := by
  obtain ⟨k, p, t, d, a, z⟩ := o
  simp only [Opn.val] at hk ⊢
  obtain ⟨W0, H0, HR0, HB0, HZ0⟩ := op_row w k a z p t d
  have c0 : W0.cell? ⟨w.heap.size, 0, none⟩ = some (.int .i64 k) := HR0.out.cell 0
  have HW := hid_in (fun W => word_any k W)
  rw [word_none hk] at HW
  go_enter Tryz.func31, Tryz.ntmps31
  go_upto_region 1 with fail
  refine wp_world H0.out ?_
  clear H0
  go_wp2_with (first | (go_at_call 59; refine (HW.out _).mono ?_; rintro e w1 ⟨rfl, rfl⟩))
  go_ret
  exact ⟨rfl, HB0.out⟩
set_option maxHeartbeats 2000000 in
set_option maxRecDepth 100000 in
theorem check_arg (o : Opn) (hk : 1 ≤ o.kind ∧ o.kind ≤ 11) (hn : namedS o ≠ o) (w : World) : Calls Tryz.prog 31 #[o.val] w fun e w' => e = .returned (.int .i64 1) ∧ Below w.heap.size w w' := by
  have HNM := hid_in (fun W => named_any o hk W)
  have hne := neq_yes o (namedS o) hn
  have hws := word_some hk
  obtain ⟨k, p, t, d, a, z⟩ := o
  obtain ⟨⟨k', p', t', d', a', z'⟩, HQ⟩ : ∃ q, Hid (namedS ⟨k, p, t, d, a, z⟩ = q) := ⟨_, rfl⟩
  rw [HQ.out] at HNM hne
  simp only [Opn.val] at hk HNM hne hws ⊢
  obtain ⟨W0, H0, HR0, HB0, HZ0⟩ := op_row w k a z p t d
  have c0 : W0.cell? ⟨w.heap.size, 0, none⟩ = some (.int .i64 k) := HR0.out.cell 0
  have c1 : W0.cell? ⟨w.heap.size, 1, none⟩ = some (.string p) := HR0.out.cell 1
  have c2 : W0.cell? ⟨w.heap.size, 2, none⟩ = some (.string t) := HR0.out.cell 2
  have c3 : W0.cell? ⟨w.heap.size, 3, none⟩ = some (.string d) := HR0.out.cell 3
  have c4 : W0.cell? ⟨w.heap.size, 4, none⟩ = some (.int .i64 a) := HR0.out.cell 4
  have c5 : W0.cell? ⟨w.heap.size, 5, none⟩ = some (.int .i64 z) := HR0.out.cell 5
  obtain ⟨WD, HWD⟩ : ∃ WD, Hid (wordOf k = WD) := ⟨_, rfl⟩
  have HW := hid_in (fun W => word_any k W)
  rw [HWD.out] at HW hws
  have hw1 : WD.toList.isEmpty = false := by
    rw [List.isEmpty_eq_false_iff]; exact fun e => hws (toL_inj (b := ⟨#[]⟩) (e.trans (by rw [Lib.toList_data])))
  clear hws HWD HQ hk hn
  go_enter Tryz.func31, Tryz.ntmps31
  go_upto_region 1 with fail
  refine wp_world H0.out ?_
  clear H0
  go_upto_region 3 with (first | (go_at_call 59; refine (HW.out _).mono ?_; rintro e w1 ⟨rfl, rfl⟩))
  go_region_with (first | (go_at_call 60; refine (HNM.out _).mono ?_; rintro e w6 ⟨rfl, hb6⟩; have HB6 := hid_in (((Below.refl w1.heap.size w1).drew).trans (hb6.mono (by simp))); have hr6 := HR0.out.below HB6.out HR0.out.lt; have d0 : w6.cell? ⟨w.heap.size, 0, none⟩ = some (.int .i64 k) := hr6.cell 0; have d1 : w6.cell? ⟨w.heap.size, 1, none⟩ = some (.string p) := hr6.cell 1; have d2 : w6.cell? ⟨w.heap.size, 2, none⟩ = some (.string t) := hr6.cell 2; have d3 : w6.cell? ⟨w.heap.size, 3, none⟩ = some (.string d) := hr6.cell 3; have d4 : w6.cell? ⟨w.heap.size, 4, none⟩ = some (.int .i64 a) := hr6.cell 4; have d5 : w6.cell? ⟨w.heap.size, 5, none⟩ = some (.int .i64 z) := hr6.cell 5; clear hb6 hr6))
  all_goals
    go_wp2_with fail
    go_ret
    exact ⟨rfl, HB0.out.trans (HB6.out.mono HB0.out.size)⟩
end Go.Proofs.YtngehkmdanhgpaaGreat.Nd
namespace Go.Proofs.YtngehkmdanhgpaaGreat.Nd
open Go.RowKit
theorem Says.isNo {e : Ending} {P : Prop} (h : Says e P) (hp : ¬ P) : e = .returned (.bool false) := by
  rcases h.cases with ⟨_, h2⟩ | ⟨h1, _⟩
  · exact absurd h2 hp
  · exact h1
theorem Says.isYes {e : Ending} {P : Prop} (h : Says e P) (hp : P) : e = .returned (.bool true) := by
  rcases h.cases with ⟨h1, _⟩ | ⟨_, h2⟩
  · exact h1
  · exact absurd hp h2
set_option maxHeartbeats 4000000 in
set_option maxRecDepth 100000 in
theorem check_nums (o : Opn) (hk : 1 ≤ o.kind ∧ o.kind ≤ 11) (hn : namedS o = o) (hno : ¬ numsOk o.kind o.at_ o.size) (w : World) : Calls Tryz.prog 31 #[o.val] w fun e w' => e = .returned (.int .i64 1) ∧ Below w.heap.size w w' := by
  have HNM := hid_in (fun W => named_any o hk W)
  rw [hn] at HNM
  have hne := neq_no o
  have hws := word_some hk
  have HAN := hid_in (fun W => areNumbers_any o.kind o.path o.dest o.data o.at_ o.size W)
  have HNO := hid_in hno
  clear hno
  obtain ⟨k, p, t, d, a, z⟩ := o
  simp only [Opn.val] at *
  obtain ⟨W0, H0, HR0, HB0, HZ0⟩ := op_row w k a z p t d
  have c0 : W0.cell? ⟨w.heap.size, 0, none⟩ = some (.int .i64 k) := HR0.out.cell 0
  have c1 : W0.cell? ⟨w.heap.size, 1, none⟩ = some (.string p) := HR0.out.cell 1
  have c2 : W0.cell? ⟨w.heap.size, 2, none⟩ = some (.string t) := HR0.out.cell 2
  have c3 : W0.cell? ⟨w.heap.size, 3, none⟩ = some (.string d) := HR0.out.cell 3
  have c4 : W0.cell? ⟨w.heap.size, 4, none⟩ = some (.int .i64 a) := HR0.out.cell 4
  have c5 : W0.cell? ⟨w.heap.size, 5, none⟩ = some (.int .i64 z) := HR0.out.cell 5
  obtain ⟨WD, HWD⟩ : ∃ WD, Hid (wordOf k = WD) := ⟨_, rfl⟩
  have HW := hid_in (fun W => word_any k W)
  rw [HWD.out] at HW hws
  have hw1 : WD.toList.isEmpty = false := by
    rw [List.isEmpty_eq_false_iff]; exact fun e => hws (toL_inj (b := ⟨#[]⟩) (e.trans (by rw [Lib.toList_data])))
  clear hws HWD hk hn
  go_enter Tryz.func31, Tryz.ntmps31
  go_upto_region 1 with fail
  refine wp_world H0.out ?_
  clear H0
  go_upto_region 3 with (first | (go_at_call 59; refine (HW.out _).mono ?_; rintro e w1 ⟨rfl, rfl⟩))
  go_region_with (first | (go_at_call 60; refine (HNM.out _).mono ?_; rintro e w6 ⟨rfl, hb6⟩; have HB6 := hid_in (((Below.refl w1.heap.size w1).drew).trans (hb6.mono (by simp))); have hr6 := HR0.out.below HB6.out HR0.out.lt; have d0 : w6.cell? ⟨w.heap.size, 0, none⟩ = some (.int .i64 k) := hr6.cell 0; have d1 : w6.cell? ⟨w.heap.size, 1, none⟩ = some (.string p) := hr6.cell 1; have d2 : w6.cell? ⟨w.heap.size, 2, none⟩ = some (.string t) := hr6.cell 2; have d3 : w6.cell? ⟨w.heap.size, 3, none⟩ = some (.string d) := hr6.cell 3; have d4 : w6.cell? ⟨w.heap.size, 4, none⟩ = some (.int .i64 a) := hr6.cell 4; have d5 : w6.cell? ⟨w.heap.size, 5, none⟩ = some (.int .i64 z) := hr6.cell 5; clear hb6 hr6) | (go_at_call 61; refine (HAN.out _).mono ?_; rintro e w7 ⟨hs, hb7⟩; obtain rfl := hs.isNo HNO.out; have HB7 := hid_in (HB6.out.trans (hb7.mono HB6.out.size)); have hr6 := HR0.out.below HB7.out HR0.out.lt; have f0 : w7.cell? ⟨w.heap.size, 0, none⟩ = some (.int .i64 k) := hr6.cell 0; have f1 : w7.cell? ⟨w.heap.size, 1, none⟩ = some (.string p) := hr6.cell 1; have f2 : w7.cell? ⟨w.heap.size, 2, none⟩ = some (.string t) := hr6.cell 2; have f3 : w7.cell? ⟨w.heap.size, 3, none⟩ = some (.string d) := hr6.cell 3; have f4 : w7.cell? ⟨w.heap.size, 4, none⟩ = some (.int .i64 a) := hr6.cell 4; have f5 : w7.cell? ⟨w.heap.size, 5, none⟩ = some (.int .i64 z) := hr6.cell 5; clear hb7 hr6 hs))
  all_goals
    go_wp2_with fail
    go_ret
    exact ⟨rfl, HB0.out.trans (HB7.out.mono HB0.out.size)⟩
set_option maxHeartbeats 4000000 in
set_option maxRecDepth 100000 in
theorem check_data (o : Opn) (hk : 1 ≤ o.kind ∧ o.kind ≤ 11) (hn : namedS o = o) (hno : numsOk o.kind o.at_ o.size) (hd : 1024 < o.data.size) (w : World) : Calls Tryz.prog 31 #[o.val] w fun e w' => e = .returned (.int .i64 134) ∧ Below w.heap.size w w' := by
  have HNM := hid_in (fun W => named_any o hk W)
  rw [hn] at HNM
  have hne := neq_no o
  have hws := word_some hk
  have HAN := hid_in (fun W => areNumbers_any o.kind o.path o.dest o.data o.at_ o.size W)
  have HNO := hid_in hno
  have k1 : (1024 : Int) < (o.data.size : Int) := by omega
  clear hno hd
  obtain ⟨k, p, t, d, a, z⟩ := o
  simp only [Opn.val] at *
  obtain ⟨W0, H0, HR0, HB0, HZ0⟩ := op_row w k a z p t d
  have c0 : W0.cell? ⟨w.heap.size, 0, none⟩ = some (.int .i64 k) := HR0.out.cell 0
  have c1 : W0.cell? ⟨w.heap.size, 1, none⟩ = some (.string p) := HR0.out.cell 1
  have c2 : W0.cell? ⟨w.heap.size, 2, none⟩ = some (.string t) := HR0.out.cell 2
  have c3 : W0.cell? ⟨w.heap.size, 3, none⟩ = some (.string d) := HR0.out.cell 3
  have c4 : W0.cell? ⟨w.heap.size, 4, none⟩ = some (.int .i64 a) := HR0.out.cell 4
  have c5 : W0.cell? ⟨w.heap.size, 5, none⟩ = some (.int .i64 z) := HR0.out.cell 5
  obtain ⟨WD, HWD⟩ : ∃ WD, Hid (wordOf k = WD) := ⟨_, rfl⟩
  have HW := hid_in (fun W => word_any k W)
  rw [HWD.out] at HW hws
  have hw1 : WD.toList.isEmpty = false := by
    rw [List.isEmpty_eq_false_iff]; exact fun e => hws (toL_inj (b := ⟨#[]⟩) (e.trans (by rw [Lib.toList_data])))
  clear hws HWD hk hn
  go_enter Tryz.func31, Tryz.ntmps31
  go_upto_region 1 with fail
  refine wp_world H0.out ?_
  clear H0
  go_upto_region 3 with (first | (go_at_call 59; refine (HW.out _).mono ?_; rintro e w1 ⟨rfl, rfl⟩))
  go_region_with (first | (go_at_call 60; refine (HNM.out _).mono ?_; rintro e w6 ⟨rfl, hb6⟩; have HB6 := hid_in (((Below.refl w1.heap.size w1).drew).trans (hb6.mono (by simp))); have hr6 := HR0.out.below HB6.out HR0.out.lt; have d0 : w6.cell? ⟨w.heap.size, 0, none⟩ = some (.int .i64 k) := hr6.cell 0; have d1 : w6.cell? ⟨w.heap.size, 1, none⟩ = some (.string p) := hr6.cell 1; have d2 : w6.cell? ⟨w.heap.size, 2, none⟩ = some (.string t) := hr6.cell 2; have d3 : w6.cell? ⟨w.heap.size, 3, none⟩ = some (.string d) := hr6.cell 3; have d4 : w6.cell? ⟨w.heap.size, 4, none⟩ = some (.int .i64 a) := hr6.cell 4; have d5 : w6.cell? ⟨w.heap.size, 5, none⟩ = some (.int .i64 z) := hr6.cell 5; clear hb6 hr6) | (go_at_call 61; refine (HAN.out _).mono ?_; rintro e w7 ⟨hs, hb7⟩; obtain rfl := hs.isYes HNO.out; have HB7 := hid_in (HB6.out.trans (hb7.mono HB6.out.size)); have hr6 := HR0.out.below HB7.out HR0.out.lt; have f0 : w7.cell? ⟨w.heap.size, 0, none⟩ = some (.int .i64 k) := hr6.cell 0; have f1 : w7.cell? ⟨w.heap.size, 1, none⟩ = some (.string p) := hr6.cell 1; have f2 : w7.cell? ⟨w.heap.size, 2, none⟩ = some (.string t) := hr6.cell 2; have f3 : w7.cell? ⟨w.heap.size, 3, none⟩ = some (.string d) := hr6.cell 3; have f4 : w7.cell? ⟨w.heap.size, 4, none⟩ = some (.int .i64 a) := hr6.cell 4; have f5 : w7.cell? ⟨w.heap.size, 5, none⟩ = some (.int .i64 z) := hr6.cell 5; clear hb7 hr6 hs))
  all_goals
    go_wp2_with fail
    go_ret
    exact ⟨rfl, HB0.out.trans (HB7.out.mono HB0.out.size)⟩
set_option maxHeartbeats 4000000 in
set_option maxRecDepth 100000 in
theorem check_at (o : Opn) (hk : 1 ≤ o.kind ∧ o.kind ≤ 11) (hn : namedS o = o) (hno : numsOk o.kind o.at_ o.size) (hd : o.data.size ≤ 1024) (ha : 1024 < o.at_) (w : World) : Calls Tryz.prog 31 #[o.val] w fun e w' => e = .returned (.int .i64 134) ∧ Below w.heap.size w w' := by
  have HNM := hid_in (fun W => named_any o hk W)
  rw [hn] at HNM
  have hne := neq_no o
  have hws := word_some hk
  have HAN := hid_in (fun W => areNumbers_any o.kind o.path o.dest o.data o.at_ o.size W)
  have HNO := hid_in hno
  have k1 : ¬ ((1024 : Int) < (o.data.size : Int)) := by omega
  clear hno hd
  obtain ⟨k, p, t, d, a, z⟩ := o
  simp only [Opn.val] at *
  obtain ⟨W0, H0, HR0, HB0, HZ0⟩ := op_row w k a z p t d
  have c0 : W0.cell? ⟨w.heap.size, 0, none⟩ = some (.int .i64 k) := HR0.out.cell 0
  have c1 : W0.cell? ⟨w.heap.size, 1, none⟩ = some (.string p) := HR0.out.cell 1
  have c2 : W0.cell? ⟨w.heap.size, 2, none⟩ = some (.string t) := HR0.out.cell 2
  have c3 : W0.cell? ⟨w.heap.size, 3, none⟩ = some (.string d) := HR0.out.cell 3
  have c4 : W0.cell? ⟨w.heap.size, 4, none⟩ = some (.int .i64 a) := HR0.out.cell 4
  have c5 : W0.cell? ⟨w.heap.size, 5, none⟩ = some (.int .i64 z) := HR0.out.cell 5
  obtain ⟨WD, HWD⟩ : ∃ WD, Hid (wordOf k = WD) := ⟨_, rfl⟩
  have HW := hid_in (fun W => word_any k W)
  rw [HWD.out] at HW hws
  have hw1 : WD.toList.isEmpty = false := by
    rw [List.isEmpty_eq_false_iff]; exact fun e => hws (toL_inj (b := ⟨#[]⟩) (e.trans (by rw [Lib.toList_data])))
  clear hws HWD hk hn
  go_enter Tryz.func31, Tryz.ntmps31
  go_upto_region 1 with fail
  refine wp_world H0.out ?_
  clear H0
  go_upto_region 3 with (first | (go_at_call 59; refine (HW.out _).mono ?_; rintro e w1 ⟨rfl, rfl⟩))
  go_region_with (first | (go_at_call 60; refine (HNM.out _).mono ?_; rintro e w6 ⟨rfl, hb6⟩; have HB6 := hid_in (((Below.refl w1.heap.size w1).drew).trans (hb6.mono (by simp))); have hr6 := HR0.out.below HB6.out HR0.out.lt; have d0 : w6.cell? ⟨w.heap.size, 0, none⟩ = some (.int .i64 k) := hr6.cell 0; have d1 : w6.cell? ⟨w.heap.size, 1, none⟩ = some (.string p) := hr6.cell 1; have d2 : w6.cell? ⟨w.heap.size, 2, none⟩ = some (.string t) := hr6.cell 2; have d3 : w6.cell? ⟨w.heap.size, 3, none⟩ = some (.string d) := hr6.cell 3; have d4 : w6.cell? ⟨w.heap.size, 4, none⟩ = some (.int .i64 a) := hr6.cell 4; have d5 : w6.cell? ⟨w.heap.size, 5, none⟩ = some (.int .i64 z) := hr6.cell 5; clear hb6 hr6) | (go_at_call 61; refine (HAN.out _).mono ?_; rintro e w7 ⟨hs, hb7⟩; obtain rfl := hs.isYes HNO.out; have HB7 := hid_in (HB6.out.trans (hb7.mono HB6.out.size)); have hr6 := HR0.out.below HB7.out HR0.out.lt; have f0 : w7.cell? ⟨w.heap.size, 0, none⟩ = some (.int .i64 k) := hr6.cell 0; have f1 : w7.cell? ⟨w.heap.size, 1, none⟩ = some (.string p) := hr6.cell 1; have f2 : w7.cell? ⟨w.heap.size, 2, none⟩ = some (.string t) := hr6.cell 2; have f3 : w7.cell? ⟨w.heap.size, 3, none⟩ = some (.string d) := hr6.cell 3; have f4 : w7.cell? ⟨w.heap.size, 4, none⟩ = some (.int .i64 a) := hr6.cell 4; have f5 : w7.cell? ⟨w.heap.size, 5, none⟩ = some (.int .i64 z) := hr6.cell 5; clear hb7 hr6 hs))
  all_goals
    go_wp2_with fail
    go_ret
    exact ⟨rfl, HB0.out.trans (HB7.out.mono HB0.out.size)⟩
set_option maxHeartbeats 4000000 in
set_option maxRecDepth 100000 in
theorem check_size (o : Opn) (hk : 1 ≤ o.kind ∧ o.kind ≤ 11) (hn : namedS o = o) (hno : numsOk o.kind o.at_ o.size) (hd : o.data.size ≤ 1024) (ha : o.at_ ≤ 1024) (hz : 1024 < o.size) (w : World) : Calls Tryz.prog 31 #[o.val] w fun e w' => e = .returned (.int .i64 134) ∧ Below w.heap.size w w' := by
  have HNM := hid_in (fun W => named_any o hk W)
  rw [hn] at HNM
  have hne := neq_no o
  have hws := word_some hk
  have HAN := hid_in (fun W => areNumbers_any o.kind o.path o.dest o.data o.at_ o.size W)
  have HNO := hid_in hno
  have k1 : ¬ ((1024 : Int) < (o.data.size : Int)) := by omega
  have k2 : ¬ (1024 < o.at_) := by omega
  clear hno hd ha
  obtain ⟨k, p, t, d, a, z⟩ := o
  simp only [Opn.val] at *
  obtain ⟨W0, H0, HR0, HB0, HZ0⟩ := op_row w k a z p t d
  have c0 : W0.cell? ⟨w.heap.size, 0, none⟩ = some (.int .i64 k) := HR0.out.cell 0
  have c1 : W0.cell? ⟨w.heap.size, 1, none⟩ = some (.string p) := HR0.out.cell 1
  have c2 : W0.cell? ⟨w.heap.size, 2, none⟩ = some (.string t) := HR0.out.cell 2
  have c3 : W0.cell? ⟨w.heap.size, 3, none⟩ = some (.string d) := HR0.out.cell 3
  have c4 : W0.cell? ⟨w.heap.size, 4, none⟩ = some (.int .i64 a) := HR0.out.cell 4
  have c5 : W0.cell? ⟨w.heap.size, 5, none⟩ = some (.int .i64 z) := HR0.out.cell 5
  obtain ⟨WD, HWD⟩ : ∃ WD, Hid (wordOf k = WD) := ⟨_, rfl⟩
  have HW := hid_in (fun W => word_any k W)
  rw [HWD.out] at HW hws
  have hw1 : WD.toList.isEmpty = false := by
    rw [List.isEmpty_eq_false_iff]; exact fun e => hws (toL_inj (b := ⟨#[]⟩) (e.trans (by rw [Lib.toList_data])))
  clear hws HWD hk hn
  go_enter Tryz.func31, Tryz.ntmps31
  go_upto_region 1 with fail
  refine wp_world H0.out ?_
  clear H0
  go_upto_region 3 with (first | (go_at_call 59; refine (HW.out _).mono ?_; rintro e w1 ⟨rfl, rfl⟩))
  go_region_with (first | (go_at_call 60; refine (HNM.out _).mono ?_; rintro e w6 ⟨rfl, hb6⟩; have HB6 := hid_in (((Below.refl w1.heap.size w1).drew).trans (hb6.mono (by simp))); have hr6 := HR0.out.below HB6.out HR0.out.lt; have d0 : w6.cell? ⟨w.heap.size, 0, none⟩ = some (.int .i64 k) := hr6.cell 0; have d1 : w6.cell? ⟨w.heap.size, 1, none⟩ = some (.string p) := hr6.cell 1; have d2 : w6.cell? ⟨w.heap.size, 2, none⟩ = some (.string t) := hr6.cell 2; have d3 : w6.cell? ⟨w.heap.size, 3, none⟩ = some (.string d) := hr6.cell 3; have d4 : w6.cell? ⟨w.heap.size, 4, none⟩ = some (.int .i64 a) := hr6.cell 4; have d5 : w6.cell? ⟨w.heap.size, 5, none⟩ = some (.int .i64 z) := hr6.cell 5; clear hb6 hr6) | (go_at_call 61; refine (HAN.out _).mono ?_; rintro e w7 ⟨hs, hb7⟩; obtain rfl := hs.isYes HNO.out; have HB7 := hid_in (HB6.out.trans (hb7.mono HB6.out.size)); have hr6 := HR0.out.below HB7.out HR0.out.lt; have f0 : w7.cell? ⟨w.heap.size, 0, none⟩ = some (.int .i64 k) := hr6.cell 0; have f1 : w7.cell? ⟨w.heap.size, 1, none⟩ = some (.string p) := hr6.cell 1; have f2 : w7.cell? ⟨w.heap.size, 2, none⟩ = some (.string t) := hr6.cell 2; have f3 : w7.cell? ⟨w.heap.size, 3, none⟩ = some (.string d) := hr6.cell 3; have f4 : w7.cell? ⟨w.heap.size, 4, none⟩ = some (.int .i64 a) := hr6.cell 4; have f5 : w7.cell? ⟨w.heap.size, 5, none⟩ = some (.int .i64 z) := hr6.cell 5; clear hb7 hr6 hs))
  all_goals
    go_wp2_with fail
    go_ret
    exact ⟨rfl, HB0.out.trans (HB7.out.mono HB0.out.size)⟩
set_option maxHeartbeats 4000000 in
set_option maxRecDepth 100000 in
theorem check_paths (o : Opn) (hk : 1 ≤ o.kind ∧ o.kind ≤ 11) (hn : namedS o = o) (hno : numsOk o.kind o.at_ o.size) (hd : o.data.size ≤ 1024) (ha : o.at_ ≤ 1024) (hz : o.size ≤ 1024) (hp : o.path.size ≤ 9223372036854775807) (ht : o.dest.size ≤ 9223372036854775807) (w : World) : Calls Tryz.prog 31 #[o.val] w fun e w' => e = .returned (.int .i64 (pathsS o.kind o.path o.dest)) ∧ Below w.heap.size w w' := by
  have HNM := hid_in (fun W => named_any o hk W)
  rw [hn] at HNM
  have hne := neq_no o
  have hws := word_some hk
  have HAN := hid_in (fun W => areNumbers_any o.kind o.path o.dest o.data o.at_ o.size W)
  have HNO := hid_in hno
  have HCP := hid_in (fun W => checkPaths_any o.kind o.path o.dest o.data o.at_ o.size W hp ht)
  obtain ⟨pe, HPE⟩ : ∃ pe, Hid (pathsS o.kind o.path o.dest = pe) := ⟨_, rfl⟩
  rw [HPE.out] at HCP ⊢
  have k1 : ¬ ((1024 : Int) < (o.data.size : Int)) := by omega
  have k2 : ¬ (1024 < o.at_) := by omega
  have k3 : ¬ (1024 < o.size) := by omega
  clear hno hd ha hz hp ht HPE
  obtain ⟨k, p, t, d, a, z⟩ := o
  simp only [Opn.val] at *
  obtain ⟨W0, H0, HR0, HB0, HZ0⟩ := op_row w k a z p t d
  have c0 : W0.cell? ⟨w.heap.size, 0, none⟩ = some (.int .i64 k) := HR0.out.cell 0
  have c1 : W0.cell? ⟨w.heap.size, 1, none⟩ = some (.string p) := HR0.out.cell 1
  have c2 : W0.cell? ⟨w.heap.size, 2, none⟩ = some (.string t) := HR0.out.cell 2
  have c3 : W0.cell? ⟨w.heap.size, 3, none⟩ = some (.string d) := HR0.out.cell 3
  have c4 : W0.cell? ⟨w.heap.size, 4, none⟩ = some (.int .i64 a) := HR0.out.cell 4
  have c5 : W0.cell? ⟨w.heap.size, 5, none⟩ = some (.int .i64 z) := HR0.out.cell 5
  obtain ⟨WD, HWD⟩ : ∃ WD, Hid (wordOf k = WD) := ⟨_, rfl⟩
  have HW := hid_in (fun W => word_any k W)
  rw [HWD.out] at HW hws
  have hw1 : WD.toList.isEmpty = false := by
    rw [List.isEmpty_eq_false_iff]; exact fun e => hws (toL_inj (b := ⟨#[]⟩) (e.trans (by rw [Lib.toList_data])))
  clear hws HWD hk hn
  go_enter Tryz.func31, Tryz.ntmps31
  go_upto_region 1 with fail
  refine wp_world H0.out ?_
  clear H0
  go_upto_region 3 with (first | (go_at_call 59; refine (HW.out _).mono ?_; rintro e w1 ⟨rfl, rfl⟩))
  go_region_with (first | (go_at_call 60; refine (HNM.out _).mono ?_; rintro e w6 ⟨rfl, hb6⟩; have HB6 := hid_in (((Below.refl w1.heap.size w1).drew).trans (hb6.mono (by simp))); have hr6 := HR0.out.below HB6.out HR0.out.lt; have d0 : w6.cell? ⟨w.heap.size, 0, none⟩ = some (.int .i64 k) := hr6.cell 0; have d1 : w6.cell? ⟨w.heap.size, 1, none⟩ = some (.string p) := hr6.cell 1; have d2 : w6.cell? ⟨w.heap.size, 2, none⟩ = some (.string t) := hr6.cell 2; have d3 : w6.cell? ⟨w.heap.size, 3, none⟩ = some (.string d) := hr6.cell 3; have d4 : w6.cell? ⟨w.heap.size, 4, none⟩ = some (.int .i64 a) := hr6.cell 4; have d5 : w6.cell? ⟨w.heap.size, 5, none⟩ = some (.int .i64 z) := hr6.cell 5; clear hb6 hr6) | (go_at_call 61; refine (HAN.out _).mono ?_; rintro e w7 ⟨hs, hb7⟩; obtain rfl := hs.isYes HNO.out; have HB7 := hid_in (HB6.out.trans (hb7.mono HB6.out.size)); have hr6 := HR0.out.below HB7.out HR0.out.lt; have f0 : w7.cell? ⟨w.heap.size, 0, none⟩ = some (.int .i64 k) := hr6.cell 0; have f1 : w7.cell? ⟨w.heap.size, 1, none⟩ = some (.string p) := hr6.cell 1; have f2 : w7.cell? ⟨w.heap.size, 2, none⟩ = some (.string t) := hr6.cell 2; have f3 : w7.cell? ⟨w.heap.size, 3, none⟩ = some (.string d) := hr6.cell 3; have f4 : w7.cell? ⟨w.heap.size, 4, none⟩ = some (.int .i64 a) := hr6.cell 4; have f5 : w7.cell? ⟨w.heap.size, 5, none⟩ = some (.int .i64 z) := hr6.cell 5; clear hb7 hr6 hs))
  all_goals
    go_wp2_with (first | (go_at_call 62; refine (HCP.out _).mono ?_; rintro e w8 ⟨rfl, hb8⟩; have HB8 := hid_in (HB7.out.trans (hb8.mono HB7.out.size)); clear hb8))
    go_ret
    exact ⟨rfl, HB0.out.trans (HB8.out.mono HB0.out.size)⟩
theorem check_any (o : Opn) (hp : o.path.size ≤ 9223372036854775807) (ht : o.dest.size ≤ 9223372036854775807) (w : World) : Calls Tryz.prog 31 #[o.val] w fun e w' => e = .returned (.int .i64 (checkS o)) ∧ Below w.heap.size w w' := by
  unfold checkS
  split
  · exact check_kind o (by assumption) w
  · rename_i hk
    have hk := Decidable.not_not.1 hk
    split
    · rename_i h
      by_cases hn : namedS o = o
      · exact check_nums o hk hn (by rcases h with h | h; exact absurd hn h; exact h) w
      · exact check_arg o hk hn w
    · rename_i h
      have hn : namedS o = o := Decidable.not_not.1 fun e => h (.inl e)
      have hno : numsOk o.kind o.at_ o.size := Decidable.not_not.1 fun e => h (.inr e)
      split
      · rename_i hb
        by_cases h1 : 1024 < o.data.size
        · exact check_data o hk hn hno h1 w
        · by_cases h2 : 1024 < o.at_
          · exact check_at o hk hn hno (by omega) h2 w
          · exact check_size o hk hn hno (by omega) (by omega) (by omega) w
      · rename_i hb
        exact check_paths o hk hn hno (by omega) (by omega) (by omega) hp ht w
end Go.Proofs.YtngehkmdanhgpaaGreat.Nd
