/-
  The walk of op.Check: where just the fields are set that the kind names. The walks of deed and Do. The library's contract of strings.Repeat, laid at this program. The walk of truncate. Do of create, write, truncate, read, rmdir.
-/
import Derived.Lib.AppendZeros
import Derived.Deep.DrawnRows
import Derived.Laws.Tables
import Derived.Lib.SlBytesConst
import Derived.Deep.RegionLaw
import Derived.Laws.CopyOwn
import Derived.Shelf.Strings.Repeat
import Derived.Test.YtngehkmdanhgpaaGreatRows
import Derived.Test.YtngehkmdanhgpaaGreatR00
import Derived.Test.YtngehkmdanhgpaaGreatR01
import Derived.Test.YtngehkmdanhgpaaGreatR02
import Derived.Test.YtngehkmdanhgpaaGreatR03
import Derived.Test.YtngehkmdanhgpaaGreatR04
import Derived.Test.YtngehkmdanhgpaaGreatR05
import Derived.Test.YtngehkmdanhgpaaGreatR06
namespace Go.Proofs.YtngehkmdanhgpaaGreat.Nd
open Go.RowKit
theorem Says.isNo {e : Ending} {P : Prop} (h : Says e P) (hp : ¬ P) : e = .returned (.bool false) := by
  rcases h.cases with ⟨_, h2⟩ | ⟨h1, _⟩
  · exact absurd h2 hp
  · exact h1
theorem Says.isYes {e : Ending} {P : Prop} (h : Says e P) (hp : P) : e = .returned (.bool true) := by
  rcases h.cases with ⟨h1, _⟩ | ⟨_, h2⟩
  · exact h1
  · exact absurd hp h2
set_option maxHeartbeats 4000000 in
set_option maxRecDepth 100000 in
theorem check_nums (o : Opn) (hk : 1 ≤ o.kind ∧ o.kind ≤ 11) (hn : namedS o = o) (hno : ¬ numsOk o.kind o.at_ o.size) (w : World) : Calls Tryz.prog 31 #[o.val] w fun e w' => e = .returned (.int .i64 1) ∧ Below w.heap.size w w' := by
  have HNM := hid_in (fun W => named_any o hk W)
  rw [hn] at HNM
  have hne := neq_no o
  have hws := word_some hk
  have HAN := hid_in (fun W => areNumbers_any o.kind o.path o.dest o.data o.at_ o.size W)
  have HNO := hid_in hno
  clear hno
  obtain ⟨k, p, t, d, a, z⟩ := o
  simp only [Opn.val] at *
  obtain ⟨W0, H0, HR0, HB0, HZ0⟩ := op_row w k a z p t d
  have c0 : W0.cell? ⟨w.heap.size, 0, none⟩ = some (.int .i64 k) := HR0.out.cell 0
  have c1 : W0.cell? ⟨w.heap.size, 1, none⟩ = some (.string p) := HR0.out.cell 1
  have c2 : W0.cell? ⟨w.heap.size, 2, none⟩ = some (.string t) := HR0.out.cell 2
  have c3 : W0.cell? ⟨w.heap.size, 3, none⟩ = some (.string d) := HR0.out.cell 3
  have c4 : W0.cell? ⟨w.heap.size, 4, none⟩ = some (.int .i64 a) := HR0.out.cell 4
  have c5 : W0.cell? ⟨w.heap.size, 5, none⟩ = some (.int .i64 z) := HR0.out.cell 5
  obtain ⟨WD, HWD⟩ : ∃ WD, Hid (wordOf k = WD) := ⟨_, rfl⟩
  have HW := hid_in (fun W => word_any k W)
  rw [HWD.out] at HW hws
  have hw1 : WD.toList.isEmpty = false := by
    rw [List.isEmpty_eq_false_iff]; exact fun e => hws (toL_inj (b := ⟨#[]⟩) (e.trans (by rw [Lib.toList_data])))
  clear hws HWD hk hn
  go_enter Tryz.func31, Tryz.ntmps31
  go_upto_region 1 with fail
  refine wp_world H0.out ?_
  clear H0
  go_upto_region 3 with (first | (go_at_call 59; refine (HW.out _).mono ?_; rintro e w1 ⟨rfl, rfl⟩))
  go_region_with (first | (go_at_call 60; refine (HNM.out _).mono ?_; rintro e w6 ⟨rfl, hb6⟩; have HB6 := hid_in (((Below.refl w1.heap.size w1).drew).trans (hb6.mono (by simp))); have hr6 := HR0.out.below HB6.out HR0.out.lt; have d0 : w6.cell? ⟨w.heap.size, 0, none⟩ = some (.int .i64 k) := hr6.cell 0; have d1 : w6.cell? ⟨w.heap.size, 1, none⟩ = some (.string p) := hr6.cell 1; have d2 : w6.cell? ⟨w.heap.size, 2, none⟩ = some (.string t) := hr6.cell 2; have d3 : w6.cell? ⟨w.heap.size, 3, none⟩ = some (.string d) := hr6.cell 3; have d4 : w6.cell? ⟨w.heap.size, 4, none⟩ = some (.int .i64 a) := hr6.cell 4; have d5 : w6.cell? ⟨w.heap.size, 5, none⟩ = some (.int .i64 z) := hr6.cell 5; clear hb6 hr6) | (go_at_call 61; refine (HAN.out _).mono ?_; rintro e w7 ⟨hs, hb7⟩; obtain rfl := hs.isNo HNO.out; have HB7 := hid_in (HB6.out.trans (hb7.mono HB6.out.size)); have hr6 := HR0.out.below HB7.out HR0.out.lt; have f0 : w7.cell? ⟨w.heap.size, 0, none⟩ = some (.int .i64 k) := hr6.cell 0; have f1 : w7.cell? ⟨w.heap.size, 1, none⟩ = some (.string p) := hr6.cell 1; have f2 : w7.cell? ⟨w.heap.size, 2, none⟩ = some (.string t) := hr6.cell 2; have f3 : w7.cell? ⟨w.heap.size, 3, none⟩ = some (.string d) := hr6.cell 3; have f4 : w7.cell? ⟨w.heap.size, 4, none⟩ = some (.int .i64 a) := hr6.cell 4; have f5 : w7.cell? ⟨w.heap.size, 5, none⟩ = some (.int .i64 z) := hr6.cell 5; clear hb7 hr6 hs))
  all_goals
    go_wp2_with fail
    go_ret
    exact ⟨rfl, HB0.out.trans (HB7.out.mono HB0.out.size)⟩
set_option maxHeartbeats 4000000 in
set_option maxRecDepth 100000 in
theorem check_data (o : Opn) (hk : 1 ≤ o.kind ∧ o.kind ≤ 11) (hn : namedS o = o) (hno : numsOk o.kind o.at_ o.size) (hd : 1024 < o.data.size) (w : World) : Calls Tryz.prog 31 #[o.val] w fun e w' => e = .returned (.int .i64 134) ∧ Below w.heap.size w w' := by
  have HNM := hid_in (fun W => named_any o hk W)
  rw [hn] at HNM
  have hne := neq_no o
  have hws := word_some hk
  have HAN := hid_in (fun W => areNumbers_any o.kind o.path o.dest o.data o.at_ o.size W)
  have HNO := hid_in hno
  have k1 : (1024 : Int) < (o.data.size : Int) := by omega
  clear hno hd
  obtain ⟨k, p, t, d, a, z⟩ := o
  simp only [Opn.val] at *
  obtain ⟨W0, H0, HR0, HB0, HZ0⟩ := op_row w k a z p t d
  have c0 : W0.cell? ⟨w.heap.size, 0, none⟩ = some (.int .i64 k) := HR0.out.cell 0
  have c1 : W0.cell? ⟨w.heap.size, 1, none⟩ = some (.string p) := HR0.out.cell 1
  have c2 : W0.cell? ⟨w.heap.size, 2, none⟩ = some (.string t) := HR0.out.cell 2
  have c3 : W0.cell? ⟨w.heap.size, 3, none⟩ = some (.string d) := HR0.out.cell 3
  have c4 : W0.cell? ⟨w.heap.size, 4, none⟩ = some (.int .i64 a) := HR0.out.cell 4
  have c5 : W0.cell? ⟨w.heap.size, 5, none⟩ = some (.int .i64 z) := HR0.out.cell 5
  obtain ⟨WD, HWD⟩ : ∃ WD, Hid (wordOf k = WD) := ⟨_, rfl⟩
  have HW := hid_in (fun W => word_any k W)
  rw [HWD.out] at HW hws
  have hw1 : WD.toList.isEmpty = false := by
    rw [List.isEmpty_eq_false_iff]; exact fun e => hws (toL_inj (b := ⟨#[]⟩) (e.trans (by rw [Lib.toList_data])))
  clear hws HWD hk hn
  go_enter Tryz.func31, Tryz.ntmps31
  go_upto_region 1 with fail
  refine wp_world H0.out ?_
  clear H0
  go_upto_region 3 with (first | (go_at_call 59; refine (HW.out _).mono ?_; rintro e w1 ⟨rfl, rfl⟩))
  go_region_with (first | (go_at_call 60; refine (HNM.out _).mono ?_; rintro e w6 ⟨rfl, hb6⟩; have HB6 := hid_in (((Below.refl w1.heap.size w1).drew).trans (hb6.mono (by simp))); have hr6 := HR0.out.below HB6.out HR0.out.lt; have d0 : w6.cell? ⟨w.heap.size, 0, none⟩ = some (.int .i64 k) := hr6.cell 0; have d1 : w6.cell? ⟨w.heap.size, 1, none⟩ = some (.string p) := hr6.cell 1; have d2 : w6.cell? ⟨w.heap.size, 2, none⟩ = some (.string t) := hr6.cell 2; have d3 : w6.cell? ⟨w.heap.size, 3, none⟩ = some (.string d) := hr6.cell 3; have d4 : w6.cell? ⟨w.heap.size, 4, none⟩ = some (.int .i64 a) := hr6.cell 4; have d5 : w6.cell? ⟨w.heap.size, 5, none⟩ = some (.int .i64 z) := hr6.cell 5; clear hb6 hr6) | (go_at_call 61; refine (HAN.out _).mono ?_; rintro e w7 ⟨hs, hb7⟩; obtain rfl := hs.isYes HNO.out; have HB7 := hid_in (HB6.out.trans (hb7.mono HB6.out.size)); have hr6 := HR0.out.below HB7.out HR0.out.lt; have f0 : w7.cell? ⟨w.heap.size, 0, none⟩ = some (.int .i64 k) := hr6.cell 0; have f1 : w7.cell? ⟨w.heap.size, 1, none⟩ = some (.string p) := hr6.cell 1; have f2 : w7.cell? ⟨w.heap.size, 2, none⟩ = some (.string t) := hr6.cell 2; have f3 : w7.cell? ⟨w.heap.size, 3, none⟩ = some (.string d) := hr6.cell 3; have f4 : w7.cell? ⟨w.heap.size, 4, none⟩ = some (.int .i64 a) := hr6.cell 4; have f5 : w7.cell? ⟨w.heap.size, 5, none⟩ = some (.int .i64 z) := hr6.cell 5; clear hb7 hr6 hs))
  all_goals
    go_wp2_with fail
    go_ret
    exact ⟨rfl, HB0.out.trans (HB7.out.mono HB0.out.size)⟩
set_option maxHeartbeats 4000000 in
set_option maxRecDepth 100000 in
theorem check_at (o : Opn) (hk : 1 ≤ o.kind ∧ o.kind ≤ 11) (hn : namedS o = o) (hno : numsOk o.kind o.at_ o.size) (hd : o.data.size ≤ 1024) (ha : 1024 < o.at_) (w : World) : Calls Tryz.prog 31 #[o.val] w fun e w' => e = .returned (.int .i64 134) ∧ Below w.heap.size w w' := by
  have HNM := hid_in (fun W => named_any o hk W)
  rw [hn] at HNM
  have hne := neq_no o
  have hws := word_some hk
  have HAN := hid_in (fun W => areNumbers_any o.kind o.path o.dest o.data o.at_ o.size W)
  have HNO := hid_in hno
  have k1 : ¬ ((1024 : Int) < (o.data.size : Int)) := by omega
  clear hno hd
  obtain ⟨k, p, t, d, a, z⟩ := o
  simp only [Opn.val] at *
  obtain ⟨W0, H0, HR0, HB0, HZ0⟩ := op_row w k a z p t d
  have c0 : W0.cell? ⟨w.heap.size, 0, none⟩ = some (.int .i64 k) := HR0.out.cell 0
  have c1 : W0.cell? ⟨w.heap.size, 1, none⟩ = some (.string p) := HR0.out.cell 1
  have c2 : W0.cell? ⟨w.heap.size, 2, none⟩ = some (.string t) := HR0.out.cell 2
  have c3 : W0.cell? ⟨w.heap.size, 3, none⟩ = some (.string d) := HR0.out.cell 3
  have c4 : W0.cell? ⟨w.heap.size, 4, none⟩ = some (.int .i64 a) := HR0.out.cell 4
  have c5 : W0.cell? ⟨w.heap.size, 5, none⟩ = some (.int .i64 z) := HR0.out.cell 5
  obtain ⟨WD, HWD⟩ : ∃ WD, Hid (wordOf k = WD) := ⟨_, rfl⟩
  have HW := hid_in (fun W => word_any k W)
  rw [HWD.out] at HW hws
  have hw1 : WD.toList.isEmpty = false := by
    rw [List.isEmpty_eq_false_iff]; exact fun e => hws (toL_inj (b := ⟨#[]⟩) (e.trans (by rw [Lib.toList_data])))
  clear hws HWD hk hn
  go_enter Tryz.func31, Tryz.ntmps31
  go_upto_region 1 with fail
  refine wp_world H0.out ?_
  clear H0
  go_upto_region 3 with (first | (go_at_call 59; refine (HW.out _).mono ?_; rintro e w1 ⟨rfl, rfl⟩))
  go_region_with (first | (go_at_call 60; refine (HNM.out _).mono ?_; rintro e w6 ⟨rfl, hb6⟩; have HB6 := hid_in (((Below.refl w1.heap.size w1).drew).trans (hb6.mono (by simp))); have hr6 := HR0.out.below HB6.out HR0.out.lt; have d0 : w6.cell? ⟨w.heap.size, 0, none⟩ = some (.int .i64 k) := hr6.cell 0; have d1 : w6.cell? ⟨w.heap.size, 1, none⟩ = some (.string p) := hr6.cell 1; have d2 : w6.cell? ⟨w.heap.size, 2, none⟩ = some (.string t) := hr6.cell 2; have d3 : w6.cell? ⟨w.heap.size, 3, none⟩ = some (.string d) := hr6.cell 3; have d4 : w6.cell? ⟨w.heap.size, 4, none⟩ = some (.int .i64 a) := hr6.cell 4; have d5 : w6.cell? ⟨w.heap.size, 5, none⟩ = some (.int .i64 z) := hr6.cell 5; clear hb6 hr6) | (go_at_call 61; refine (HAN.out _).mono ?_; rintro e w7 ⟨hs, hb7⟩; obtain rfl := hs.isYes HNO.out; have HB7 := hid_in (HB6.out.trans (hb7.mono HB6.out.size)); have hr6 := HR0.out.below HB7.out HR0.out.lt; have f0 : w7.cell? ⟨w.heap.size, 0, none⟩ = some (.int .i64 k) := hr6.cell 0; have f1 : w7.cell? ⟨w.heap.size, 1, none⟩ = some (.string p) := hr6.cell 1; have f2 : w7.cell? ⟨w.heap.size, 2, none⟩ = some (.string t) := hr6.cell 2; have f3 : w7.cell? ⟨w.heap.size, 3, none⟩ = some (.string d) := hr6.cell 3; have f4 : w7.cell? ⟨w.heap.size, 4, none⟩ = some (.int .i64 a) := hr6.cell 4; have f5 : w7.cell? ⟨w.heap.size, 5, none⟩ = some (.int .i64 z) := hr6.cell 5; clear hb7 hr6 hs))
  all_goals
    go_wp2_with fail
    go_ret
    exact ⟨rfl, HB0.out.trans (HB7.out.mono HB0.out.size)⟩
set_option maxHeartbeats 4000000 in
set_option maxRecDepth 100000 in
theorem check_size (o : Opn) (hk : 1 ≤ o.kind ∧ o.kind ≤ 11) (hn : namedS o = o) (hno : numsOk o.kind o.at_ o.size) (hd : o.data.size ≤ 1024) (ha : o.at_ ≤ 1024) (hz : 1024 < o.size) (w : World) : Calls Tryz.prog 31 #[o.val] w fun e w' => e = .returned (.int .i64 134) ∧ Below w.heap.size w w' := by
  have HNM := hid_in (fun W => named_any o hk W)
  rw [hn] at HNM
  have hne := neq_no o
  have hws := word_some hk
  have HAN := hid_in (fun W => areNumbers_any o.kind o.path o.dest o.data o.at_ o.size W)
  have HNO := hid_in hno
  have k1 : ¬ ((1024 : Int) < (o.data.size : Int)) := by omega
  have k2 : ¬ (1024 < o.at_) := by omega
  clear hno hd ha
  obtain ⟨k, p, t, d, a, z⟩ := o
  simp only [Opn.val] at *
  obtain ⟨W0, H0, HR0, HB0, HZ0⟩ := op_row w k a z p t d
  have c0 : W0.cell? ⟨w.heap.size, 0, none⟩ = some (.int .i64 k) := HR0.out.cell 0
  have c1 : W0.cell? ⟨w.heap.size, 1, none⟩ = some (.string p) := HR0.out.cell 1
  have c2 : W0.cell? ⟨w.heap.size, 2, none⟩ = some (.string t) := HR0.out.cell 2
  have c3 : W0.cell? ⟨w.heap.size, 3, none⟩ = some (.string d) := HR0.out.cell 3
  have c4 : W0.cell? ⟨w.heap.size, 4, none⟩ = some (.int .i64 a) := HR0.out.cell 4
  have c5 : W0.cell? ⟨w.heap.size, 5, none⟩ = some (.int .i64 z) := HR0.out.cell 5
  obtain ⟨WD, HWD⟩ : ∃ WD, Hid (wordOf k = WD) := ⟨_, rfl⟩
  have HW := hid_in (fun W => word_any k W)
  rw [HWD.out] at HW hws
  have hw1 : WD.toList.isEmpty = false := by
    rw [List.isEmpty_eq_false_iff]; exact fun e => hws (toL_inj (b := ⟨#[]⟩) (e.trans (by rw [Lib.toList_data])))
  clear hws HWD hk hn
  go_enter Tryz.func31, Tryz.ntmps31
  go_upto_region 1 with fail
  refine wp_world H0.out ?_
  clear H0
  go_upto_region 3 with (first | (go_at_call 59; refine (HW.out _).mono ?_; rintro e w1 ⟨rfl, rfl⟩))
  go_region_with (first | (go_at_call 60; refine (HNM.out _).mono ?_; rintro e w6 ⟨rfl, hb6⟩; have HB6 := hid_in (((Below.refl w1.heap.size w1).drew).trans (hb6.mono (by simp))); have hr6 := HR0.out.below HB6.out HR0.out.lt; have d0 : w6.cell? ⟨w.heap.size, 0, none⟩ = some (.int .i64 k) := hr6.cell 0; have d1 : w6.cell? ⟨w.heap.size, 1, none⟩ = some (.string p) := hr6.cell 1; have d2 : w6.cell? ⟨w.heap.size, 2, none⟩ = some (.string t) := hr6.cell 2; have d3 : w6.cell? ⟨w.heap.size, 3, none⟩ = some (.string d) := hr6.cell 3; have d4 : w6.cell? ⟨w.heap.size, 4, none⟩ = some (.int .i64 a) := hr6.cell 4; have d5 : w6.cell? ⟨w.heap.size, 5, none⟩ = some (.int .i64 z) := hr6.cell 5; clear hb6 hr6) | (go_at_call 61; refine (HAN.out _).mono ?_; rintro e w7 ⟨hs, hb7⟩; obtain rfl := hs.isYes HNO.out; have HB7 := hid_in (HB6.out.trans (hb7.mono HB6.out.size)); have hr6 := HR0.out.below HB7.out HR0.out.lt; have f0 : w7.cell? ⟨w.heap.size, 0, none⟩ = some (.int .i64 k) := hr6.cell 0; have f1 : w7.cell? ⟨w.heap.size, 1, none⟩ = some (.string p) := hr6.cell 1; have f2 : w7.cell? ⟨w.heap.size, 2, none⟩ = some (.string t) := hr6.cell 2; have f3 : w7.cell? ⟨w.heap.size, 3, none⟩ = some (.string d) := hr6.cell 3; have f4 : w7.cell? ⟨w.heap.size, 4, none⟩ = some (.int .i64 a) := hr6.cell 4; have f5 : w7.cell? ⟨w.heap.size, 5, none⟩ = some (.int .i64 z) := hr6.cell 5; clear hb7 hr6 hs))
  all_goals
    go_wp2_with fail
    go_ret
    exact ⟨rfl, HB0.out.trans (HB7.out.mono HB0.out.size)⟩
set_option maxHeartbeats 4000000 in
set_option maxRecDepth 100000 in
theorem check_paths (o : Opn) (hk : 1 ≤ o.kind ∧ o.kind ≤ 11) (hn : namedS o = o) (hno : numsOk o.kind o.at_ o.size) (hd : o.data.size ≤ 1024) (ha : o.at_ ≤ 1024) (hz : o.size ≤ 1024) (hp : o.path.size ≤ 9223372036854775807) (ht : o.dest.size ≤ 9223372036854775807) (w : World) : Calls Tryz.prog 31 #[o.val] w fun e w' => e = .returned (.int .i64 (pathsS o.kind o.path o.dest)) ∧ Below w.heap.size w w' := by
  have HNM := hid_in (fun W => named_any o hk W)
  rw [hn] at HNM
  have hne := neq_no o
  have hws := word_some hk
  have HAN := hid_in (fun W => areNumbers_any o.kind o.path o.dest o.data o.at_ o.size W)
  have HNO := hid_in hno
  have HCP := hid_in (fun W => checkPaths_any o.kind o.path o.dest o.data o.at_ o.size W hp ht)
  obtain ⟨pe, HPE⟩ : ∃ pe, Hid (pathsS o.kind o.path o.dest = pe) := ⟨_, rfl⟩
  rw [HPE.out] at HCP ⊢
  have k1 : ¬ ((1024 : Int) < (o.data.size : Int)) := by omega
  have k2 : ¬ (1024 < o.at_) := by omega
  have k3 : ¬ (1024 < o.size) := by omega
  clear hno hd ha hz hp ht HPE
  obtain ⟨k, p, t, d, a, z⟩ := o
  simp only [Opn.val] at *
  obtain ⟨W0, H0, HR0, HB0, HZ0⟩ := op_row w k a z p t d
  have c0 : W0.cell? ⟨w.heap.size, 0, none⟩ = some (.int .i64 k) := HR0.out.cell 0
  have c1 : W0.cell? ⟨w.heap.size, 1, none⟩ = some (.string p) := HR0.out.cell 1
  have c2 : W0.cell? ⟨w.heap.size, 2, none⟩ = some (.string t) := HR0.out.cell 2
  have c3 : W0.cell? ⟨w.heap.size, 3, none⟩ = some (.string d) := HR0.out.cell 3
  have c4 : W0.cell? ⟨w.heap.size, 4, none⟩ = some (.int .i64 a) := HR0.out.cell 4
  have c5 : W0.cell? ⟨w.heap.size, 5, none⟩ = some (.int .i64 z) := HR0.out.cell 5
  obtain ⟨WD, HWD⟩ : ∃ WD, Hid (wordOf k = WD) := ⟨_, rfl⟩
  have HW := hid_in (fun W => word_any k W)
  rw [HWD.out] at HW hws
  have hw1 : WD.toList.isEmpty = false := by
    rw [List.isEmpty_eq_false_iff]; exact fun e => hws (toL_inj (b := ⟨#[]⟩) (e.trans (by rw [Lib.toList_data])))
  clear hws HWD hk hn
  go_enter Tryz.func31, Tryz.ntmps31
  go_upto_region 1 with fail
  refine wp_world H0.out ?_
  clear H0
  go_upto_region 3 with (first | (go_at_call 59; refine (HW.out _).mono ?_; rintro e w1 ⟨rfl, rfl⟩))
  go_region_with (first | (go_at_call 60; refine (HNM.out _).mono ?_; rintro e w6 ⟨rfl, hb6⟩; have HB6 := hid_in (((Below.refl w1.heap.size w1).drew).trans (hb6.mono (by simp))); have hr6 := HR0.out.below HB6.out HR0.out.lt; have d0 : w6.cell? ⟨w.heap.size, 0, none⟩ = some (.int .i64 k) := hr6.cell 0; have d1 : w6.cell? ⟨w.heap.size, 1, none⟩ = some (.string p) := hr6.cell 1; have d2 : w6.cell? ⟨w.heap.size, 2, none⟩ = some (.string t) := hr6.cell 2; have d3 : w6.cell? ⟨w.heap.size, 3, none⟩ = some (.string d) := hr6.cell 3; have d4 : w6.cell? ⟨w.heap.size, 4, none⟩ = some (.int .i64 a) := hr6.cell 4; have d5 : w6.cell? ⟨w.heap.size, 5, none⟩ = some (.int .i64 z) := hr6.cell 5; clear hb6 hr6) | (go_at_call 61; refine (HAN.out _).mono ?_; rintro e w7 ⟨hs, hb7⟩; obtain rfl := hs.isYes HNO.out; have HB7 := hid_in (HB6.out.trans (hb7.mono HB6.out.size)); have hr6 := HR0.out.below HB7.out HR0.out.lt; have f0 : w7.cell? ⟨w.heap.size, 0, none⟩ = some (.int .i64 k) := hr6.cell 0; have f1 : w7.cell? ⟨w.heap.size, 1, none⟩ = some (.string p) := hr6.cell 1; have f2 : w7.cell? ⟨w.heap.size, 2, none⟩ = some (.string t) := hr6.cell 2; have f3 : w7.cell? ⟨w.heap.size, 3, none⟩ = some (.string d) := hr6.cell 3; have f4 : w7.cell? ⟨w.heap.size, 4, none⟩ = some (.int .i64 a) := hr6.cell 4; have f5 : w7.cell? ⟨w.heap.size, 5, none⟩ = some (.int .i64 z) := hr6.cell 5; clear hb7 hr6 hs))
  all_goals
    go_wp2_with (first | (go_at_call 62; refine (HCP.out _).mono ?_; rintro e w8 ⟨rfl, hb8⟩; have HB8 := hid_in (HB7.out.trans (hb8.mono HB7.out.size)); clear hb8))
    go_ret
    exact ⟨rfl, HB0.out.trans (HB8.out.mono HB0.out.size)⟩
theorem check_any (o : Opn) (hp : o.path.size ≤ 9223372036854775807) (ht : o.dest.size ≤ 9223372036854775807) (w : World) : Calls Tryz.prog 31 #[o.val] w fun e w' => e = .returned (.int .i64 (checkS o)) ∧ Below w.heap.size w w' := by
  unfold checkS
  split
  · exact check_kind o (by assumption) w
  · rename_i hk
    have hk := Decidable.not_not.1 hk
    split
    · rename_i h
      by_cases hn : namedS o = o
      · exact check_nums o hk hn (by rcases h with h | h; exact absurd hn h; exact h) w
      · exact check_arg o hk hn w
    · rename_i h
      have hn : namedS o = o := Decidable.not_not.1 fun e => h (.inl e)
      have hno : numsOk o.kind o.at_ o.size := Decidable.not_not.1 fun e => h (.inr e)
      split
      · rename_i hb
        by_cases h1 : 1024 < o.data.size
        · exact check_data o hk hn hno h1 w
        · by_cases h2 : 1024 < o.at_
          · exact check_at o hk hn hno (by omega) h2 w
          · exact check_size o hk hn hno (by omega) (by omega) (by omega) w
      · rename_i hb
        exact check_paths o hk hn hno (by omega) (by omega) (by omega) hp ht w
end Go.Proofs.YtngehkmdanhgpaaGreat.Nd
namespace Go.Proofs.YtngehkmdanhgpaaGreat.Pl
open Go.RowKit
open Vp (Str B bl Val cmpL parseS showS splitS withinS IsPath)
open Nd (Row wp_world post_Row post_Row2 grownBy_setCell below_of_grown Opn checkS)
/-- a result, by what it tells -/
structure RA where
  code : Int
  dir : Bool
  size : Int
  data : ByteArray
  names : List Str
def RA.err (k : Int) : RA := ⟨k, false, 0, ⟨#[]⟩, []⟩
/-- what is answered, and what is there behind it -/
def Did (w : World) (g m : Nat) (R : RA) (A' : List Ent) (e : Ending) (w' : World) : Prop := ∃ v, e = .returned (Res.val ⟨R.code, R.dir, R.size, R.data, v⟩) ∧ Rf.Nm w' v R.names ∧ (∃ L', Fs w' g m L' ∧ L'.map Spot.ent = A') ∧ w.grownBy w' (some m)
theorem nm_nil (w : World) : Rf.Nm w (.slice none 0 0) [] := World.ownsRow_nil _ _ _ _
theorem nm_set {w : World} {b : Nat} {vs : List Value} {t : TypeId} {v : Value} {xs : List Str} (h : Rf.Nm w v xs) (hr : Row w b vs t) (h9 : t ≠ 9) (j : Nat) (u : Value) : Rf.Nm (w.setCell ⟨b, j, none⟩ u) v xs :=
  nm_kept h fun k cs fr e => by
    rw [(grownBy_setCell w ⟨b, j, none⟩ u).block k (Array.getElem?_eq_some_iff.1 e).1 (fun e2 => by
      obtain rfl := Option.some.inj e2
      unfold Row at hr
      rw [hr] at e
      cases e
      exact h9 rfl)]
    exact e
theorem nm_set5 {W : World} {b : Nat} {vs : List Value} {t : TypeId} {v : Value} {xs : List Str} (h : Rf.Nm W v xs) (hr : Row W b vs t) (h9 : t ≠ 9) (v0 v1 v2 v3 v4 : Value) : Rf.Nm (((((W.setCell ⟨b, 0, none⟩ v0).setCell ⟨b, 1, none⟩ v1).setCell ⟨b, 2, none⟩ v2).setCell ⟨b, 3, none⟩ v3).setCell ⟨b, 4, none⟩ v4) v xs := by
  have r1 := hr.set_same 0 v0
  have r2 := r1.set_same 1 v1
  have r3 := r2.set_same 2 v2
  have r4 := r3.set_same 3 v3
  exact nm_set (nm_set (nm_set (nm_set (nm_set h hr h9 0 v0) r1 h9 1 v1) r2 h9 2 v2) r3 h9 3 v3) r4 h9 4 v4
theorem op_cells {W w2 : World} {b : Nat} {k a z : Int} {p t d : ByteArray} (hr : Row W b [.int .i64 k, .string p, .string t, .string d, .int .i64 a, .int .i64 z] 40) (kb : Below W.heap.size W w2) : w2.cell? ⟨b, 0, none⟩ = some (.int .i64 k) ∧ w2.cell? ⟨b, 1, none⟩ = some (.string p) ∧ w2.cell? ⟨b, 2, none⟩ = some (.string t) ∧ w2.cell? ⟨b, 3, none⟩ = some (.string d) ∧ w2.cell? ⟨b, 4, none⟩ = some (.int .i64 a) ∧ w2.cell? ⟨b, 5, none⟩ = some (.int .i64 z) := by
  have h := hr.below kb hr.lt
  exact ⟨h.cell 0, h.cell 1, h.cell 2, h.cell 3, h.cell 4, h.cell 5⟩
set_option maxHeartbeats 4000000 in
set_option maxRecDepth 100000 in
theorem do_err {w : World} {g m : Nat} {L : List Spot} (h : Fs w g m L) (k a z : Int) (p t d : ByteArray) (hp : p.size ≤ 9223372036854775807) (ht : t.size ≤ 9223372036854775807) (hc : checkS ⟨k, p, t, d, a, z⟩ ≠ 0) :
    Calls Tryz.prog 14 #[.pointer (some ⟨g, 0, none⟩), .agg #[.int .i64 k, .string p, .string t, .string d, .int .i64 a, .int .i64 z]] w fun e w' => Did w g m (RA.err (checkS ⟨k, p, t, d, a, z⟩)) (L.map Spot.ent) e w' := by
  obtain ⟨WA, HWA, HRO, HRA, HBA⟩ := op_box w k a z p t d
  have H := hid_in h
  have HCK := hid_in (fun W => Nd.check_any ⟨k, p, t, d, a, z⟩ hp ht W)
  simp only [Opn.val] at HCK
  have HC := hid_in hc
  obtain ⟨c0, c1, c2, c3, c4, c5⟩ := op_cells HRO.out (Below.refl _ WA)
  obtain ⟨C, HCC⟩ : ∃ C, Hid (checkS ⟨k, p, t, d, a, z⟩ = C) := ⟨_, hid_in rfl⟩
  rw [HCC.out] at HCK HC hc ⊢
  have hc2 : (C != 0) = true := by simpa using hc
  have HREF := hid_in (fun k W => refuse_any k W)
  simp only [Res.err, Res.val] at HREF
  clear h hc
  go_enter Tryz.func14, Tryz.ntmps14
  go_upto_region 1 with fail
  refine wp_world HWA.out ?_
  go_wp2_with (first | (go_at_call 31; refine (HCK.out _).mono ?_; rintro e w1 ⟨rfl, hb1⟩; have HC1 := hid_in hb1; clear hb1) | (go_at_call 30; refine (HREF.out _ _).mono ?_; rintro e w5 ⟨rfl, hb5⟩; have hc5 := HC1.out.trans (hb5.mono HC1.out.size); obtain ⟨⟨g0, g1, g2, g3, g4⟩, q0, q1, q2, q3, q4⟩ := res_cells HRA.out hc5; have HR5 := hid_in (HRA.out.below hc5 HRA.out.lt); have HB5 := hid_in (HBA.out.trans (hc5.mono HBA.out.size)); clear hb5 hc5))
  exact post_err H.out HR5.out HB5.out C _ rfl rfl rfl fun W' hf hg => ⟨_, rfl, nm_nil _, ⟨L, hf, rfl⟩, hg⟩
set_option maxHeartbeats 1000000 in
set_option maxRecDepth 100000 in
theorem deed_2 (v : Value) (w : World) : Calls Tryz.prog 32 #[v, .int .i64 2] w fun e w' => e = .returned (.func (.func 64) #[v] #[]) ∧ w' = w := by
  go_enter Tryz.func32, Tryz.ntmps32
  go_wp2
  go_ret
  exact ⟨rfl, rfl⟩
set_option maxHeartbeats 4000000 in
set_option maxRecDepth 100000 in
theorem do_2 {w : World} {g m : Nat} {L : List Spot} (h : Fs w g m L) (a z : Int) (p t d : ByteArray) (hp : p.size ≤ 9223372036854775807) (ht : t.size ≤ 9223372036854775807) (hc : checkS ⟨2, p, t, d, a, z⟩ = 0) (R : RA) (A' : List Ent)
    (hd : ∀ W, Below w.heap.size w W → Calls Tryz.prog 64 #[.pointer (some ⟨g, 0, none⟩), .agg #[.int .i64 2, .string p, .string t, .string d, .int .i64 a, .int .i64 z]] W fun e w' => Did W g m R A' e w') :
    Calls Tryz.prog 14 #[.pointer (some ⟨g, 0, none⟩), .agg #[.int .i64 2, .string p, .string t, .string d, .int .i64 a, .int .i64 z]] w fun e w' => Did w g m R A' e w' := by
  obtain ⟨WA, HWA, HRO, HRA, HBA⟩ := op_box w 2 a z p t d
  have H := hid_in h
  have HG := hid_in h.ne1
  have HCK := hid_in (fun W => Nd.check_any ⟨2, p, t, d, a, z⟩ hp ht W)
  simp only [Opn.val] at HCK
  rw [hc] at HCK
  have HD := hid_in hd
  have HDE := hid_in (fun W => deed_2 (.pointer (some ⟨g, 0, none⟩)) W)
  obtain ⟨c0, c1, c2, c3, c4, c5⟩ := op_cells HRO.out (Below.refl _ WA)
  have HK := hid_in (fun W (kb : Below WA.heap.size WA W) => op_cells HRO.out kb)
  obtain ⟨rc, rd, rs, rx, rn⟩ := R
  unfold Did at HD
  simp only [Res.val] at HD
  clear h hc hd
  go_enter Tryz.func14, Tryz.ntmps14
  go_upto_region 1 with fail
  refine wp_world HWA.out ?_
  go_upto_region 6 with (first | (go_at_call 31; refine (HCK.out _).mono ?_; rintro e w1 ⟨rfl, hb1⟩; have HC1 := hid_in hb1; clear hb1))
  obtain ⟨e0, e1, e2, e3, e4, e5⟩ := HK.out _ HC1.out
  clear c0 c1 c2 c3 c4 c5
  have HB1 := hid_in (HBA.out.trans (HC1.out.mono HBA.out.size))
  go_region_with (first | (go_at_call 32; refine (HDE.out _).mono ?_; rintro e w2 ⟨rfl, rfl⟩) | (go_at_call 64; refine (HD.out _ (below_drewN HB1.out 1)).mono ?_; rintro e w3 ⟨v3, rfl, hn3, ⟨L3, hf3, ha3⟩, hg3⟩; obtain ⟨vp, vc, rfl⟩ := hn3.form; have hr3 := Row.map (HRA.out.below (below_drewN HC1.out 1) HRA.out.lt) (H.out.below (below_drewN HB1.out 1)).map hg3; obtain ⟨⟨g0, g1, g2, g3, g4⟩, q0, q1, q2, q3, q4⟩ := res_cells hr3 (Below.refl _ w3); have HR3 := hid_in hr3; have HN3 := hid_in hn3; have HF3 := hid_in hf3; have HA3 := hid_in ha3; have HG3 := hid_in (grown_plus (below_drewN HB1.out 1) hg3); clear hn3 hf3 ha3 hg3 hr3))
  all_goals
    go_wp2
    exact post_Row 4 37 rfl (w.heap.size + 1) rfl 37 [.int .i64 rc, .bool rd, .int .i64 rs, .string rx, .slice vp rn.length vc] (set5_row HR3.out rfl _ _ _ _ _) _ Tryz.underlying37 rfl 5 info37 rfl rfl ⟨_, rfl, nm_set5 HN3.out HR3.out (by decide) _ _ _ _ _, ⟨_, HF3.out.set5 HR3.out (by decide) HG.out _ _ _ _ _, HA3.out⟩, grown_set5 HG3.out (Nat.le_succ _) _ _ _ _ _⟩
set_option maxHeartbeats 1000000 in
set_option maxRecDepth 100000 in
theorem deed_3 (v : Value) (w : World) : Calls Tryz.prog 32 #[v, .int .i64 3] w fun e w' => e = .returned (.func (.func 65) #[v] #[]) ∧ w' = w := by
  go_enter Tryz.func32, Tryz.ntmps32
  go_wp2
  go_ret
  exact ⟨rfl, rfl⟩
set_option maxHeartbeats 4000000 in
set_option maxRecDepth 100000 in
theorem do_3 {w : World} {g m : Nat} {L : List Spot} (h : Fs w g m L) (a z : Int) (p t d : ByteArray) (hp : p.size ≤ 9223372036854775807) (ht : t.size ≤ 9223372036854775807) (hc : checkS ⟨3, p, t, d, a, z⟩ = 0) (R : RA) (A' : List Ent)
    (hd : ∀ W, Below w.heap.size w W → Calls Tryz.prog 65 #[.pointer (some ⟨g, 0, none⟩), .agg #[.int .i64 3, .string p, .string t, .string d, .int .i64 a, .int .i64 z]] W fun e w' => Did W g m R A' e w') :
    Calls Tryz.prog 14 #[.pointer (some ⟨g, 0, none⟩), .agg #[.int .i64 3, .string p, .string t, .string d, .int .i64 a, .int .i64 z]] w fun e w' => Did w g m R A' e w' := by
  obtain ⟨WA, HWA, HRO, HRA, HBA⟩ := op_box w 3 a z p t d
  have H := hid_in h
  have HG := hid_in h.ne1
  have HCK := hid_in (fun W => Nd.check_any ⟨3, p, t, d, a, z⟩ hp ht W)
  simp only [Opn.val] at HCK
  rw [hc] at HCK
  have HD := hid_in hd
  have HDE := hid_in (fun W => deed_3 (.pointer (some ⟨g, 0, none⟩)) W)
  obtain ⟨c0, c1, c2, c3, c4, c5⟩ := op_cells HRO.out (Below.refl _ WA)
  have HK := hid_in (fun W (kb : Below WA.heap.size WA W) => op_cells HRO.out kb)
  obtain ⟨rc, rd, rs, rx, rn⟩ := R
  unfold Did at HD
  simp only [Res.val] at HD
  clear h hc hd
  go_enter Tryz.func14, Tryz.ntmps14
  go_upto_region 1 with fail
  refine wp_world HWA.out ?_
  go_upto_region 6 with (first | (go_at_call 31; refine (HCK.out _).mono ?_; rintro e w1 ⟨rfl, hb1⟩; have HC1 := hid_in hb1; clear hb1))
  obtain ⟨e0, e1, e2, e3, e4, e5⟩ := HK.out _ HC1.out
  clear c0 c1 c2 c3 c4 c5
  have HB1 := hid_in (HBA.out.trans (HC1.out.mono HBA.out.size))
  go_region_with (first | (go_at_call 32; refine (HDE.out _).mono ?_; rintro e w2 ⟨rfl, rfl⟩) | (go_at_call 65; refine (HD.out _ (below_drewN HB1.out 1)).mono ?_; rintro e w3 ⟨v3, rfl, hn3, ⟨L3, hf3, ha3⟩, hg3⟩; obtain ⟨vp, vc, rfl⟩ := hn3.form; have hr3 := Row.map (HRA.out.below (below_drewN HC1.out 1) HRA.out.lt) (H.out.below (below_drewN HB1.out 1)).map hg3; obtain ⟨⟨g0, g1, g2, g3, g4⟩, q0, q1, q2, q3, q4⟩ := res_cells hr3 (Below.refl _ w3); have HR3 := hid_in hr3; have HN3 := hid_in hn3; have HF3 := hid_in hf3; have HA3 := hid_in ha3; have HG3 := hid_in (grown_plus (below_drewN HB1.out 1) hg3); clear hn3 hf3 ha3 hg3 hr3))
  all_goals
    go_wp2
    exact post_Row 4 37 rfl (w.heap.size + 1) rfl 37 [.int .i64 rc, .bool rd, .int .i64 rs, .string rx, .slice vp rn.length vc] (set5_row HR3.out rfl _ _ _ _ _) _ Tryz.underlying37 rfl 5 info37 rfl rfl ⟨_, rfl, nm_set5 HN3.out HR3.out (by decide) _ _ _ _ _, ⟨_, HF3.out.set5 HR3.out (by decide) HG.out _ _ _ _ _, HA3.out⟩, grown_set5 HG3.out (Nat.le_succ _) _ _ _ _ _⟩
set_option maxHeartbeats 1000000 in
set_option maxRecDepth 100000 in
theorem deed_4 (v : Value) (w : World) : Calls Tryz.prog 32 #[v, .int .i64 4] w fun e w' => e = .returned (.func (.func 66) #[v] #[]) ∧ w' = w := by
  go_enter Tryz.func32, Tryz.ntmps32
  go_wp2
  go_ret
  exact ⟨rfl, rfl⟩
set_option maxHeartbeats 4000000 in
set_option maxRecDepth 100000 in
theorem do_4 {w : World} {g m : Nat} {L : List Spot} (h : Fs w g m L) (a z : Int) (p t d : ByteArray) (hp : p.size ≤ 9223372036854775807) (ht : t.size ≤ 9223372036854775807) (hc : checkS ⟨4, p, t, d, a, z⟩ = 0) (R : RA) (A' : List Ent)
    (hd : ∀ W, Below w.heap.size w W → Calls Tryz.prog 66 #[.pointer (some ⟨g, 0, none⟩), .agg #[.int .i64 4, .string p, .string t, .string d, .int .i64 a, .int .i64 z]] W fun e w' => Did W g m R A' e w') :
    Calls Tryz.prog 14 #[.pointer (some ⟨g, 0, none⟩), .agg #[.int .i64 4, .string p, .string t, .string d, .int .i64 a, .int .i64 z]] w fun e w' => Did w g m R A' e w' := by
  obtain ⟨WA, HWA, HRO, HRA, HBA⟩ := op_box w 4 a z p t d
  have H := hid_in h
  have HG := hid_in h.ne1
  have HCK := hid_in (fun W => Nd.check_any ⟨4, p, t, d, a, z⟩ hp ht W)
  simp only [Opn.val] at HCK
  rw [hc] at HCK
  have HD := hid_in hd
  have HDE := hid_in (fun W => deed_4 (.pointer (some ⟨g, 0, none⟩)) W)
  obtain ⟨c0, c1, c2, c3, c4, c5⟩ := op_cells HRO.out (Below.refl _ WA)
  have HK := hid_in (fun W (kb : Below WA.heap.size WA W) => op_cells HRO.out kb)
  obtain ⟨rc, rd, rs, rx, rn⟩ := R
  unfold Did at HD
  simp only [Res.val] at HD
  clear h hc hd
  go_enter Tryz.func14, Tryz.ntmps14
  go_upto_region 1 with fail
  refine wp_world HWA.out ?_
  go_upto_region 6 with (first | (go_at_call 31; refine (HCK.out _).mono ?_; rintro e w1 ⟨rfl, hb1⟩; have HC1 := hid_in hb1; clear hb1))
  obtain ⟨e0, e1, e2, e3, e4, e5⟩ := HK.out _ HC1.out
  clear c0 c1 c2 c3 c4 c5
  have HB1 := hid_in (HBA.out.trans (HC1.out.mono HBA.out.size))
  go_region_with (first | (go_at_call 32; refine (HDE.out _).mono ?_; rintro e w2 ⟨rfl, rfl⟩) | (go_at_call 66; refine (HD.out _ (below_drewN HB1.out 1)).mono ?_; rintro e w3 ⟨v3, rfl, hn3, ⟨L3, hf3, ha3⟩, hg3⟩; obtain ⟨vp, vc, rfl⟩ := hn3.form; have hr3 := Row.map (HRA.out.below (below_drewN HC1.out 1) HRA.out.lt) (H.out.below (below_drewN HB1.out 1)).map hg3; obtain ⟨⟨g0, g1, g2, g3, g4⟩, q0, q1, q2, q3, q4⟩ := res_cells hr3 (Below.refl _ w3); have HR3 := hid_in hr3; have HN3 := hid_in hn3; have HF3 := hid_in hf3; have HA3 := hid_in ha3; have HG3 := hid_in (grown_plus (below_drewN HB1.out 1) hg3); clear hn3 hf3 ha3 hg3 hr3))
  all_goals
    go_wp2
    exact post_Row 4 37 rfl (w.heap.size + 1) rfl 37 [.int .i64 rc, .bool rd, .int .i64 rs, .string rx, .slice vp rn.length vc] (set5_row HR3.out rfl _ _ _ _ _) _ Tryz.underlying37 rfl 5 info37 rfl rfl ⟨_, rfl, nm_set5 HN3.out HR3.out (by decide) _ _ _ _ _, ⟨_, HF3.out.set5 HR3.out (by decide) HG.out _ _ _ _ _, HA3.out⟩, grown_set5 HG3.out (Nat.le_succ _) _ _ _ _ _⟩
set_option maxHeartbeats 1000000 in
set_option maxRecDepth 100000 in
theorem deed_6 (v : Value) (w : World) : Calls Tryz.prog 32 #[v, .int .i64 6] w fun e w' => e = .returned (.func (.func 68) #[v] #[]) ∧ w' = w := by
  go_enter Tryz.func32, Tryz.ntmps32
  go_wp2
  go_ret
  exact ⟨rfl, rfl⟩
set_option maxHeartbeats 4000000 in
set_option maxRecDepth 100000 in
theorem do_6 {w : World} {g m : Nat} {L : List Spot} (h : Fs w g m L) (a z : Int) (p t d : ByteArray) (hp : p.size ≤ 9223372036854775807) (ht : t.size ≤ 9223372036854775807) (hc : checkS ⟨6, p, t, d, a, z⟩ = 0) (R : RA) (A' : List Ent)
    (hd : ∀ W, Below w.heap.size w W → Calls Tryz.prog 68 #[.pointer (some ⟨g, 0, none⟩), .agg #[.int .i64 6, .string p, .string t, .string d, .int .i64 a, .int .i64 z]] W fun e w' => Did W g m R A' e w') :
    Calls Tryz.prog 14 #[.pointer (some ⟨g, 0, none⟩), .agg #[.int .i64 6, .string p, .string t, .string d, .int .i64 a, .int .i64 z]] w fun e w' => Did w g m R A' e w' := by
  obtain ⟨WA, HWA, HRO, HRA, HBA⟩ := op_box w 6 a z p t d
  have H := hid_in h
  have HG := hid_in h.ne1
  have HCK := hid_in (fun W => Nd.check_any ⟨6, p, t, d, a, z⟩ hp ht W)
  simp only [Opn.val] at HCK
  rw [hc] at HCK
  have HD := hid_in hd
  have HDE := hid_in (fun W => deed_6 (.pointer (some ⟨g, 0, none⟩)) W)
  obtain ⟨c0, c1, c2, c3, c4, c5⟩ := op_cells HRO.out (Below.refl _ WA)
  have HK := hid_in (fun W (kb : Below WA.heap.size WA W) => op_cells HRO.out kb)
  obtain ⟨rc, rd, rs, rx, rn⟩ := R
  unfold Did at HD
  simp only [Res.val] at HD
  clear h hc hd
  go_enter Tryz.func14, Tryz.ntmps14
  go_upto_region 1 with fail
  refine wp_world HWA.out ?_
  go_upto_region 6 with (first | (go_at_call 31; refine (HCK.out _).mono ?_; rintro e w1 ⟨rfl, hb1⟩; have HC1 := hid_in hb1; clear hb1))
  obtain ⟨e0, e1, e2, e3, e4, e5⟩ := HK.out _ HC1.out
  clear c0 c1 c2 c3 c4 c5
  have HB1 := hid_in (HBA.out.trans (HC1.out.mono HBA.out.size))
  go_region_with (first | (go_at_call 32; refine (HDE.out _).mono ?_; rintro e w2 ⟨rfl, rfl⟩) | (go_at_call 68; refine (HD.out _ (below_drewN HB1.out 1)).mono ?_; rintro e w3 ⟨v3, rfl, hn3, ⟨L3, hf3, ha3⟩, hg3⟩; obtain ⟨vp, vc, rfl⟩ := hn3.form; have hr3 := Row.map (HRA.out.below (below_drewN HC1.out 1) HRA.out.lt) (H.out.below (below_drewN HB1.out 1)).map hg3; obtain ⟨⟨g0, g1, g2, g3, g4⟩, q0, q1, q2, q3, q4⟩ := res_cells hr3 (Below.refl _ w3); have HR3 := hid_in hr3; have HN3 := hid_in hn3; have HF3 := hid_in hf3; have HA3 := hid_in ha3; have HG3 := hid_in (grown_plus (below_drewN HB1.out 1) hg3); clear hn3 hf3 ha3 hg3 hr3))
  all_goals
    go_wp2
    exact post_Row 4 37 rfl (w.heap.size + 1) rfl 37 [.int .i64 rc, .bool rd, .int .i64 rs, .string rx, .slice vp rn.length vc] (set5_row HR3.out rfl _ _ _ _ _) _ Tryz.underlying37 rfl 5 info37 rfl rfl ⟨_, rfl, nm_set5 HN3.out HR3.out (by decide) _ _ _ _ _, ⟨_, HF3.out.set5 HR3.out (by decide) HG.out _ _ _ _ _, HA3.out⟩, grown_set5 HG3.out (Nat.le_succ _) _ _ _ _ _⟩
set_option maxHeartbeats 1000000 in
set_option maxRecDepth 100000 in
theorem deed_8 (v : Value) (w : World) : Calls Tryz.prog 32 #[v, .int .i64 8] w fun e w' => e = .returned (.func (.func 70) #[v] #[]) ∧ w' = w := by
  go_enter Tryz.func32, Tryz.ntmps32
  go_wp2
  go_ret
  exact ⟨rfl, rfl⟩
set_option maxHeartbeats 4000000 in
set_option maxRecDepth 100000 in
theorem do_8 {w : World} {g m : Nat} {L : List Spot} (h : Fs w g m L) (a z : Int) (p t d : ByteArray) (hp : p.size ≤ 9223372036854775807) (ht : t.size ≤ 9223372036854775807) (hc : checkS ⟨8, p, t, d, a, z⟩ = 0) (R : RA) (A' : List Ent)
    (hd : ∀ W, Below w.heap.size w W → Calls Tryz.prog 70 #[.pointer (some ⟨g, 0, none⟩), .agg #[.int .i64 8, .string p, .string t, .string d, .int .i64 a, .int .i64 z]] W fun e w' => Did W g m R A' e w') :
    Calls Tryz.prog 14 #[.pointer (some ⟨g, 0, none⟩), .agg #[.int .i64 8, .string p, .string t, .string d, .int .i64 a, .int .i64 z]] w fun e w' => Did w g m R A' e w' := by
  obtain ⟨WA, HWA, HRO, HRA, HBA⟩ := op_box w 8 a z p t d
  have H := hid_in h
  have HG := hid_in h.ne1
  have HCK := hid_in (fun W => Nd.check_any ⟨8, p, t, d, a, z⟩ hp ht W)
  simp only [Opn.val] at HCK
  rw [hc] at HCK
  have HD := hid_in hd
  have HDE := hid_in (fun W => deed_8 (.pointer (some ⟨g, 0, none⟩)) W)
  obtain ⟨c0, c1, c2, c3, c4, c5⟩ := op_cells HRO.out (Below.refl _ WA)
  have HK := hid_in (fun W (kb : Below WA.heap.size WA W) => op_cells HRO.out kb)
  obtain ⟨rc, rd, rs, rx, rn⟩ := R
  unfold Did at HD
  simp only [Res.val] at HD
  clear h hc hd
  go_enter Tryz.func14, Tryz.ntmps14
  go_upto_region 1 with fail
  refine wp_world HWA.out ?_
  go_upto_region 6 with (first | (go_at_call 31; refine (HCK.out _).mono ?_; rintro e w1 ⟨rfl, hb1⟩; have HC1 := hid_in hb1; clear hb1))
  obtain ⟨e0, e1, e2, e3, e4, e5⟩ := HK.out _ HC1.out
  clear c0 c1 c2 c3 c4 c5
  have HB1 := hid_in (HBA.out.trans (HC1.out.mono HBA.out.size))
  go_region_with (first | (go_at_call 32; refine (HDE.out _).mono ?_; rintro e w2 ⟨rfl, rfl⟩) | (go_at_call 70; refine (HD.out _ (below_drewN HB1.out 1)).mono ?_; rintro e w3 ⟨v3, rfl, hn3, ⟨L3, hf3, ha3⟩, hg3⟩; obtain ⟨vp, vc, rfl⟩ := hn3.form; have hr3 := Row.map (HRA.out.below (below_drewN HC1.out 1) HRA.out.lt) (H.out.below (below_drewN HB1.out 1)).map hg3; obtain ⟨⟨g0, g1, g2, g3, g4⟩, q0, q1, q2, q3, q4⟩ := res_cells hr3 (Below.refl _ w3); have HR3 := hid_in hr3; have HN3 := hid_in hn3; have HF3 := hid_in hf3; have HA3 := hid_in ha3; have HG3 := hid_in (grown_plus (below_drewN HB1.out 1) hg3); clear hn3 hf3 ha3 hg3 hr3))
  all_goals
    go_wp2
    exact post_Row 4 37 rfl (w.heap.size + 1) rfl 37 [.int .i64 rc, .bool rd, .int .i64 rs, .string rx, .slice vp rn.length vc] (set5_row HR3.out rfl _ _ _ _ _) _ Tryz.underlying37 rfl 5 info37 rfl rfl ⟨_, rfl, nm_set5 HN3.out HR3.out (by decide) _ _ _ _ _, ⟨_, HF3.out.set5 HR3.out (by decide) HG.out _ _ _ _ _, HA3.out⟩, grown_set5 HG3.out (Nat.le_succ _) _ _ _ _ _⟩
end Go.Proofs.YtngehkmdanhgpaaGreat.Pl
namespace Go.Proofs
open Go.Shelf
def Tryz.lays105_ren : Go.Shelf.Ren := ⟨fun | 105 => 94 | 212 => 123 | 99 => 124 | 165 => 118 | 166 => 119 | 170 => 125 | 169 => 120 | 263 => 138 | 264 => 139 | 206 => 140 | 240 => 135 | 241 => 136 | 276 => 145 | 277 => 146 | n => n, fun | 9 => 9 | 3 => 3 | 4 => 4 | 20 => 20 | 0 => 0 | 46 => 102 | 109 => 149 | 5 => 5 | 72 => 142 | 76 => 146 | 51 => 133 | 146 => 163 | 53 => 135 | 148 => 165 | 70 => 139 | 37 => 140 | 75 => 145 | 127 => 162 | 164 => 171 | 80 => 148 | n => n, fun | n => n⟩
theorem Tryz.lays105 : Go.Proofs.Lays.n105 Tryz.prog Tryz.lays105_ren := {
  mixed := by kernel_rfl
  f99 := Tryz.func124.trans (congrArg some (by kernel_rfl))
  f105 := Tryz.func94.trans (congrArg some (by kernel_rfl))
  f165 := Tryz.func118.trans (congrArg some (by kernel_rfl))
  f166 := Tryz.func119.trans (congrArg some (by kernel_rfl))
  f169 := Tryz.func120.trans (congrArg some (by kernel_rfl))
  f170 := Tryz.func125.trans (congrArg some (by kernel_rfl))
  f206 := Tryz.func140.trans (congrArg some (by kernel_rfl))
  f212 := Tryz.func123.trans (congrArg some (by kernel_rfl))
  f240 := Tryz.func135.trans (congrArg some (by kernel_rfl))
  f241 := Tryz.func136.trans (congrArg some (by kernel_rfl))
  f263 := Tryz.func138.trans (congrArg some (by kernel_rfl))
  f264 := Tryz.func139.trans (congrArg some (by kernel_rfl))
  f276 := Tryz.func145.trans (congrArg some (by kernel_rfl))
  f277 := Tryz.func146.trans (congrArg some (by kernel_rfl))
  t0 := Tryz.underlying0
  a0 := Tryz.isAgg0
  z0 := Tryz.sizeOf0
  v0 := Tryz.zeroValue0
  t3 := Tryz.underlying3
  a3 := Tryz.isAgg3
  z3 := Tryz.sizeOf3
  v3 := Tryz.zeroValue3
  t4 := Tryz.underlying4
  a4 := Tryz.isAgg4
  z4 := Tryz.sizeOf4
  v4 := Tryz.zeroValue4
  t5 := Tryz.underlying5
  a5 := Tryz.isAgg5
  z5 := Tryz.sizeOf5
  v5 := Tryz.zeroValue5
  t9 := Tryz.underlying9
  a9 := Tryz.isAgg9
  z9 := Tryz.sizeOf9
  v9 := Tryz.zeroValue9
  t20 := Tryz.underlying20
  a20 := Tryz.isAgg20
  z20 := Tryz.sizeOf20
  v20 := Tryz.zeroValue20
  t37 := Tryz.underlying140
  a37 := Tryz.isAgg140
  z37 := Tryz.sizeOf140
  v37 := Tryz.zeroValue140
  t46 := Tryz.underlying102
  a46 := Tryz.isAgg102
  z46 := Tryz.sizeOf102
  v46 := Tryz.zeroValue102
  t51 := Tryz.underlying133
  a51 := Tryz.isAgg133
  z51 := Tryz.sizeOf133
  v51 := Tryz.zeroValue133
  t53 := Tryz.underlying135
  a53 := Tryz.isAgg135
  z53 := Tryz.sizeOf135
  v53 := Tryz.zeroValue135
  t70 := Tryz.underlying139
  a70 := Tryz.isAgg139
  z70 := Tryz.sizeOf139
  v70 := Tryz.zeroValue139
  t72 := Tryz.underlying142
  a72 := Tryz.isAgg142
  z72 := Tryz.sizeOf142
  v72 := Tryz.zeroValue142
  t75 := Tryz.underlying145
  a75 := Tryz.isAgg145
  z75 := Tryz.sizeOf145
  v75 := Tryz.zeroValue145
  t76 := Tryz.underlying146
  a76 := Tryz.isAgg146
  z76 := Tryz.sizeOf146
  v76 := Tryz.zeroValue146
  t109 := Tryz.underlying149
  a109 := Tryz.isAgg149
  z109 := Tryz.sizeOf149
  v109 := Tryz.zeroValue149
  t127 := Tryz.underlying162
  a127 := Tryz.isAgg162
  z127 := Tryz.sizeOf162
  v127 := Tryz.zeroValue162
  t146 := Tryz.underlying163
  a146 := Tryz.isAgg163
  z146 := Tryz.sizeOf163
  v146 := Tryz.zeroValue163
  t148 := Tryz.underlying165
  a148 := Tryz.isAgg165
  z148 := Tryz.sizeOf165
  v148 := Tryz.zeroValue165
  t164 := Tryz.underlying171
  a164 := Tryz.isAgg171
  z164 := Tryz.sizeOf171
  v164 := Tryz.zeroValue171 }
theorem Tryz.Builder_Extra_105 : Builder.Extra Tryz.prog Tryz.lays105_ren := {
  sizeBuilder := by kernel_rfl
  liesBuilder := by kernel_rfl
  t5 := Tryz.underlying5
  a5 := Tryz.isAgg5
  z5 := Tryz.sizeOf5
  v5 := Tryz.zeroValue5
  infoByte := by kernel_rfl
  cellsByte := by kernel_rfl
  sizeByte := by kernel_rfl
  neB5 := by decide }
open Go.RowKit Go.Lib in
theorem Tryz.strings_Repeat (s : ByteArray) (c : Nat) (w : World) (hc : c ≤ 9223372036854775807) (hlen : s.size * c ≤ 140737488355328) :
    Calls Tryz.prog 94 #[.string s, .int .i64 c] w fun e w' => e = .returned (.string ⟨(Lib.repeatL s.data.toList c).toArray⟩) ∧ Below w.heap.size w w' := Any.strings_Repeat Tryz.lays105 Tryz.Builder_Extra_105 s c w hc hlen
end Go.Proofs
namespace Go.Proofs.YtngehkmdanhgpaaGreat.Pl
open Go.RowKit
open Vp (Str B bl Val cmpL parseS showS splitS withinS IsPath)
open Nd (Row wp_world post_Row post_Row2 grownBy_setCell below_of_grown)
def zerosB (n : Nat) : ByteArray := ⟨(Lib.repeatL [(0 : UInt8)] n).toArray⟩
theorem repeat_zero (n : Nat) (hn : n ≤ 1024) (w : World) : Calls Tryz.prog 94 #[.string ⟨#[0]⟩, .int .i64 (n : Int)] w fun e w' => e = .returned (.string (zerosB n)) ∧ Below w.heap.size w w' := Tryz.strings_Repeat ⟨#[0]⟩ n w (by omega) (by show 1 * n ≤ _; omega)
theorem repeatL_zero : ∀ n : Nat, Lib.repeatL [(0 : UInt8)] n = List.replicate n 0 := by
  intro n
  induction n with
  | zero => rfl
  | succ n ih => rw [Lib.repeatL, ih]; rfl
theorem zerosB_size (n : Nat) : (zerosB n).size = n := by
  unfold zerosB
  rw [repeatL_zero]
  simp [ByteArray.size]
def trD (old : ByteArray) (z : Nat) : ByteArray := old.extract 0 (min z old.size) ++ zerosB (z - min z old.size)
theorem trD_size (old : ByteArray) (z : Nat) : (trD old z).size = z := by
  unfold trD
  simp only [ByteArray.size_append, ByteArray.size_extract, zerosB_size]
  omega
def trE (A : List Ent) (xs : List Str) : Int := (findFA A xs).2
def trS (A : List Ent) (xs : List Str) (z : Nat) : Int := if trE A xs = 0 then (z : Int) else 0
def trA (A : List Ent) (xs : List Str) (z : Nat) : List Ent := if trE A xs = 0 then putA A ⟨xs, false, trD (findFA A xs).1.data z⟩ else A
set_option maxHeartbeats 1000000 in
set_option maxRecDepth 100000 in
theorem truncate_aux {w : World} {g m : Nat} {L : List Spot} (h : Fs w g m L) (hsm : Small (L.map Spot.ent)) (k a : Int) (z : Nat) (zI : Int) (hzI : Hid (zI = (z : Int))) (p t d : ByteArray) (hp : p.size ≤ 9223372036854775807) (hz : z ≤ 1024) :
    Calls Tryz.prog 66 #[.pointer (some ⟨g, 0, none⟩), .agg #[.int .i64 k, .string p, .string t, .string d, .int .i64 a, .int .i64 zI]] w fun e w' => e = .returned (Res.val ⟨trE (L.map Spot.ent) (nmsOf p), false, trS (L.map Spot.ent) (nmsOf p) z, ⟨#[]⟩, .slice none 0 0⟩) ∧ (∃ L', Fs w' g m L' ∧ L'.map Spot.ent = trA (L.map Spot.ent) (nmsOf p) z) ∧ w.grownBy w' (some m) := by
  obtain ⟨WA, HWA, HRO, HRA, HBA⟩ := op_box w k a zI p t d
  have H := hid_in h
  have HG := hid_in h.ne1
  have HFF := hid_in (fun W (kb : Below w.heap.size w W) => findFile_any (h.below kb) p hp)
  have c1 : WA.cell? ⟨w.heap.size, 1, none⟩ = some (.string p) := HRO.out.cell 1
  obtain ⟨qp, qn, qc, hsv⟩ := findF_sf h.map (nmsOf p)
  obtain ⟨hfe, hfx⟩ := findF_ent L (nmsOf p)
  have HE : Hid (trE (L.map Spot.ent) (nmsOf p) = (findF L (nmsOf p)).2) := by
    show _ = _
    unfold trE
    rw [← hfe]
  have HS : Hid (trS (L.map Spot.ent) (nmsOf p) z = if trE (L.map Spot.ent) (nmsOf p) = 0 then (z : Int) else 0) := rfl
  have HA : Hid (trA (L.map Spot.ent) (nmsOf p) z = if trE (L.map Spot.ent) (nmsOf p) = 0 then putA (L.map Spot.ent) ⟨nmsOf p, false, trD (findF L (nmsOf p)).1.data z⟩ else L.map Spot.ent) := by
    show _ = _
    unfold trA
    rw [← hfx]; rfl
  have HOK := hid_in (fun t (e : findF L (nmsOf p) = (t, 0)) => findF_ok e)
  have HSM := hid_in hsm
  generalize trE (L.map Spot.ent) (nmsOf p) = E at *
  generalize trS (L.map Spot.ent) (nmsOf p) z = S at *
  generalize trA (L.map Spot.ent) (nmsOf p) z = A' at *
  generalize findF L (nmsOf p) = r at *
  obtain ⟨⟨sv, sn, sp, sd, sx⟩, e0⟩ := r
  simp only at hsv HE HS HA
  subst hsv
  simp only [Spot.val, Res.val] at HFF ⊢
  have HC4 : Hid ([Value.slice qp qn qc, .string sp, .bool sd, .string sx].length = 4) := rfl
  have HO4 : Hid (∀ v ∈ [Value.slice qp qn qc, .string sp, .bool sd, .string sx], v.oneCell' = true) := by
    intro v hv
    simp only [List.mem_cons, List.not_mem_nil, or_false] at hv
    rcases hv with rfl | rfl | rfl | rfl <;> rfl
  have HREF := hid_in (fun k W => refuse_any k W)
  simp only [Res.err, Res.val] at HREF
  clear h hfe hfx hsm
  go_enter Tryz.func66, Tryz.ntmps66
  go_upto_region 1 with fail
  refine wp_world HWA.out ?_
  go_upto_region 2 with (first | (go_at_call 93; refine (HFF.out _ HBA.out).mono ?_; rintro e w2 ⟨rfl, hb2⟩; have HC2 := hid_in hb2; clear hb2) | (refine Nd.wpList_store_new rfl rfl 63 4 _ _ rfl _ [Value.slice qp qn qc, .string sp, .bool sd, .string sx] info63 rfl HC4 HO4 rfl rfl ?_; intro w3 hr3 hb3 hs3; have HR3 := hid_in hr3; have HC3 := hid_in (HC2.out.trans (hb3.mono HC2.out.size)); clear hr3 hb3 hs3))
  have HB3 := hid_in (HBA.out.trans (HC3.out.mono HBA.out.size))
  have HRO3 := hid_in (HRO.out.below HC3.out HRO.out.lt)
  have HRA3 := hid_in (HRA.out.below HC3.out HRA.out.lt)
  obtain ⟨⟨s0, s1, s2, s3⟩, -⟩ := spot_cells HR3.out (Below.refl _ w3)
  have o5 : w3.cell? ⟨w.heap.size, 5, none⟩ = some (.int .i64 zI) := HRO3.out.cell 5
  have HERR := hid_in (fun W (kb : Below w3.heap.size w3 W) => And.intro (res_cells HRA3.out kb) (And.intro (HRA3.out.below kb HRA3.out.lt) (HB3.out.trans (kb.mono HB3.out.size))))
  by_cases hk : e0 = 0
  · subst hk
    obtain ⟨hok, hnm, hdr⟩ := HOK.out _ rfl
    simp only at hnm hdr
    have hsz : sx.size ≤ 1024 := spot_small HSM.out hok
    have HNM := hid_in (H.out.map.nms _ (List.mem_of_find?_eq_some hok))
    simp only at HNM
    rw [hnm] at HNM
    have HEK : Hid (E = 0) := by show _ = _; rw [HE.out]
    clear hok hnm HOK
    obtain ⟨q, HQ⟩ : ∃ q : Nat, Hid (q = min z sx.size) := ⟨_, hid_in rfl⟩
    have hq1 : q ≤ z := by rw [HQ.out]; omega
    have hq2 : q ≤ sx.size := by rw [HQ.out]; omega
    obtain ⟨qI, HQI⟩ : ∃ qI : Int, Hid ((q : Int) = qI) := ⟨_, hid_in rfl⟩
    have hm1 : ∀ W, (Builtin.min_ #[3, 3] 3 #[.int .i64 zI, .int .i64 (sx.size : Int)]).run Tryz.prog W = .ok (.int .i64 qI) W := by
      rw [hzI.out, ← HQI.out]
      by_cases h3 : z ≤ sx.size
      · have e : q = z := by rw [HQ.out]; omega
        rw [e]; exact fun W => min_le _ _ (by omega) 3 W
      · have e : q = sx.size := by rw [HQ.out]; omega
        rw [e]; exact fun W => min_gt _ _ (by omega) 3 W
    have hs1 := str_to sx qI (by rw [← HQI.out]; omega) (by rw [← HQI.out]; omega)
    have ht2 : qI.toNat = q := by rw [← HQI.out]; omega
    rw [ht2] at hs1
    have HX0 : Hid ((sx.extract 0 q).size = q) := by show _ = _; rw [ByteArray.size_extract]; omega
    have HWD : Hid (sx.extract 0 q ++ zerosB (z - q) = trD sx z) := by
      show _ = _
      unfold trD
      rw [HQ.out]
    obtain ⟨X, HX⟩ : ∃ X, Hid (sx.extract 0 q = X) := ⟨_, hid_in rfl⟩
    rw [HX.out] at hs1 HX0 HWD
    obtain ⟨n, HN⟩ : ∃ n, Hid (z - q = n) := ⟨_, hid_in rfl⟩
    rw [HN.out] at HWD
    have hxI : (X.size : Int) = qI := by rw [HX0.out]; exact HQI.out
    have HREP := hid_in (fun W => repeat_zero n (by have := HN.out; omega) W)
    obtain ⟨nI, HNI⟩ : ∃ nI : Int, Hid ((n : Int) = nI) := ⟨_, hid_in rfl⟩
    rw [HNI.out] at HREP
    have hsub : zI - qI = nI := by have h1 := HN.out; have h2 := HNI.out; have h3 := HQI.out; have h4 := hzI.out; omega
    have hnr : 0 ≤ nI ∧ nI ≤ 1024 := by have h1 := HN.out; have h2 := HNI.out; omega
    have hw1 : wrap64 (zI - qI) = nI := by rw [hsub]; unfold wrap64; omega
    have hw2 : IntKind.i64.wrap (zI - qI) = nI := by rw [hsub, IntKind.wrap_i64]; omega
    have hA2 := str_add X (zerosB n) (by rw [HX0.out, zerosB_size]; have := HN.out; omega)
    obtain ⟨Z, HZ⟩ : ∃ Z, Hid (zerosB n = Z) := ⟨_, hid_in rfl⟩
    rw [HZ.out] at HREP hA2 HWD
    clear hA2
    have hzZ : (Z.size : Int) = nI := by rw [← HZ.out, zerosB_size]; exact HNI.out
    have hsm1 : ¬ (9223372036854775807 < qI + nI) := by have h1 := HN.out; have h2 := HNI.out; have h3 := HQI.out; omega
    have HPUT := hid_in (fun W (k : Below w.heap.size w W) => put_any (H.out.below k) (HNM.out.below k) (gp_nms p) false (X ++ Z))
    clear ht2 hq1 hq2 hsub hnr
    go_upto_region 6 with fail
    go_region_with (first | (go_at_call 94; refine (HREP.out _).mono ?_; rintro e w4 ⟨rfl, hb4⟩; have hc4 := (below_drew w3).trans (hb4.mono (below_drew w3).size); obtain ⟨⟨u0, u1, u2, u3⟩, -⟩ := spot_cells HR3.out hc4; have o5' : w4.cell? ⟨w.heap.size, 5, none⟩ = some (.int .i64 zI) := (HRO3.out.below hc4 HRO3.out.lt).cell 5; have HC4 := hid_in hc4; have HB4 := hid_in (HB3.out.trans (hc4.mono HB3.out.size)); clear hb4 hc4) | (go_at_call 25; refine (HPUT.out _ HB4.out).mono ?_; rintro e w5 ⟨rfl, hf5, hg5⟩; have hmp := (H.out.below HB4.out).map; have hr5 := Row.map (HRA3.out.below HC4.out HRA3.out.lt) hmp hg5; have hro5 := Row.map (HRO3.out.below HC4.out HRO3.out.lt) hmp hg5; obtain ⟨⟨g0, g1, g2, g3, g4⟩, q0, q1, q2, q3, q4⟩ := res_cells hr5 (Below.refl _ w5); have p5 : w5.cell? ⟨w.heap.size, 5, none⟩ = some (.int .i64 zI) := hro5.cell 5; have HR5 := hid_in hr5; have HF5 := hid_in hf5; have HG5 := hid_in (grown_plus HB4.out hg5); clear hf5 hg5 hr5 hro5 hmp))
    all_goals
      go_wp2
      refine post_Row 4 37 rfl (w.heap.size + 1) rfl 37 [.int .i64 0, .bool false, .int .i64 zI, .string ⟨#[]⟩, .slice none 0 0] (set5_row HR5.out rfl _ _ _ _ _) _ Tryz.underlying37 rfl 5 info37 rfl rfl ⟨?_, ⟨_, HF5.out.set5 HR5.out (by decide) HG.out _ _ _ _ _, ?_⟩, grown_set5 HG5.out (Nat.le_succ _) _ _ _ _ _⟩
      · rw [HS.out, HEK.out, if_pos rfl, hzI.out]
      · rw [HA.out, HEK.out, if_pos rfl, putP_ent, ← HWD.out]; rfl
  · have hk2 : (e0 != 0) = true := by simpa using hk
    have HK0 := hid_in hk
    clear hk
    go_wp2_with (first | (go_at_call 30; refine (HREF.out _ _).mono ?_; rintro e w5 ⟨rfl, hb5⟩; obtain ⟨⟨⟨g0, g1, g2, g3, g4⟩, q0, q1, q2, q3, q4⟩, hr5, hb5'⟩ := HERR.out _ hb5; have HR5 := hid_in hr5; have HB5 := hid_in hb5'; clear hb5 hr5 hb5'))
    refine post_err H.out HR5.out HB5.out e0 _ rfl rfl rfl fun W' hf hg => ⟨?_, ⟨L, hf, ?_⟩, hg⟩
    · rw [HS.out, HE.out, if_neg HK0.out]; rfl
    · rw [HA.out, HE.out, if_neg HK0.out]
theorem truncate_any {w : World} {g m : Nat} {L : List Spot} (h : Fs w g m L) (hsm : Small (L.map Spot.ent)) (k a : Int) (z : Nat) (p t d : ByteArray) (hp : p.size ≤ 9223372036854775807) (hz : z ≤ 1024) :
    Calls Tryz.prog 66 #[.pointer (some ⟨g, 0, none⟩), .agg #[.int .i64 k, .string p, .string t, .string d, .int .i64 a, .int .i64 (z : Int)]] w fun e w' => e = .returned (Res.val ⟨trE (L.map Spot.ent) (nmsOf p), false, trS (L.map Spot.ent) (nmsOf p) z, ⟨#[]⟩, .slice none 0 0⟩) ∧ (∃ L', Fs w' g m L' ∧ L'.map Spot.ent = trA (L.map Spot.ent) (nmsOf p) z) ∧ w.grownBy w' (some m) := truncate_aux h hsm k a z _ rfl p t d hp hz
end Go.Proofs.YtngehkmdanhgpaaGreat.Pl
namespace Go.Proofs.YtngehkmdanhgpaaGreat.Pl
open Go.RowKit
open Vp (Str B bl Val cmpL parseS showS splitS withinS IsPath)
open Nd (Row wp_world post_Row post_Row2 grownBy_setCell below_of_grown Opn checkS)
theorem do_create {w : World} {g m : Nat} {L : List Spot} (h : Fs w g m L) (a z : Int) (p t d : ByteArray) (hp : p.size ≤ 9223372036854775807) (ht : t.size ≤ 9223372036854775807) (hc : checkS ⟨2, p, t, d, a, z⟩ = 0) :
    Calls Tryz.prog 14 #[.pointer (some ⟨g, 0, none⟩), .agg #[.int .i64 2, .string p, .string t, .string d, .int .i64 a, .int .i64 z]] w fun e w' => Did w g m (RA.err (addE (L.map Spot.ent) (nmsOf p))) (addA (L.map Spot.ent) (nmsOf p) false) e w' :=
  do_2 h a z p t d hp ht hc _ _ fun _W k => (create_any (h.below k) 2 a z p t d hp).mono fun _e _w' hh => ⟨_, hh.1, nm_nil _, hh.2.1, hh.2.2⟩
theorem do_write {w : World} {g m : Nat} {L : List Spot} (h : Fs w g m L) (hsm : Small (L.map Spot.ent)) (z : Int) (a : Nat) (p t d : ByteArray) (hp : p.size ≤ 9223372036854775807) (ht : t.size ≤ 9223372036854775807) (hc : checkS ⟨3, p, t, d, a, z⟩ = 0) (ha : a ≤ 1024) (hd : d.size ≤ 1024) :
    Calls Tryz.prog 14 #[.pointer (some ⟨g, 0, none⟩), .agg #[.int .i64 3, .string p, .string t, .string d, .int .i64 (a : Int), .int .i64 z]] w fun e w' => Did w g m ⟨wrE (L.map Spot.ent) (nmsOf p) a d, false, wrS (L.map Spot.ent) (nmsOf p) a d, ⟨#[]⟩, []⟩ (wrA (L.map Spot.ent) (nmsOf p) a d) e w' :=
  do_3 h a z p t d hp ht hc _ _ fun _W k => (write_any (h.below k) hsm 3 z a p t d hp ha hd).mono fun _e _w' hh => ⟨_, hh.1, nm_nil _, hh.2.1, hh.2.2⟩
theorem do_trunc {w : World} {g m : Nat} {L : List Spot} (h : Fs w g m L) (hsm : Small (L.map Spot.ent)) (a : Int) (z : Nat) (p t d : ByteArray) (hp : p.size ≤ 9223372036854775807) (ht : t.size ≤ 9223372036854775807) (hc : checkS ⟨4, p, t, d, a, z⟩ = 0) (hz : z ≤ 1024) :
    Calls Tryz.prog 14 #[.pointer (some ⟨g, 0, none⟩), .agg #[.int .i64 4, .string p, .string t, .string d, .int .i64 a, .int .i64 (z : Int)]] w fun e w' => Did w g m ⟨trE (L.map Spot.ent) (nmsOf p), false, trS (L.map Spot.ent) (nmsOf p) z, ⟨#[]⟩, []⟩ (trA (L.map Spot.ent) (nmsOf p) z) e w' :=
  do_4 h a z p t d hp ht hc _ _ fun _W k => (truncate_any (h.below k) hsm 4 a z p t d hp hz).mono fun _e _w' hh => ⟨_, hh.1, nm_nil _, hh.2.1, hh.2.2⟩
theorem do_read {w : World} {g m : Nat} {L : List Spot} (h : Fs w g m L) (a z : Nat) (p t d : ByteArray) (hp : p.size ≤ 9223372036854775807) (ht : t.size ≤ 9223372036854775807) (hc : checkS ⟨8, p, t, d, a, z⟩ = 0) (ha : a ≤ 1024) (hz : z ≤ 1024) :
    Calls Tryz.prog 14 #[.pointer (some ⟨g, 0, none⟩), .agg #[.int .i64 8, .string p, .string t, .string d, .int .i64 (a : Int), .int .i64 (z : Int)]] w fun e w' => Did w g m ⟨rdE (L.map Spot.ent) (nmsOf p) a, false, rdS (L.map Spot.ent) (nmsOf p) a, rdB (L.map Spot.ent) (nmsOf p) a z, []⟩ (L.map Spot.ent) e w' :=
  do_8 h a z p t d hp ht hc _ _ fun _W k => (read_any (h.below k) 8 a z p t d hp ha hz).mono fun _e _w' hh => ⟨_, hh.1, nm_nil _, ⟨L, hh.2.1, rfl⟩, below_but m hh.2.2⟩
theorem do_rmdir {w : World} {g m : Nat} {L : List Spot} (h : Fs w g m L) (hn : L.length ≤ 100000) (a z : Int) (p t d : ByteArray) (hp : p.size ≤ 9223372036854775807) (ht : t.size ≤ 9223372036854775807) (hc : checkS ⟨6, p, t, d, a, z⟩ = 0) :
    Calls Tryz.prog 14 #[.pointer (some ⟨g, 0, none⟩), .agg #[.int .i64 6, .string p, .string t, .string d, .int .i64 a, .int .i64 z]] w fun e w' => Did w g m (RA.err (rmE (L.map Spot.ent) (nmsOf p))) (rmA (L.map Spot.ent) (nmsOf p)) e w' :=
  do_6 h a z p t d hp ht hc _ _ fun _W k => (rmdir_any (h.below k) hn 6 a z p t d hp).mono fun _e _w' hh => ⟨_, hh.1, nm_nil _, hh.2.1, hh.2.2⟩
/-- what awake makes -/
def pA : ByteArray := ⟨#[47, 97]⟩
def pAF : ByteArray := ⟨#[47, 97, 47, 102]⟩
def aw0 : List Ent := newA [⟨pA, true, ⟨#[]⟩⟩]
def aw1 : List Ent := addA aw0 (nmsOf pAF) false
def aw2 : List Ent := wrA aw1 (nmsOf pAF) 0 ⟨#[104, 105]⟩
theorem aw_new : newE [⟨pA, true, ⟨#[]⟩⟩] = 0 := by decide +kernel
theorem aw_c1 : checkS ⟨2, pAF, ⟨#[]⟩, ⟨#[]⟩, 0, 0⟩ = 0 := by decide +kernel
theorem aw_c2 : checkS ⟨3, pAF, ⟨#[]⟩, ⟨#[104, 105]⟩, 0, 0⟩ = 0 := by decide +kernel
theorem aw_c3 : checkS ⟨8, pAF, ⟨#[]⟩, ⟨#[]⟩, 1, 9⟩ = 0 := by decide +kernel
theorem aw_c4 : checkS ⟨6, pA, ⟨#[]⟩, ⟨#[]⟩, 0, 0⟩ = 0 := by decide +kernel
theorem aw_e1 : addE aw0 (nmsOf pAF) = 0 := by decide +kernel
theorem aw_e2 : wrE aw1 (nmsOf pAF) 0 ⟨#[104, 105]⟩ = 0 ∧ wrS aw1 (nmsOf pAF) 0 ⟨#[104, 105]⟩ = 2 := by decide +kernel
theorem aw_e3 : rdE aw2 (nmsOf pAF) 1 = 0 ∧ rdS aw2 (nmsOf pAF) 1 = 2 ∧ rdB aw2 (nmsOf pAF) 1 9 = ⟨#[105]⟩ := by decide +kernel
theorem aw_e4 : rmE aw2 (nmsOf pA) = 130 := by decide +kernel
theorem aw_s1 : ∀ e ∈ aw1, e.data.size ≤ 1024 := by decide +kernel
theorem aw_l2 : aw2.length ≤ 100000 := by decide +kernel
end Go.Proofs.YtngehkmdanhgpaaGreat.Pl
