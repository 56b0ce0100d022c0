/-
  The walk of op.Check: where just the fields are set that the kind names. The walk of the reference's Check: it answers what Check is said to answer. The walk of awake: answers that the document fixes. The walk of the reference's Decode. Encode and Decode, each told in one form; the walk of the statement OpBytes. What is read as a result; the names that are read one behind the other. A result's bytes mean it alone. Plain numbers, no program in it.
-/
import Derived.Laws.CopyOwn
import Derived.Deep.RegionLaw
import Derived.Deep.DrawnRows
import Derived.Test.YtjlhjpooggkkoaaRows
import Derived.OwnWalk
import Derived.Laws.Tables
import Derived.Deep.CutRange
import Derived.Test.YtjlhjpooggkkoaaR00
import Derived.Test.YtjlhjpooggkkoaaR01
import Derived.Test.YtjlhjpooggkkoaaR02
import Derived.Test.YtjlhjpooggkkoaaR03
import Derived.Test.YtjlhjpooggkkoaaR04
import Derived.Test.YtjlhjpooggkkoaaR05
import Derived.Test.YtjlhjpooggkkoaaR06
import Derived.Test.YtjlhjpooggkkoaaR07
namespace Go.Proofs.Ytjlhjpooggkkoaa.Nd
open Go.RowKit
theorem Says.isNo {e : Ending} {P : Prop} (h : Says e P) (hp : ¬ P) : e = .returned (.bool false) := by
  rcases h.cases with ⟨_, h2⟩ | ⟨h1, _⟩
  · exact absurd h2 hp
  · exact h1
theorem Says.isYes {e : Ending} {P : Prop} (h : Says e P) (hp : P) : e = .returned (.bool true) := by
  rcases h.cases with ⟨h1, _⟩ | ⟨_, h2⟩
  · exact h1
  · exact absurd hp h2
set_option maxHeartbeats 4000000 in
set_option maxRecDepth 100000 in
theorem check_nums (o : Opn) (hk : 1 ≤ o.kind ∧ o.kind ≤ 11) (hn : namedS o = o) (hno : ¬ numsOk o.kind o.at_ o.size) (w : World) : Calls Try.prog 10 #[o.val] w fun e w' => e = .returned (.int .i64 1) ∧ Below w.heap.size w w' := by
  have HNM := hid_in (fun W => named_any o hk W)
  rw [hn] at HNM
  have hne := neq_no o
  have hws := word_some hk
  have HAN := hid_in (fun W => areNumbers_any o.kind o.path o.dest o.data o.at_ o.size W)
  have HNO := hid_in hno
  clear hno
  obtain ⟨k, p, t, d, a, z⟩ := o
  simp only [Opn.val] at *
  obtain ⟨W0, H0, HR0, HB0, HZ0⟩ := op_row w k a z p t d
  have c0 : W0.cell? ⟨w.heap.size, 0, none⟩ = some (.int .i64 k) := HR0.out.cell 0
  have c1 : W0.cell? ⟨w.heap.size, 1, none⟩ = some (.string p) := HR0.out.cell 1
  have c2 : W0.cell? ⟨w.heap.size, 2, none⟩ = some (.string t) := HR0.out.cell 2
  have c3 : W0.cell? ⟨w.heap.size, 3, none⟩ = some (.string d) := HR0.out.cell 3
  have c4 : W0.cell? ⟨w.heap.size, 4, none⟩ = some (.int .i64 a) := HR0.out.cell 4
  have c5 : W0.cell? ⟨w.heap.size, 5, none⟩ = some (.int .i64 z) := HR0.out.cell 5
  obtain ⟨WD, HWD⟩ : ∃ WD, Hid (wordOf k = WD) := ⟨_, rfl⟩
  have HW := hid_in (fun W => word_any k W)
  rw [HWD.out] at HW hws
  have hw1 : WD.toList.isEmpty = false := by
    rw [List.isEmpty_eq_false_iff]; exact fun e => hws (toL_inj (b := ⟨#[]⟩) (e.trans (by rw [Lib.toList_data])))
  clear hws HWD hk hn
  go_enter Try.func10, Try.ntmps10
  go_upto_region 1 with fail
  refine wp_world H0.out ?_
  clear H0
  go_upto_region 3 with (first | (go_at_call 12; refine (HW.out _).mono ?_; rintro e w1 ⟨rfl, rfl⟩))
  go_region_with (first | (go_at_call 25; refine (HNM.out _).mono ?_; rintro e w6 ⟨rfl, hb6⟩; have HB6 := hid_in (((Below.refl w1.heap.size w1).drew).trans (hb6.mono (by simp))); have hr6 := HR0.out.below HB6.out HR0.out.lt; have d0 : w6.cell? ⟨w.heap.size, 0, none⟩ = some (.int .i64 k) := hr6.cell 0; have d1 : w6.cell? ⟨w.heap.size, 1, none⟩ = some (.string p) := hr6.cell 1; have d2 : w6.cell? ⟨w.heap.size, 2, none⟩ = some (.string t) := hr6.cell 2; have d3 : w6.cell? ⟨w.heap.size, 3, none⟩ = some (.string d) := hr6.cell 3; have d4 : w6.cell? ⟨w.heap.size, 4, none⟩ = some (.int .i64 a) := hr6.cell 4; have d5 : w6.cell? ⟨w.heap.size, 5, none⟩ = some (.int .i64 z) := hr6.cell 5; clear hb6 hr6) | (go_at_call 26; refine (HAN.out _).mono ?_; rintro e w7 ⟨hs, hb7⟩; obtain rfl := hs.isNo HNO.out; have HB7 := hid_in (HB6.out.trans (hb7.mono HB6.out.size)); have hr6 := HR0.out.below HB7.out HR0.out.lt; have f0 : w7.cell? ⟨w.heap.size, 0, none⟩ = some (.int .i64 k) := hr6.cell 0; have f1 : w7.cell? ⟨w.heap.size, 1, none⟩ = some (.string p) := hr6.cell 1; have f2 : w7.cell? ⟨w.heap.size, 2, none⟩ = some (.string t) := hr6.cell 2; have f3 : w7.cell? ⟨w.heap.size, 3, none⟩ = some (.string d) := hr6.cell 3; have f4 : w7.cell? ⟨w.heap.size, 4, none⟩ = some (.int .i64 a) := hr6.cell 4; have f5 : w7.cell? ⟨w.heap.size, 5, none⟩ = some (.int .i64 z) := hr6.cell 5; clear hb7 hr6 hs))
  all_goals
    go_wp2_with fail
    go_ret
    exact ⟨rfl, HB0.out.trans (HB7.out.mono HB0.out.size)⟩
set_option maxHeartbeats 4000000 in
set_option maxRecDepth 100000 in
theorem check_data (o : Opn) (hk : 1 ≤ o.kind ∧ o.kind ≤ 11) (hn : namedS o = o) (hno : numsOk o.kind o.at_ o.size) (hd : 1024 < o.data.size) (w : World) : Calls Try.prog 10 #[o.val] w fun e w' => e = .returned (.int .i64 134) ∧ Below w.heap.size w w' := by
  have HNM := hid_in (fun W => named_any o hk W)
  rw [hn] at HNM
  have hne := neq_no o
  have hws := word_some hk
  have HAN := hid_in (fun W => areNumbers_any o.kind o.path o.dest o.data o.at_ o.size W)
  have HNO := hid_in hno
  have k1 : (1024 : Int) < (o.data.size : Int) := by omega
  clear hno hd
  obtain ⟨k, p, t, d, a, z⟩ := o
  simp only [Opn.val] at *
  obtain ⟨W0, H0, HR0, HB0, HZ0⟩ := op_row w k a z p t d
  have c0 : W0.cell? ⟨w.heap.size, 0, none⟩ = some (.int .i64 k) := HR0.out.cell 0
  have c1 : W0.cell? ⟨w.heap.size, 1, none⟩ = some (.string p) := HR0.out.cell 1
  have c2 : W0.cell? ⟨w.heap.size, 2, none⟩ = some (.string t) := HR0.out.cell 2
  have c3 : W0.cell? ⟨w.heap.size, 3, none⟩ = some (.string d) := HR0.out.cell 3
  have c4 : W0.cell? ⟨w.heap.size, 4, none⟩ = some (.int .i64 a) := HR0.out.cell 4
  have c5 : W0.cell? ⟨w.heap.size, 5, none⟩ = some (.int .i64 z) := HR0.out.cell 5
  obtain ⟨WD, HWD⟩ : ∃ WD, Hid (wordOf k = WD) := ⟨_, rfl⟩
  have HW := hid_in (fun W => word_any k W)
  rw [HWD.out] at HW hws
  have hw1 : WD.toList.isEmpty = false := by
    rw [List.isEmpty_eq_false_iff]; exact fun e => hws (toL_inj (b := ⟨#[]⟩) (e.trans (by rw [Lib.toList_data])))
  clear hws HWD hk hn
  go_enter Try.func10, Try.ntmps10
  go_upto_region 1 with fail
  refine wp_world H0.out ?_
  clear H0
  go_upto_region 3 with (first | (go_at_call 12; refine (HW.out _).mono ?_; rintro e w1 ⟨rfl, rfl⟩))
  go_region_with (first | (go_at_call 25; refine (HNM.out _).mono ?_; rintro e w6 ⟨rfl, hb6⟩; have HB6 := hid_in (((Below.refl w1.heap.size w1).drew).trans (hb6.mono (by simp))); have hr6 := HR0.out.below HB6.out HR0.out.lt; have d0 : w6.cell? ⟨w.heap.size, 0, none⟩ = some (.int .i64 k) := hr6.cell 0; have d1 : w6.cell? ⟨w.heap.size, 1, none⟩ = some (.string p) := hr6.cell 1; have d2 : w6.cell? ⟨w.heap.size, 2, none⟩ = some (.string t) := hr6.cell 2; have d3 : w6.cell? ⟨w.heap.size, 3, none⟩ = some (.string d) := hr6.cell 3; have d4 : w6.cell? ⟨w.heap.size, 4, none⟩ = some (.int .i64 a) := hr6.cell 4; have d5 : w6.cell? ⟨w.heap.size, 5, none⟩ = some (.int .i64 z) := hr6.cell 5; clear hb6 hr6) | (go_at_call 26; refine (HAN.out _).mono ?_; rintro e w7 ⟨hs, hb7⟩; obtain rfl := hs.isYes HNO.out; have HB7 := hid_in (HB6.out.trans (hb7.mono HB6.out.size)); have hr6 := HR0.out.below HB7.out HR0.out.lt; have f0 : w7.cell? ⟨w.heap.size, 0, none⟩ = some (.int .i64 k) := hr6.cell 0; have f1 : w7.cell? ⟨w.heap.size, 1, none⟩ = some (.string p) := hr6.cell 1; have f2 : w7.cell? ⟨w.heap.size, 2, none⟩ = some (.string t) := hr6.cell 2; have f3 : w7.cell? ⟨w.heap.size, 3, none⟩ = some (.string d) := hr6.cell 3; have f4 : w7.cell? ⟨w.heap.size, 4, none⟩ = some (.int .i64 a) := hr6.cell 4; have f5 : w7.cell? ⟨w.heap.size, 5, none⟩ = some (.int .i64 z) := hr6.cell 5; clear hb7 hr6 hs))
  all_goals
    go_wp2_with fail
    go_ret
    exact ⟨rfl, HB0.out.trans (HB7.out.mono HB0.out.size)⟩
set_option maxHeartbeats 4000000 in
set_option maxRecDepth 100000 in
theorem check_at (o : Opn) (hk : 1 ≤ o.kind ∧ o.kind ≤ 11) (hn : namedS o = o) (hno : numsOk o.kind o.at_ o.size) (hd : o.data.size ≤ 1024) (ha : 1024 < o.at_) (w : World) : Calls Try.prog 10 #[o.val] w fun e w' => e = .returned (.int .i64 134) ∧ Below w.heap.size w w' := by
  have HNM := hid_in (fun W => named_any o hk W)
  rw [hn] at HNM
  have hne := neq_no o
  have hws := word_some hk
  have HAN := hid_in (fun W => areNumbers_any o.kind o.path o.dest o.data o.at_ o.size W)
  have HNO := hid_in hno
  have k1 : ¬ ((1024 : Int) < (o.data.size : Int)) := by omega
  clear hno hd
  obtain ⟨k, p, t, d, a, z⟩ := o
  simp only [Opn.val] at *
  obtain ⟨W0, H0, HR0, HB0, HZ0⟩ := op_row w k a z p t d
  have c0 : W0.cell? ⟨w.heap.size, 0, none⟩ = some (.int .i64 k) := HR0.out.cell 0
  have c1 : W0.cell? ⟨w.heap.size, 1, none⟩ = some (.string p) := HR0.out.cell 1
  have c2 : W0.cell? ⟨w.heap.size, 2, none⟩ = some (.string t) := HR0.out.cell 2
  have c3 : W0.cell? ⟨w.heap.size, 3, none⟩ = some (.string d) := HR0.out.cell 3
  have c4 : W0.cell? ⟨w.heap.size, 4, none⟩ = some (.int .i64 a) := HR0.out.cell 4
  have c5 : W0.cell? ⟨w.heap.size, 5, none⟩ = some (.int .i64 z) := HR0.out.cell 5
  obtain ⟨WD, HWD⟩ : ∃ WD, Hid (wordOf k = WD) := ⟨_, rfl⟩
  have HW := hid_in (fun W => word_any k W)
  rw [HWD.out] at HW hws
  have hw1 : WD.toList.isEmpty = false := by
    rw [List.isEmpty_eq_false_iff]; exact fun e => hws (toL_inj (b := ⟨#[]⟩) (e.trans (by rw [Lib.toList_data])))
  clear hws HWD hk hn
  go_enter Try.func10, Try.ntmps10
  go_upto_region 1 with fail
  refine wp_world H0.out ?_
  clear H0
  go_upto_region 3 with (first | (go_at_call 12; refine (HW.out _).mono ?_; rintro e w1 ⟨rfl, rfl⟩))
  go_region_with (first | (go_at_call 25; refine (HNM.out _).mono ?_; rintro e w6 ⟨rfl, hb6⟩; have HB6 := hid_in (((Below.refl w1.heap.size w1).drew).trans (hb6.mono (by simp))); have hr6 := HR0.out.below HB6.out HR0.out.lt; have d0 : w6.cell? ⟨w.heap.size, 0, none⟩ = some (.int .i64 k) := hr6.cell 0; have d1 : w6.cell? ⟨w.heap.size, 1, none⟩ = some (.string p) := hr6.cell 1; have d2 : w6.cell? ⟨w.heap.size, 2, none⟩ = some (.string t) := hr6.cell 2; have d3 : w6.cell? ⟨w.heap.size, 3, none⟩ = some (.string d) := hr6.cell 3; have d4 : w6.cell? ⟨w.heap.size, 4, none⟩ = some (.int .i64 a) := hr6.cell 4; have d5 : w6.cell? ⟨w.heap.size, 5, none⟩ = some (.int .i64 z) := hr6.cell 5; clear hb6 hr6) | (go_at_call 26; refine (HAN.out _).mono ?_; rintro e w7 ⟨hs, hb7⟩; obtain rfl := hs.isYes HNO.out; have HB7 := hid_in (HB6.out.trans (hb7.mono HB6.out.size)); have hr6 := HR0.out.below HB7.out HR0.out.lt; have f0 : w7.cell? ⟨w.heap.size, 0, none⟩ = some (.int .i64 k) := hr6.cell 0; have f1 : w7.cell? ⟨w.heap.size, 1, none⟩ = some (.string p) := hr6.cell 1; have f2 : w7.cell? ⟨w.heap.size, 2, none⟩ = some (.string t) := hr6.cell 2; have f3 : w7.cell? ⟨w.heap.size, 3, none⟩ = some (.string d) := hr6.cell 3; have f4 : w7.cell? ⟨w.heap.size, 4, none⟩ = some (.int .i64 a) := hr6.cell 4; have f5 : w7.cell? ⟨w.heap.size, 5, none⟩ = some (.int .i64 z) := hr6.cell 5; clear hb7 hr6 hs))
  all_goals
    go_wp2_with fail
    go_ret
    exact ⟨rfl, HB0.out.trans (HB7.out.mono HB0.out.size)⟩
set_option maxHeartbeats 4000000 in
set_option maxRecDepth 100000 in
theorem check_size (o : Opn) (hk : 1 ≤ o.kind ∧ o.kind ≤ 11) (hn : namedS o = o) (hno : numsOk o.kind o.at_ o.size) (hd : o.data.size ≤ 1024) (ha : o.at_ ≤ 1024) (hz : 1024 < o.size) (w : World) : Calls Try.prog 10 #[o.val] w fun e w' => e = .returned (.int .i64 134) ∧ Below w.heap.size w w' := by
  have HNM := hid_in (fun W => named_any o hk W)
  rw [hn] at HNM
  have hne := neq_no o
  have hws := word_some hk
  have HAN := hid_in (fun W => areNumbers_any o.kind o.path o.dest o.data o.at_ o.size W)
  have HNO := hid_in hno
  have k1 : ¬ ((1024 : Int) < (o.data.size : Int)) := by omega
  have k2 : ¬ (1024 < o.at_) := by omega
  clear hno hd ha
  obtain ⟨k, p, t, d, a, z⟩ := o
  simp only [Opn.val] at *
  obtain ⟨W0, H0, HR0, HB0, HZ0⟩ := op_row w k a z p t d
  have c0 : W0.cell? ⟨w.heap.size, 0, none⟩ = some (.int .i64 k) := HR0.out.cell 0
  have c1 : W0.cell? ⟨w.heap.size, 1, none⟩ = some (.string p) := HR0.out.cell 1
  have c2 : W0.cell? ⟨w.heap.size, 2, none⟩ = some (.string t) := HR0.out.cell 2
  have c3 : W0.cell? ⟨w.heap.size, 3, none⟩ = some (.string d) := HR0.out.cell 3
  have c4 : W0.cell? ⟨w.heap.size, 4, none⟩ = some (.int .i64 a) := HR0.out.cell 4
  have c5 : W0.cell? ⟨w.heap.size, 5, none⟩ = some (.int .i64 z) := HR0.out.cell 5
  obtain ⟨WD, HWD⟩ : ∃ WD, Hid (wordOf k = WD) := ⟨_, rfl⟩
  have HW := hid_in (fun W => word_any k W)
  rw [HWD.out] at HW hws
  have hw1 : WD.toList.isEmpty = false := by
    rw [List.isEmpty_eq_false_iff]; exact fun e => hws (toL_inj (b := ⟨#[]⟩) (e.trans (by rw [Lib.toList_data])))
  clear hws HWD hk hn
  go_enter Try.func10, Try.ntmps10
  go_upto_region 1 with fail
  refine wp_world H0.out ?_
  clear H0
  go_upto_region 3 with (first | (go_at_call 12; refine (HW.out _).mono ?_; rintro e w1 ⟨rfl, rfl⟩))
  go_region_with (first | (go_at_call 25; refine (HNM.out _).mono ?_; rintro e w6 ⟨rfl, hb6⟩; have HB6 := hid_in (((Below.refl w1.heap.size w1).drew).trans (hb6.mono (by simp))); have hr6 := HR0.out.below HB6.out HR0.out.lt; have d0 : w6.cell? ⟨w.heap.size, 0, none⟩ = some (.int .i64 k) := hr6.cell 0; have d1 : w6.cell? ⟨w.heap.size, 1, none⟩ = some (.string p) := hr6.cell 1; have d2 : w6.cell? ⟨w.heap.size, 2, none⟩ = some (.string t) := hr6.cell 2; have d3 : w6.cell? ⟨w.heap.size, 3, none⟩ = some (.string d) := hr6.cell 3; have d4 : w6.cell? ⟨w.heap.size, 4, none⟩ = some (.int .i64 a) := hr6.cell 4; have d5 : w6.cell? ⟨w.heap.size, 5, none⟩ = some (.int .i64 z) := hr6.cell 5; clear hb6 hr6) | (go_at_call 26; refine (HAN.out _).mono ?_; rintro e w7 ⟨hs, hb7⟩; obtain rfl := hs.isYes HNO.out; have HB7 := hid_in (HB6.out.trans (hb7.mono HB6.out.size)); have hr6 := HR0.out.below HB7.out HR0.out.lt; have f0 : w7.cell? ⟨w.heap.size, 0, none⟩ = some (.int .i64 k) := hr6.cell 0; have f1 : w7.cell? ⟨w.heap.size, 1, none⟩ = some (.string p) := hr6.cell 1; have f2 : w7.cell? ⟨w.heap.size, 2, none⟩ = some (.string t) := hr6.cell 2; have f3 : w7.cell? ⟨w.heap.size, 3, none⟩ = some (.string d) := hr6.cell 3; have f4 : w7.cell? ⟨w.heap.size, 4, none⟩ = some (.int .i64 a) := hr6.cell 4; have f5 : w7.cell? ⟨w.heap.size, 5, none⟩ = some (.int .i64 z) := hr6.cell 5; clear hb7 hr6 hs))
  all_goals
    go_wp2_with fail
    go_ret
    exact ⟨rfl, HB0.out.trans (HB7.out.mono HB0.out.size)⟩
set_option maxHeartbeats 4000000 in
set_option maxRecDepth 100000 in
theorem check_paths (o : Opn) (hk : 1 ≤ o.kind ∧ o.kind ≤ 11) (hn : namedS o = o) (hno : numsOk o.kind o.at_ o.size) (hd : o.data.size ≤ 1024) (ha : o.at_ ≤ 1024) (hz : o.size ≤ 1024) (hp : o.path.size ≤ 9223372036854775807) (ht : o.dest.size ≤ 9223372036854775807) (w : World) : Calls Try.prog 10 #[o.val] w fun e w' => e = .returned (.int .i64 (pathsS o.kind o.path o.dest)) ∧ Below w.heap.size w w' := by
  have HNM := hid_in (fun W => named_any o hk W)
  rw [hn] at HNM
  have hne := neq_no o
  have hws := word_some hk
  have HAN := hid_in (fun W => areNumbers_any o.kind o.path o.dest o.data o.at_ o.size W)
  have HNO := hid_in hno
  have HCP := hid_in (fun W => checkPaths_any o.kind o.path o.dest o.data o.at_ o.size W hp ht)
  obtain ⟨pe, HPE⟩ : ∃ pe, Hid (pathsS o.kind o.path o.dest = pe) := ⟨_, rfl⟩
  rw [HPE.out] at HCP ⊢
  have k1 : ¬ ((1024 : Int) < (o.data.size : Int)) := by omega
  have k2 : ¬ (1024 < o.at_) := by omega
  have k3 : ¬ (1024 < o.size) := by omega
  clear hno hd ha hz hp ht HPE
  obtain ⟨k, p, t, d, a, z⟩ := o
  simp only [Opn.val] at *
  obtain ⟨W0, H0, HR0, HB0, HZ0⟩ := op_row w k a z p t d
  have c0 : W0.cell? ⟨w.heap.size, 0, none⟩ = some (.int .i64 k) := HR0.out.cell 0
  have c1 : W0.cell? ⟨w.heap.size, 1, none⟩ = some (.string p) := HR0.out.cell 1
  have c2 : W0.cell? ⟨w.heap.size, 2, none⟩ = some (.string t) := HR0.out.cell 2
  have c3 : W0.cell? ⟨w.heap.size, 3, none⟩ = some (.string d) := HR0.out.cell 3
  have c4 : W0.cell? ⟨w.heap.size, 4, none⟩ = some (.int .i64 a) := HR0.out.cell 4
  have c5 : W0.cell? ⟨w.heap.size, 5, none⟩ = some (.int .i64 z) := HR0.out.cell 5
  obtain ⟨WD, HWD⟩ : ∃ WD, Hid (wordOf k = WD) := ⟨_, rfl⟩
  have HW := hid_in (fun W => word_any k W)
  rw [HWD.out] at HW hws
  have hw1 : WD.toList.isEmpty = false := by
    rw [List.isEmpty_eq_false_iff]; exact fun e => hws (toL_inj (b := ⟨#[]⟩) (e.trans (by rw [Lib.toList_data])))
  clear hws HWD hk hn
  go_enter Try.func10, Try.ntmps10
  go_upto_region 1 with fail
  refine wp_world H0.out ?_
  clear H0
  go_upto_region 3 with (first | (go_at_call 12; refine (HW.out _).mono ?_; rintro e w1 ⟨rfl, rfl⟩))
  go_region_with (first | (go_at_call 25; refine (HNM.out _).mono ?_; rintro e w6 ⟨rfl, hb6⟩; have HB6 := hid_in (((Below.refl w1.heap.size w1).drew).trans (hb6.mono (by simp))); have hr6 := HR0.out.below HB6.out HR0.out.lt; have d0 : w6.cell? ⟨w.heap.size, 0, none⟩ = some (.int .i64 k) := hr6.cell 0; have d1 : w6.cell? ⟨w.heap.size, 1, none⟩ = some (.string p) := hr6.cell 1; have d2 : w6.cell? ⟨w.heap.size, 2, none⟩ = some (.string t) := hr6.cell 2; have d3 : w6.cell? ⟨w.heap.size, 3, none⟩ = some (.string d) := hr6.cell 3; have d4 : w6.cell? ⟨w.heap.size, 4, none⟩ = some (.int .i64 a) := hr6.cell 4; have d5 : w6.cell? ⟨w.heap.size, 5, none⟩ = some (.int .i64 z) := hr6.cell 5; clear hb6 hr6) | (go_at_call 26; refine (HAN.out _).mono ?_; rintro e w7 ⟨hs, hb7⟩; obtain rfl := hs.isYes HNO.out; have HB7 := hid_in (HB6.out.trans (hb7.mono HB6.out.size)); have hr6 := HR0.out.below HB7.out HR0.out.lt; have f0 : w7.cell? ⟨w.heap.size, 0, none⟩ = some (.int .i64 k) := hr6.cell 0; have f1 : w7.cell? ⟨w.heap.size, 1, none⟩ = some (.string p) := hr6.cell 1; have f2 : w7.cell? ⟨w.heap.size, 2, none⟩ = some (.string t) := hr6.cell 2; have f3 : w7.cell? ⟨w.heap.size, 3, none⟩ = some (.string d) := hr6.cell 3; have f4 : w7.cell? ⟨w.heap.size, 4, none⟩ = some (.int .i64 a) := hr6.cell 4; have f5 : w7.cell? ⟨w.heap.size, 5, none⟩ = some (.int .i64 z) := hr6.cell 5; clear hb7 hr6 hs))
  all_goals
    go_wp2_with (first | (go_at_call 27; refine (HCP.out _).mono ?_; rintro e w8 ⟨rfl, hb8⟩; have HB8 := hid_in (HB7.out.trans (hb8.mono HB7.out.size)); clear hb8))
    go_ret
    exact ⟨rfl, HB0.out.trans (HB8.out.mono HB0.out.size)⟩
theorem check_any (o : Opn) (hp : o.path.size ≤ 9223372036854775807) (ht : o.dest.size ≤ 9223372036854775807) (w : World) : Calls Try.prog 10 #[o.val] w fun e w' => e = .returned (.int .i64 (checkS o)) ∧ Below w.heap.size w w' := by
  unfold checkS
  split
  · exact check_kind o (by assumption) w
  · rename_i hk
    have hk := Decidable.not_not.1 hk
    split
    · rename_i h
      by_cases hn : namedS o = o
      · exact check_nums o hk hn (by rcases h with h | h; exact absurd hn h; exact h) w
      · exact check_arg o hk hn w
    · rename_i h
      have hn : namedS o = o := Decidable.not_not.1 fun e => h (.inl e)
      have hno : numsOk o.kind o.at_ o.size := Decidable.not_not.1 fun e => h (.inr e)
      split
      · rename_i hb
        by_cases h1 : 1024 < o.data.size
        · exact check_data o hk hn hno h1 w
        · by_cases h2 : 1024 < o.at_
          · exact check_at o hk hn hno (by omega) h2 w
          · exact check_size o hk hn hno (by omega) (by omega) (by omega) w
      · rename_i hb
        exact check_paths o hk hn hno (by omega) (by omega) (by omega) hp ht w
end Go.Proofs.Ytjlhjpooggkkoaa.Nd
namespace Go.Proofs.Ytjlhjpooggkkoaa.Nd
open Go.RowKit
theorem checkS_ok {o : Opn} (hk : 1 ≤ o.kind ∧ o.kind ≤ 11) (h1 : namedS o = o) (h2 : numsOk o.kind o.at_ o.size) (h : ¬ (1024 < o.data.size ∨ 1024 < o.at_ ∨ 1024 < o.size)) : checkS o = pathsS o.kind o.path o.dest := by
  unfold checkS; rw [if_neg (by omega), if_neg (by rintro (h | h); exact h h1; exact h h2), if_neg h]
end Go.Proofs.Ytjlhjpooggkkoaa.Nd
namespace Go.Proofs.Ytjlhjpooggkkoaa.Nd
open Go.RowKit
def oA : Opn := ⟨1, ⟨#[47, 97]⟩, ⟨#[]⟩, ⟨#[]⟩, 0, 0⟩
def oZ : Opn := ⟨12, ⟨#[]⟩, ⟨#[]⟩, ⟨#[]⟩, 0, 0⟩
theorem oA_ok : oA.ok := by
  refine ⟨?_, ?_, ?_, ?_, ?_, ?_⟩ <;> simp [oA, i64r] <;> decide
theorem oA_short : oA.short := by unfold Opn.short oA; decide
theorem oA_enc : encO oA = [2, 2, 47, 97, 0, 0, 0, 0] := by decide +kernel
theorem perrA : perr ⟨#[47, 97]⟩ = 0 := by decide +kernel
theorem oA_check : checkS oA = 0 := by
  rw [checkS_ok (by decide) (by simp [namedS, oA]) (.inr (by decide)) (by decide)]
  simp [pathsS, oA, perrA]
theorem oZ_check : checkS oZ = 100 := by unfold checkS; rw [if_pos (by decide)]
set_option maxHeartbeats 2000000 in
set_option maxRecDepth 100000 in
theorem awakeO_any (w : World) : Calls Try.prog 9 #[] w fun e w' => e = .returned (.bool true) ∧ Below w.heap.size w w' := by
  have HE := hid_in (encode_ok oA oA_ok oA_short w)
  rw [oA_enc] at HE
  have HC := hid_in (fun W => check_any oA (by decide) (by decide) W)
  rw [oA_check] at HC
  have HZ := hid_in (fun W => check_any oZ (by decide) (by decide) W)
  rw [oZ_check] at HZ
  have HW := hid_in (fun W => word_any 7 W)
  rw [show wordOf 7 = ⟨#[114, 101, 110, 97, 109, 101]⟩ from rfl] at HW
  simp only [Opn.val, oA, oZ] at HE HC HZ
  go_enter Try.func9, Try.ntmps9
  go_wp2_with (first | (go_at_call 16; refine HE.out.mono ?_; rintro e w1 ⟨⟨u1, rfl, ho1⟩, hb1⟩; obtain ⟨p1, c1, b1, rfl, hs1, _⟩ := own_sl (xs := [2, 2, 47, 97, 0, 0, 0, 0]) (by decide) ho1; have hcv : (convert 32 9 (.slice p1 8 c1)).run Try.prog w1 = .ok (.string ⟨#[2, 2, 47, 97, 0, 0, 0, 0]⟩) w1 := conv_sl hs1; have HB1 := hid_in hb1; clear ho1 hb1 hs1) | (go_at_call 10; refine (HC.out _).mono ?_; rintro e w2 ⟨rfl, hb2⟩; have HB2 := hid_in (HB1.out.trans (hb2.mono HB1.out.size)); clear hb2 HC) | (go_at_call 10; have hx := HB2.out; refine (HZ.out _).mono ?_; rintro e w3 ⟨rfl, hb3⟩; have HB3 := hid_in (HB2.out.trans (hb3.mono HB2.out.size)); clear hb3 hx) | (go_at_call 12; refine (HW.out _).mono ?_; rintro e w4 ⟨rfl, rfl⟩))
  go_ret
  exact ⟨rfl, HB3.out⟩
end Go.Proofs.Ytjlhjpooggkkoaa.Nd
namespace Go.Proofs.Ytjlhjpooggkkoaa.Nd
open Go.RowKit
/-- under way in the reference: what is read so far lies at G -/
structure RV (w : World) (g G : Nat) (cs : List Value) (s : Sta) (W : World) : Prop where
  ri : RI w.heap.size W g s
  row : Row W G cs 23
  z : Row W w.heap.size [.int .i64 0, .string ⟨#[]⟩, .string ⟨#[]⟩, .string ⟨#[]⟩, .int .i64 0, .int .i64 0] 23
  below : Below w.heap.size w W
  gs : w.heap.size < g ∧ g < G
theorem RV.read {w : World} {g G : Nat} {cs : List Value} {s s' : Sta} {W W' : World} (h : RV w g G cs s W) (hi : RI w.heap.size W' g s') (hg : Grew W W' (· = g)) : RV w g G cs s' W' :=
  ⟨hi, h.row.grew hg (by have := h.gs; omega), h.z.grew hg (by have := h.gs; omega), hg.below h.below h.below.size (fun k hk => by have := h.gs; omega), h.gs⟩
theorem RV.put {w : World} {g G : Nat} {cs : List Value} {s : Sta} {W : World} (h : RV w g G cs s W) (i : Nat) (v : Value) : RV w g G (cs.set i v) s (W.setCell ⟨G, i, none⟩ v) := by
  have hg := grownBy_setCell W ⟨G, i, none⟩ v
  have hb : Below G W (W.setCell ⟨G, i, none⟩ v) := (Below.refl _ _).grown hg (Nat.le_of_lt h.row.lt) (fun k e => by cases e; exact Nat.le_refl _)
  have h1 := h.gs
  exact ⟨h.ri.belowM hb h1.2 (by omega), h.row.set_same i v, h.z.set_other ⟨G, i, none⟩ v (by show _ ≠ G; omega), h.below.trans (hb.mono (by omega)), h1⟩
theorem RV.drew {w : World} {g G : Nat} {cs : List Value} {s : Sta} {W : World} (h : RV w g G cs s W) : RV w g G cs s W.drew := by
  have hb : Below W.heap.size W W.drew := (Below.refl _ _).drew
  exact ⟨h.ri.belowM hb h.ri.blk h.below.size, h.row.drew, h.z.drew, h.below.drew, h.gs⟩
theorem RI.at2 {B : Nat} {w : World} {g : Nat} {l : List Nat} {e : Nat} (h : RI B w g (l, e)) : w.cell? ⟨g, 2, none⟩ = some (.int .i64 (e : Int)) := by
  obtain ⟨bs, k, h, _⟩ := h
  obtain ⟨_, _, _, _, hr, _⟩ := h.ex
  exact hr.cell 2
end Go.Proofs.Ytjlhjpooggkkoaa.Nd
namespace Go.Proofs.Ytjlhjpooggkkoaa.Nd
open Go.RowKit
/-- a slice of bytes that is answered -/
def Byt (w : World) (v : Value) (xs : List Nat) : Prop := ∃ p c b, v = .slice p xs.length c ∧ Sl w p xs c b 0 ∧ (p = none → xs.length = 0 ∧ c = 0)
theorem Byt.below {w w' : World} {v : Value} {xs : List Nat} (h : Byt w v xs) (hb : Below w.heap.size w w') : Byt w' v xs := by
  obtain ⟨p, c, b, rfl, hs, hn⟩ := h
  exact ⟨p, c, b, rfl, hs.below hb, hn⟩
theorem Byt.conv {w : World} {v : Value} {xs : List Nat} (h : Byt w v xs) : (convert 32 9 v).run Try.prog w = .ok (.string (str xs)) w := by
  obtain ⟨p, c, b, rfl, hs, hn⟩ := h
  exact conv_sl hs
theorem Byt.nil (w : World) : Byt w (.slice none 0 0) [] := ⟨none, 0, 0, rfl, ⟨by simp, by simp, by omega, fun h => by simp at h, fun j hj => by simp at hj⟩, fun _ => ⟨rfl, rfl⟩⟩
theorem own_byt {w : World} {B : Nat} {v : Value} {xs : List Nat} (hlt : ∀ x ∈ xs, x < 256) (h : w.ownsRow B 5 1 v xs.length (xs.map u8v)) : Byt w v xs := by
  obtain ⟨p, c, b, rfl, hs, hn⟩ := own_sl hlt h
  exact ⟨p, c, b, rfl, hs, hn⟩
end Go.Proofs.Ytjlhjpooggkkoaa.Nd
namespace Go.Proofs.Ytjlhjpooggkkoaa.Nd
open Go.RowKit
def sTexts : Nat → Sta → List ByteArray × Sta
  | 0, s => ([], s)
  | c + 1, s => ((sTexts c s).1 ++ [str (sText 1100 (sTexts c s).2).1], (sText 1100 (sTexts c s).2).2)
theorem sTexts_length (c : Nat) (s : Sta) : (sTexts c s).1.length = c := by
  induction c with
  | zero => rfl
  | succ c ih => simp [sTexts, ih]
/-- what is read as a result, ahead of its names: the number of names, and what is left -/
def rdP (s : Sta) : (Int × Bool × Int × ByteArray) × Nat × Sta :=
  let a := sInt s
  let b := sFlag a.2
  let c := sInt b.2
  let d := sText 1100 c.2
  let n := sNum d.2
  ((a.1, b.1, c.1, str d.1), n.1, n.2)
/-- the result that bytes mean, and whether they mean one -/
def rdR (bs : List Nat) : Res × Sta := (⟨(rdP (bs, 0)).1.1, (rdP (bs, 0)).1.2.1, (rdP (bs, 0)).1.2.2.1, (rdP (bs, 0)).1.2.2.2, (sTexts (rdP (bs, 0)).2.1 (rdP (bs, 0)).2.2).1⟩, (sTexts (rdP (bs, 0)).2.1 (rdP (bs, 0)).2.2).2)
def okR (bs : List Nat) : Prop := (rdP (bs, 0)).2.1 ≤ 512 ∧ (rdR bs).2 = ([], 0)
def zR : List Value := [.int .i64 0, .bool false, .int .i64 0, .string ⟨#[]⟩, .slice none 0 0]
theorem info42 : (Try.prog.info? 42).map (·.size) = some 5 := by kernel_rfl
theorem info9t : (Try.prog.info? 9).map (fun i => (i.zero, i.size, i.bytes)) = some (some (.string ByteArray.empty), 1, 16) := by kernel_rfl
theorem info9h : ∃ i, Hid (Try.prog.info? 9 = some i) ∧ Hid (i.zero = some (.string ByteArray.empty)) ∧ Hid (i.size = 1) ∧ Hid (i.bytes = 16) := by
  obtain ⟨i, h1, h2⟩ := Option.map_eq_some_iff.1 info9t
  simp only [Prod.mk.injEq] at h2
  exact ⟨i, h1, h2.1, h2.2.1, h2.2.2⟩
theorem slice40 (s : ByteArray) (w : World) : (Instr.buildSlice 40 1 #[(0, .string s)]).run Try.prog w = .ok (.slice (some ⟨w.heap.size, 0, none⟩) 1 1) (w.alloc (.cells #[.string s] 9)) := by
  go_simp
/-- what hangs on blocks below base alone, and not on G -/
def KeepI (I : World → Sta → Prop) (base G : Nat) : Prop := ∀ (W W' : World) (s : Sta), I W s → (∀ q, q < base → q ≠ G → W'.heap[q]? = W.heap[q]?) → I W' s
/-- behind j names -/
structure UV (I : World → Sta → Prop) (w : World) (G base : Nat) (c0 c1 c2 c3 : Value) (s0 : Sta) (j : Nat) (W : World) : Prop where
  row : ∃ vp, Row W G [c0, c1, c2, c3, vp] 42 ∧ W.ownsRow base 9 1 vp j ((sTexts j s0).1.map Value.string)
  ri : I W (sTexts j s0).2
  z : Row W w.heap.size zR 42
  below : Below w.heap.size w W
  size : base ≤ W.heap.size
theorem UV.step {I : World → Sta → Prop} {w : World} {g G base : Nat} {c0 c1 c2 c3 : Value} {s0 : Sta} {j : Nat} {W : World} (hK : KeepI I base G) (hgs : w.heap.size < g ∧ g < G ∧ G < base)
    (h : UV I w G base c0 c1 c2 c3 s0 j W) {w6 w9 : World} {vp v9 : Value} {s : ByteArray} (hs : str (sText 1100 (sTexts j s0).2).1 = s) {XS : List Value} (hXS : (sTexts j s0).1.map Value.string = XS)
    (hi6 : I w6 (sText 1100 (sTexts j s0).2).2) (hg6 : Grew W.drew w6 (· = g)) (hr6 : Row w6 G [c0, c1, c2, c3, vp] 42) (ho6 : w6.ownsRow base 9 1 vp j XS)
    (hg9 : (w6.alloc (.cells #[.string s] 9)).grownBy w9 vp.ownBlock) (ho9 : w9.ownsRow base 9 1 v9 (j + 1) (XS ++ [.string s])) :
    UV I w G base c0 c1 c2 c3 s0 (j + 1) (w9.setCell ⟨G, 4, none⟩ v9) := by
  have hsz6 : base ≤ w6.heap.size := Nat.le_trans h.size hg6.size
  have hoA := ho6.alloc (.cells #[.string s] 9)
  have hbA : Below w6.heap.size w6 (w6.alloc (.cells #[.string s] 9)) := (Below.refl _ _).alloc (Nat.le_refl _) _
  have hsA : base ≤ (w6.alloc (.cells #[.string s] 9)).heap.size := Nat.le_trans hsz6 hbA.size
  have hb9 : Below base (w6.alloc (.cells #[.string s] 9)) w9 := (Below.refl _ _).grown hg9 hsA (fun k e => (own_geK hoA k e).1)
  have h69 : Below base w6 w9 := (hbA.mono hsz6).trans hb9
  have hgS := grownBy_setCell w9 ⟨G, 4, none⟩ v9
  have hblk : ∀ q, q < base → q ≠ G → (w9.setCell ⟨G, 4, none⟩ v9).heap[q]? = w6.heap[q]? := fun q hq hne => by
    rw [hgS.block q (by have := h69.size; omega) (by simpa using hne)]
    exact h69.block q hq
  have hz6 : Row w6 w.heap.size zR 42 := h.z.drew.grew hg6 (by show ¬ w.heap.size = g; omega)
  have hb6 : Below w.heap.size w w6 := hg6.below h.below.drew h.below.size (fun k hk => by have hk' : k = g := hk; omega)
  refine ⟨⟨v9, ?_, ?_⟩, hK _ _ (sTexts (j + 1) s0).2 hi6 hblk, hz6.of_block (hblk _ (by omega) (by omega)), ?_, ?_⟩
  · exact (hr6.of_block (h69.block G hgs.2.2)).set_same 4 v9
  · have e : ((sTexts (j + 1) s0).1.map Value.string) = XS ++ [.string s] := by simp [sTexts, hs, hXS]
    rw [e]
    exact own_grewK ho9 (grew_of_grownS hgS) (fun q hq e => by have h1 := (own_geK ho9 q hq).1; have h2 : q = G := e; omega)
  · exact (hb6.trans (h69.mono (by omega))).grown hgS (by have := h69.size; have := hb6.size; omega) (fun k e => by cases e; show w.heap.size ≤ G; omega)
  · simp [World.setCell]
    have := h69.size
    omega
theorem keep_in {B g base G : Nat} (hg : g < base) (hgG : g ≠ G) (hB : B ≤ G) (hG : G ≤ base) : KeepI (fun W s => In B W g s) base G := fun W W' s h hq => by
  obtain ⟨p, cap, b, off, hr, hsl, hno, hne⟩ := InIs.ex h
  refine ⟨p, cap, b, off, hr.of_block (hq g hg hgG), ⟨hsl.lt, hsl.cap1, hsl.cap2, hsl.at_, fun j hj => ?_⟩, hno, hne⟩
  have hb := (hne (by omega)).2
  rw [World.cell?_of_block (a := ⟨b, off + j, none⟩) (hq b (by omega) (by omega))]
  exact hsl.src j hj
theorem keep_ri {B g base G : Nat} (hg : g < base) (hgG : g ≠ G) (hB : B ≤ G) (hG : G ≤ base) : KeepI (fun W s => RI B W g s) base G := fun W W' s h hq => by
  obtain ⟨bs, k, h, hd⟩ := h
  obtain ⟨p, cap, b, off, hr, hsl, hne⟩ := h.ex
  refine ⟨bs, k, ⟨⟨p, cap, b, off, hr.of_block (hq g hg hgG), ⟨hsl.lt, hsl.cap1, hsl.cap2, hsl.at_, fun j hj => ?_⟩, hne⟩, h.le⟩, hd⟩
  have hb := (hne (by omega)).2
  rw [World.cell?_of_block (a := ⟨b, off + j, none⟩) (hq b (by omega) (by omega))]
  exact hsl.src j hj
theorem In.drew1 {B : Nat} {w : World} {g : Nat} {s : Sta} (h : In B w g s) : In B w.drew g s := InIs.below h ((Below.refl _ _).drew)
theorem RI.drew1 {B : Nat} {w : World} {g : Nat} {s : Sta} (h : RI B w g s) : RI B w.drew g s := by
  obtain ⟨bs, k, h, hd⟩ := h
  exact ⟨bs, k, h.drew, hd⟩
end Go.Proofs.Ytjlhjpooggkkoaa.Nd
namespace Go.Proofs.Ytjlhjpooggkkoaa.Nd
open Go.RowKit
theorem sFlag_flag (f : Bool) (r : List Nat) : sFlag ([if f then 1 else 0] ++ r, 0) = (f, (r, 0)) := by
  cases f <;> simp [sFlag, Wire.rflag]
theorem sFlag_inv {s : Sta} (h : (sFlag s).2.2 = 0) : s.2 = 0 ∧ s.1 = [if (sFlag s).1 then 1 else 0] ++ (sFlag s).2.1 := by
  obtain ⟨l, e⟩ := s
  unfold sFlag at h ⊢
  by_cases he : e = 0
  · subst he
    simp only [if_true] at h ⊢
    cases l with
    | nil => simp [Wire.rflag] at h
    | cons c r =>
      simp only [Wire.rflag] at h ⊢
      by_cases hc : 1 < c
      · rw [if_pos hc] at h
        simp at h
      · refine ⟨trivial, ?_⟩
        rcases (show c = 0 ∨ c = 1 by omega) with rfl | rfl <;> simp
  · simp only [if_neg he] at h
    exact absurd h he
theorem sFlag_ok {s : Sta} (h : okS s) : okS (sFlag s).2 := by
  obtain ⟨l, e⟩ := s
  unfold sFlag
  split
  · cases l with
    | nil => exact okS_nil rfl
    | cons c r =>
      simp only [Wire.rflag]
      split
      · exact okS_nil rfl
      · exact okS_drop h 1 rfl
  · exact h
theorem sTexts_ok (c : Nat) {s : Sta} (h : okS s) : okS (sTexts c s).2 := by
  induction c with
  | zero => exact h
  | succ c ih => exact sText_ok 1100 ih
theorem sTexts_texts (ns : List ByteArray) (h : shortS ns) (r : List Nat) : ∀ c, c ≤ ns.length → sTexts c (ns.flatMap textB ++ r, 0) = (ns.take c, ((ns.drop c).flatMap textB ++ r, 0)) := by
  intro c
  induction c with
  | zero => intro _; rfl
  | succ c ih =>
    intro hc
    have hlt : c < ns.length := by omega
    simp only [sTexts]
    rw [ih (by omega), List.drop_eq_getElem_cons hlt]
    simp only [List.flatMap_cons, List.append_assoc]
    have ht := sText_text 1100 ns[c] ((ns.drop (c + 1)).flatMap textB ++ r) (h _ (List.getElem_mem hlt)) (by decide)
    unfold textB at ht ⊢
    simp only [List.append_assoc] at ht ⊢
    rw [ht]
    simp only [str_bytesS]
    rw [List.take_add_one, List.getElem?_eq_getElem hlt]
    rfl
theorem sTexts_inv (c : Nat) {s : Sta} (hs : okS s) (h : (sTexts c s).2.2 = 0) : s.2 = 0 ∧ s.1 = (sTexts c s).1.flatMap textB ++ (sTexts c s).2.1 ∧ shortS (sTexts c s).1 := by
  induction c with
  | zero => exact ⟨h, by simp [sTexts], fun x hx => by simp [sTexts] at hx⟩
  | succ c ih =>
    obtain ⟨h1, h2, h3⟩ := text_inv (m := 1100) (sTexts_ok c hs) h
    obtain ⟨h4, h5, h6⟩ := ih h1
    refine ⟨h4, ?_, ?_⟩
    · simp only [sTexts, List.flatMap_append, List.flatMap_cons, List.flatMap_nil, List.append_nil]
      rw [h5]
      conv => lhs; rw [h2]
      unfold textB
      simp
    · intro x hx
      simp only [sTexts, List.mem_append, List.mem_singleton] at hx
      rcases hx with hx | rfl
      · exact h6 x hx
      · exact h3
theorem rdP_pre {r : Res} (hok : r.ok) (hd : r.data.size ≤ 1100) (hn : r.names.length ≤ 512) (x : List Nat) : rdP (preR r ++ x, 0) = ((r.code, r.dir, r.size, r.data), r.names.length, (x, 0)) := by
  have e : preR r ++ x = Wire.num (Wire.zz r.code) ++ ([if r.dir then 1 else 0] ++ (Wire.num (Wire.zz r.size) ++ (Wire.num r.data.size ++ bytesS r.data ++ (Wire.num r.names.length ++ x)))) := by
    simp [preR]
  rw [e]
  unfold rdP
  simp only [sInt_int _ hok.code, sFlag_flag, sInt_int _ hok.size, sText_text 1100 _ _ hd (by decide), sNum_num _ _ (show r.names.length < 18446744073709551616 by omega), str_bytesS]
theorem rdR_enc {r : Res} (hok : r.ok) (hs : r.short) (hn : r.names.length ≤ 512) : okR (encR r) ∧ rdR (encR r) = (r, ([], 0)) := by
  have h1 := rdP_pre hok hs.1 hn (r.names.flatMap textB)
  have h2 := sTexts_texts r.names hs.2 [] r.names.length (Nat.le_refl _)
  have h3 : rdR (encR r) = (r, ([], 0)) := by
    unfold rdR encR
    rw [h1]
    simp only
    rw [List.append_nil] at h2
    rw [h2]
    simp
  refine ⟨⟨?_, by rw [h3]⟩, h3⟩
  unfold encR
  rw [h1]
  exact hn
theorem enc_rdR {bs : List Nat} (hlt : ∀ x ∈ bs, x < 256) (h : okR bs) : encR (rdR bs).1 = bs ∧ (rdR bs).1.ok ∧ (rdR bs).1.short ∧ (rdR bs).1.names.length ≤ 512 := by
  have o0 : okS (bs, 0) := hlt
  obtain ⟨a1, s1, E1⟩ : ∃ a s, sInt (bs, 0) = (a, s) := ⟨_, _, rfl⟩
  obtain ⟨f2, s2, E2⟩ : ∃ a s, sFlag s1 = (a, s) := ⟨_, _, rfl⟩
  obtain ⟨a3, s3, E3⟩ : ∃ a s, sInt s2 = (a, s) := ⟨_, _, rfl⟩
  obtain ⟨y4, s4, E4⟩ : ∃ a s, sText 1100 s3 = (a, s) := ⟨_, _, rfl⟩
  obtain ⟨N, s5, E5⟩ : ∃ a s, sNum s4 = (a, s) := ⟨_, _, rfl⟩
  have R : rdP (bs, 0) = ((a1, f2, a3, str y4), N, s5) := by simp only [rdP, E1, E2, E3, E4, E5]
  have RR : rdR bs = (⟨a1, f2, a3, str y4, (sTexts N s5).1⟩, (sTexts N s5).2) := by simp only [rdR, R]
  obtain ⟨hN, hE⟩ := h
  rw [R] at hN
  rw [RR] at hE ⊢
  simp only at hN hE ⊢
  have o1 : okS s1 := by have := sInt_ok o0; rw [E1] at this; exact this
  have o2 : okS s2 := by have := sFlag_ok o1; rw [E2] at this; exact this
  have o3 : okS s3 := by have := sInt_ok o2; rw [E3] at this; exact this
  have o4 : okS s4 := by have := sText_ok 1100 o3; rw [E4] at this; exact this
  have o5 : okS s5 := by have := sNum_ok o4; rw [E5] at this; exact this
  obtain ⟨p6, q6, r6⟩ := sTexts_inv N o5 (by rw [hE])
  obtain ⟨p5, q5, r5⟩ := sNum_inv o4 (by rw [E5]; exact p6)
  obtain ⟨p4, q4, r4⟩ := text_inv (m := 1100) o3 (by rw [E4]; exact p5)
  obtain ⟨p3, q3, r3⟩ := sInt_inv o2 (by rw [E3]; exact p4)
  obtain ⟨p2, q2⟩ := sFlag_inv (s := s1) (by rw [E2]; exact p3)
  obtain ⟨p1, q1, r1⟩ := sInt_inv o0 (by rw [E1]; exact p2)
  rw [E1] at q1 r1
  rw [E2] at q2
  rw [E3] at q3 r3
  rw [E4] at q4 r4
  rw [E5] at q5
  rw [hE] at q6
  simp only at q1 q2 q3 q4 q5 q6 r1 r3 r4
  have hl := sTexts_length N s5
  refine ⟨?_, ⟨r1, r3, by show (str y4).size ≤ _; omega, fun s hs => by have := r6 s hs; omega⟩, ⟨r4, r6⟩, by rw [hl]; exact hN⟩
  rw [q1, q2, q3, q4, q5, q6]
  simp [encR, preR, hl]
theorem preR_lt {r : Res} (hok : r.ok) (hd : r.data.size ≤ 1100) (hn : r.names.length ≤ 512) : ∀ x ∈ preR r, x < 256 := by
  have z1 := zz_lt r.code hok.code.1 hok.code.2
  have z2 := zz_lt r.size hok.size.1 hok.size.2
  unfold preR
  refine app_lt (app_lt (app_lt (app_lt (num_lt _ z1) ?_) (num_lt _ z2)) (app_lt (num_lt _ (by omega)) (bytesS_lt _))) (num_lt _ (by omega))
  cases r.dir <;> decide
theorem encR_lt {r : Res} (hok : r.ok) (hs : r.short) (hn : r.names.length ≤ 512) : ∀ x ∈ encR r, x < 256 := by
  unfold encR
  refine app_lt (preR_lt hok hs.1 hn) ?_
  intro x hx
  obtain ⟨s, h1, h2⟩ := List.mem_flatMap.1 hx
  have h3 := hs.2 s h1
  exact app_lt (num_lt _ (by omega)) (bytesS_lt s) x h2
end Go.Proofs.Ytjlhjpooggkkoaa.Nd
