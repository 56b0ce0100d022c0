/-
  The walk of the reference's Check, leaf by leaf.
-/
import Derived.Lib.SlBytesConst
import Derived.Laws.CopyOwn
import Derived.Deep.RegionLaw
import Derived.Deep.DrawnRows
import Derived.Lib.AppendZeros
import Derived.Laws.Tables
import Derived.Test.YtngehkmdanhgpaaGreatQ00
import Derived.Test.YtngehkmdanhgpaaGreatQ01
import Derived.Test.YtngehkmdanhgpaaGreatQ02
import Derived.Test.YtngehkmdanhgpaaGreatQ03
import Derived.Test.YtngehkmdanhgpaaGreatQ04
import Derived.Test.YtngehkmdanhgpaaGreatQ05
import Derived.Test.YtngehkmdanhgpaaGreatQ06
import Derived.Test.YtngehkmdanhgpaaGreatQ07
import Derived.Test.YtngehkmdanhgpaaGreatQ08
import Derived.Test.YtngehkmdanhgpaaGreatQ19
namespace Go.Proofs.YtngehkmdanhgpaaGreat.Nd
open Go.RowKit
set_option maxHeartbeats 4000000 in
set_option maxRecDepth 100000 in
theorem rc_7a (p t d : ByteArray) (a z : Int) (h_d : d ≠ ⟨#[]⟩) (w : World) : Calls Tryz.prog 33 #[.agg #[.int .i64 7, .string p, .string t, .string d, .int .i64 a, .int .i64 z]] w fun e w' => e = .returned (.int .i64 (1)) ∧ Below w.heap.size w w' := by
  have n_d : d.toList.isEmpty = false := by
    rw [List.isEmpty_eq_false_iff]; exact fun e => h_d (toL_inj (b := ⟨#[]⟩) (e.trans (by rw [Lib.toList_data])))
  obtain ⟨W0, H0, HR0, HB0, HZ0⟩ := op_row w (7) (a) (z) p t d
  have c0 : W0.cell? ⟨w.heap.size, 0, none⟩ = some (.int .i64 (7)) := HR0.out.cell 0
  have c1 : W0.cell? ⟨w.heap.size, 1, none⟩ = some (.string p) := HR0.out.cell 1
  have c2 : W0.cell? ⟨w.heap.size, 2, none⟩ = some (.string t) := HR0.out.cell 2
  have c3 : W0.cell? ⟨w.heap.size, 3, none⟩ = some (.string d) := HR0.out.cell 3
  have c4 : W0.cell? ⟨w.heap.size, 4, none⟩ = some (.int .i64 (a)) := HR0.out.cell 4
  have c5 : W0.cell? ⟨w.heap.size, 5, none⟩ = some (.int .i64 (z)) := HR0.out.cell 5
  go_enter Tryz.func33, Tryz.ntmps33
  go_upto_region 1 with fail
  refine wp_world H0.out ?_
  clear H0
  go_wp2
  go_ret
  exact ⟨rfl, HB0.out⟩
set_option maxHeartbeats 4000000 in
set_option maxRecDepth 100000 in
theorem rc_7b (p t : ByteArray) (a z : Int) (h_a : a ≠ 0) (w : World) : Calls Tryz.prog 33 #[.agg #[.int .i64 7, .string p, .string t, .string ⟨#[]⟩, .int .i64 a, .int .i64 z]] w fun e w' => e = .returned (.int .i64 (1)) ∧ Below w.heap.size w w' := by
  have q1_a : (a != 0) = true := bne_iff_ne.2 h_a
  have q2_a : (a == 0) = false := beq_eq_false_iff_ne.2 h_a
  obtain ⟨W0, H0, HR0, HB0, HZ0⟩ := op_row w (7) (a) (z) p t ⟨#[]⟩
  have c0 : W0.cell? ⟨w.heap.size, 0, none⟩ = some (.int .i64 (7)) := HR0.out.cell 0
  have c1 : W0.cell? ⟨w.heap.size, 1, none⟩ = some (.string p) := HR0.out.cell 1
  have c2 : W0.cell? ⟨w.heap.size, 2, none⟩ = some (.string t) := HR0.out.cell 2
  have c3 : W0.cell? ⟨w.heap.size, 3, none⟩ = some (.string ⟨#[]⟩) := HR0.out.cell 3
  have c4 : W0.cell? ⟨w.heap.size, 4, none⟩ = some (.int .i64 (a)) := HR0.out.cell 4
  have c5 : W0.cell? ⟨w.heap.size, 5, none⟩ = some (.int .i64 (z)) := HR0.out.cell 5
  go_enter Tryz.func33, Tryz.ntmps33
  go_upto_region 1 with fail
  refine wp_world H0.out ?_
  clear H0
  go_wp2
  go_ret
  exact ⟨rfl, HB0.out⟩
set_option maxHeartbeats 4000000 in
set_option maxRecDepth 100000 in
theorem rc_7c (p t : ByteArray) (z : Int) (h_z : z ≠ 0) (w : World) : Calls Tryz.prog 33 #[.agg #[.int .i64 7, .string p, .string t, .string ⟨#[]⟩, .int .i64 0, .int .i64 z]] w fun e w' => e = .returned (.int .i64 (1)) ∧ Below w.heap.size w w' := by
  have q1_z : (z != 0) = true := bne_iff_ne.2 h_z
  have q2_z : (z == 0) = false := beq_eq_false_iff_ne.2 h_z
  obtain ⟨W0, H0, HR0, HB0, HZ0⟩ := op_row w (7) (0) (z) p t ⟨#[]⟩
  have c0 : W0.cell? ⟨w.heap.size, 0, none⟩ = some (.int .i64 (7)) := HR0.out.cell 0
  have c1 : W0.cell? ⟨w.heap.size, 1, none⟩ = some (.string p) := HR0.out.cell 1
  have c2 : W0.cell? ⟨w.heap.size, 2, none⟩ = some (.string t) := HR0.out.cell 2
  have c3 : W0.cell? ⟨w.heap.size, 3, none⟩ = some (.string ⟨#[]⟩) := HR0.out.cell 3
  have c4 : W0.cell? ⟨w.heap.size, 4, none⟩ = some (.int .i64 (0)) := HR0.out.cell 4
  have c5 : W0.cell? ⟨w.heap.size, 5, none⟩ = some (.int .i64 (z)) := HR0.out.cell 5
  go_enter Tryz.func33, Tryz.ntmps33
  go_upto_region 1 with fail
  refine wp_world H0.out ?_
  clear H0
  go_wp2
  go_ret
  exact ⟨rfl, HB0.out⟩
set_option maxHeartbeats 4000000 in
set_option maxRecDepth 100000 in
theorem rc_7d (p t : ByteArray) (hp : p.size ≤ 9223372036854775807) (he : perr p ≠ 0) (w : World) : Calls Tryz.prog 33 #[.agg #[.int .i64 7, .string p, .string t, .string ⟨#[]⟩, .int .i64 0, .int .i64 0]] w fun e w' => e = .returned (.int .i64 (perr p)) ∧ Below w.heap.size w w' := by
  obtain ⟨W0, H0, HR0, HB0, HZ0⟩ := op_row w (7) (0) (0) p t ⟨#[]⟩
  have c0 : W0.cell? ⟨w.heap.size, 0, none⟩ = some (.int .i64 (7)) := HR0.out.cell 0
  have c1 : W0.cell? ⟨w.heap.size, 1, none⟩ = some (.string p) := HR0.out.cell 1
  have c2 : W0.cell? ⟨w.heap.size, 2, none⟩ = some (.string t) := HR0.out.cell 2
  have c3 : W0.cell? ⟨w.heap.size, 3, none⟩ = some (.string ⟨#[]⟩) := HR0.out.cell 3
  have c4 : W0.cell? ⟨w.heap.size, 4, none⟩ = some (.int .i64 (0)) := HR0.out.cell 4
  have c5 : W0.cell? ⟨w.heap.size, 5, none⟩ = some (.int .i64 (0)) := HR0.out.cell 5
  have HP := hid_in (fun W => rparse_p p hp W)
  obtain ⟨ep, HEP⟩ : ∃ ep, Hid (perr p = ep) := ⟨_, rfl⟩
  rw [HEP.out] at HP he ⊢
  have x1 : (ep == 0) = false := beq_eq_false_iff_ne.2 he
  clear HEP hp he
  go_enter Tryz.func33, Tryz.ntmps33
  go_upto_region 1 with fail
  refine wp_world H0.out ?_
  clear H0
  go_wp2_with (first | (go_at_call 46; refine (HP.out _).mono ?_; rintro e w1 ⟨v1, rfl, hb1⟩; have HB1 := hid_in (HB0.out.trans (hb1.mono HB0.out.size)); clear hb1))
  go_ret
  exact ⟨rfl, HB1.out⟩
set_option maxHeartbeats 4000000 in
set_option maxRecDepth 100000 in
theorem rc_7e (p t : ByteArray) (hp : p.size ≤ 9223372036854775807) (ht : t.size ≤ 9223372036854775807) (he : perr p = 0) (w : World) : Calls Tryz.prog 33 #[.agg #[.int .i64 7, .string p, .string t, .string ⟨#[]⟩, .int .i64 0, .int .i64 0]] w fun e w' => e = .returned (.int .i64 (perr t)) ∧ Below w.heap.size w w' := by
  obtain ⟨W0, H0, HR0, HB0, HZ0⟩ := op_row w (7) (0) (0) p t ⟨#[]⟩
  have c0 : W0.cell? ⟨w.heap.size, 0, none⟩ = some (.int .i64 (7)) := HR0.out.cell 0
  have c1 : W0.cell? ⟨w.heap.size, 1, none⟩ = some (.string p) := HR0.out.cell 1
  have c2 : W0.cell? ⟨w.heap.size, 2, none⟩ = some (.string t) := HR0.out.cell 2
  have c3 : W0.cell? ⟨w.heap.size, 3, none⟩ = some (.string ⟨#[]⟩) := HR0.out.cell 3
  have c4 : W0.cell? ⟨w.heap.size, 4, none⟩ = some (.int .i64 (0)) := HR0.out.cell 4
  have c5 : W0.cell? ⟨w.heap.size, 5, none⟩ = some (.int .i64 (0)) := HR0.out.cell 5
  have HP := hid_in (fun W => rparse_p p hp W)
  have HT := hid_in (fun W => rparse_p t ht W)
  obtain ⟨et, HET⟩ : ∃ et, Hid (perr t = et) := ⟨_, rfl⟩
  rw [HET.out] at HT ⊢
  rw [he] at HP
  clear HET hp ht he
  go_enter Tryz.func33, Tryz.ntmps33
  go_upto_region 1 with fail
  refine wp_world H0.out ?_
  clear H0
  go_wp2_with (first | (go_at_call 46; refine (HP.out _).mono ?_; rintro e w1 ⟨v1, rfl, hb1⟩; have HB1 := hid_in (HB0.out.trans (hb1.mono HB0.out.size)); have c2' : w1.cell? ⟨w.heap.size, 2, none⟩ = some (.string t) := (HR0.out.below hb1 HR0.out.lt).cell 2; clear hb1 HP) | (go_at_call 46; have hx := HB1.out; refine (HT.out _).mono ?_; rintro e w2 ⟨v2, rfl, hb2⟩; have HB2 := hid_in (HB1.out.trans (hb2.mono HB1.out.size)); clear hb2 hx))
  go_ret
  exact ⟨rfl, HB2.out⟩
set_option maxHeartbeats 4000000 in
set_option maxRecDepth 100000 in
theorem rc_3a (p t d : ByteArray) (a z : Int) (h_t : t ≠ ⟨#[]⟩) (w : World) : Calls Tryz.prog 33 #[.agg #[.int .i64 3, .string p, .string t, .string d, .int .i64 a, .int .i64 z]] w fun e w' => e = .returned (.int .i64 (1)) ∧ Below w.heap.size w w' := by
  have n_t : t.toList.isEmpty = false := by
    rw [List.isEmpty_eq_false_iff]; exact fun e => h_t (toL_inj (b := ⟨#[]⟩) (e.trans (by rw [Lib.toList_data])))
  obtain ⟨W0, H0, HR0, HB0, HZ0⟩ := op_row w (3) (a) (z) p t d
  have c0 : W0.cell? ⟨w.heap.size, 0, none⟩ = some (.int .i64 (3)) := HR0.out.cell 0
  have c1 : W0.cell? ⟨w.heap.size, 1, none⟩ = some (.string p) := HR0.out.cell 1
  have c2 : W0.cell? ⟨w.heap.size, 2, none⟩ = some (.string t) := HR0.out.cell 2
  have c3 : W0.cell? ⟨w.heap.size, 3, none⟩ = some (.string d) := HR0.out.cell 3
  have c4 : W0.cell? ⟨w.heap.size, 4, none⟩ = some (.int .i64 (a)) := HR0.out.cell 4
  have c5 : W0.cell? ⟨w.heap.size, 5, none⟩ = some (.int .i64 (z)) := HR0.out.cell 5
  go_enter Tryz.func33, Tryz.ntmps33
  go_upto_region 1 with fail
  refine wp_world H0.out ?_
  clear H0
  go_wp2
  go_ret
  exact ⟨rfl, HB0.out⟩
set_option maxHeartbeats 4000000 in
set_option maxRecDepth 100000 in
theorem rc_3b (p d : ByteArray) (a z : Int) (h_z : z ≠ 0) (w : World) : Calls Tryz.prog 33 #[.agg #[.int .i64 3, .string p, .string ⟨#[]⟩, .string d, .int .i64 a, .int .i64 z]] w fun e w' => e = .returned (.int .i64 (1)) ∧ Below w.heap.size w w' := by
  have q1_z : (z != 0) = true := bne_iff_ne.2 h_z
  have q2_z : (z == 0) = false := beq_eq_false_iff_ne.2 h_z
  obtain ⟨W0, H0, HR0, HB0, HZ0⟩ := op_row w (3) (a) (z) p ⟨#[]⟩ d
  have c0 : W0.cell? ⟨w.heap.size, 0, none⟩ = some (.int .i64 (3)) := HR0.out.cell 0
  have c1 : W0.cell? ⟨w.heap.size, 1, none⟩ = some (.string p) := HR0.out.cell 1
  have c2 : W0.cell? ⟨w.heap.size, 2, none⟩ = some (.string ⟨#[]⟩) := HR0.out.cell 2
  have c3 : W0.cell? ⟨w.heap.size, 3, none⟩ = some (.string d) := HR0.out.cell 3
  have c4 : W0.cell? ⟨w.heap.size, 4, none⟩ = some (.int .i64 (a)) := HR0.out.cell 4
  have c5 : W0.cell? ⟨w.heap.size, 5, none⟩ = some (.int .i64 (z)) := HR0.out.cell 5
  go_enter Tryz.func33, Tryz.ntmps33
  go_upto_region 1 with fail
  refine wp_world H0.out ?_
  clear H0
  go_wp2
  go_ret
  exact ⟨rfl, HB0.out⟩
set_option maxHeartbeats 4000000 in
set_option maxRecDepth 100000 in
theorem rc_3c (p d : ByteArray) (a : Int) (ha : a < 0) (w : World) : Calls Tryz.prog 33 #[.agg #[.int .i64 3, .string p, .string ⟨#[]⟩, .string d, .int .i64 a, .int .i64 0]] w fun e w' => e = .returned (.int .i64 (1)) ∧ Below w.heap.size w w' := by
  obtain ⟨W0, H0, HR0, HB0, HZ0⟩ := op_row w (3) (a) (0) p ⟨#[]⟩ d
  have c0 : W0.cell? ⟨w.heap.size, 0, none⟩ = some (.int .i64 (3)) := HR0.out.cell 0
  have c1 : W0.cell? ⟨w.heap.size, 1, none⟩ = some (.string p) := HR0.out.cell 1
  have c2 : W0.cell? ⟨w.heap.size, 2, none⟩ = some (.string ⟨#[]⟩) := HR0.out.cell 2
  have c3 : W0.cell? ⟨w.heap.size, 3, none⟩ = some (.string d) := HR0.out.cell 3
  have c4 : W0.cell? ⟨w.heap.size, 4, none⟩ = some (.int .i64 (a)) := HR0.out.cell 4
  have c5 : W0.cell? ⟨w.heap.size, 5, none⟩ = some (.int .i64 (0)) := HR0.out.cell 5
  go_enter Tryz.func33, Tryz.ntmps33
  go_upto_region 1 with fail
  refine wp_world H0.out ?_
  clear H0
  go_wp2
  go_ret
  exact ⟨rfl, HB0.out⟩
set_option maxHeartbeats 4000000 in
set_option maxRecDepth 100000 in
theorem rc_3d (p d : ByteArray) (a : Int) (ha : 0 ≤ a) (hd : 1024 < d.size) (w : World) : Calls Tryz.prog 33 #[.agg #[.int .i64 3, .string p, .string ⟨#[]⟩, .string d, .int .i64 a, .int .i64 0]] w fun e w' => e = .returned (.int .i64 (134)) ∧ Below w.heap.size w w' := by
  have u1 : ¬ (a < 0) := by omega
  have u2 : (1024 : Int) < (d.size : Int) := by omega
  clear hd
  obtain ⟨W0, H0, HR0, HB0, HZ0⟩ := op_row w (3) (a) (0) p ⟨#[]⟩ d
  have c0 : W0.cell? ⟨w.heap.size, 0, none⟩ = some (.int .i64 (3)) := HR0.out.cell 0
  have c1 : W0.cell? ⟨w.heap.size, 1, none⟩ = some (.string p) := HR0.out.cell 1
  have c2 : W0.cell? ⟨w.heap.size, 2, none⟩ = some (.string ⟨#[]⟩) := HR0.out.cell 2
  have c3 : W0.cell? ⟨w.heap.size, 3, none⟩ = some (.string d) := HR0.out.cell 3
  have c4 : W0.cell? ⟨w.heap.size, 4, none⟩ = some (.int .i64 (a)) := HR0.out.cell 4
  have c5 : W0.cell? ⟨w.heap.size, 5, none⟩ = some (.int .i64 (0)) := HR0.out.cell 5
  go_enter Tryz.func33, Tryz.ntmps33
  go_upto_region 1 with fail
  refine wp_world H0.out ?_
  clear H0
  go_wp2
  go_ret
  exact ⟨rfl, HB0.out⟩
set_option maxHeartbeats 4000000 in
set_option maxRecDepth 100000 in
theorem rc_3e (p d : ByteArray) (a : Int) (ha : 1024 < a) (hd : d.size ≤ 1024) (w : World) : Calls Tryz.prog 33 #[.agg #[.int .i64 3, .string p, .string ⟨#[]⟩, .string d, .int .i64 a, .int .i64 0]] w fun e w' => e = .returned (.int .i64 (134)) ∧ Below w.heap.size w w' := by
  have u1 : ¬ (a < 0) := by omega
  have u2 : ¬ ((1024 : Int) < (d.size : Int)) := by omega
  clear hd
  obtain ⟨W0, H0, HR0, HB0, HZ0⟩ := op_row w (3) (a) (0) p ⟨#[]⟩ d
  have c0 : W0.cell? ⟨w.heap.size, 0, none⟩ = some (.int .i64 (3)) := HR0.out.cell 0
  have c1 : W0.cell? ⟨w.heap.size, 1, none⟩ = some (.string p) := HR0.out.cell 1
  have c2 : W0.cell? ⟨w.heap.size, 2, none⟩ = some (.string ⟨#[]⟩) := HR0.out.cell 2
  have c3 : W0.cell? ⟨w.heap.size, 3, none⟩ = some (.string d) := HR0.out.cell 3
  have c4 : W0.cell? ⟨w.heap.size, 4, none⟩ = some (.int .i64 (a)) := HR0.out.cell 4
  have c5 : W0.cell? ⟨w.heap.size, 5, none⟩ = some (.int .i64 (0)) := HR0.out.cell 5
  go_enter Tryz.func33, Tryz.ntmps33
  go_upto_region 1 with fail
  refine wp_world H0.out ?_
  clear H0
  go_wp2
  go_ret
  exact ⟨rfl, HB0.out⟩
set_option maxHeartbeats 4000000 in
set_option maxRecDepth 100000 in
theorem rc_3f (p d : ByteArray) (a : Int) (ha : 0 ≤ a) (ha2 : a ≤ 1024) (hd : d.size ≤ 1024) (hp : p.size ≤ 9223372036854775807) (he : perr p ≠ 0) (w : World) : Calls Tryz.prog 33 #[.agg #[.int .i64 3, .string p, .string ⟨#[]⟩, .string d, .int .i64 a, .int .i64 0]] w fun e w' => e = .returned (.int .i64 (perr p)) ∧ Below w.heap.size w w' := by
  have u1 : ¬ (a < 0) := by omega
  have u2 : ¬ ((1024 : Int) < (d.size : Int)) := by omega
  have u3 : ¬ (1024 < a) := by omega
  clear hd
  obtain ⟨W0, H0, HR0, HB0, HZ0⟩ := op_row w (3) (a) (0) p ⟨#[]⟩ d
  have c0 : W0.cell? ⟨w.heap.size, 0, none⟩ = some (.int .i64 (3)) := HR0.out.cell 0
  have c1 : W0.cell? ⟨w.heap.size, 1, none⟩ = some (.string p) := HR0.out.cell 1
  have c2 : W0.cell? ⟨w.heap.size, 2, none⟩ = some (.string ⟨#[]⟩) := HR0.out.cell 2
  have c3 : W0.cell? ⟨w.heap.size, 3, none⟩ = some (.string d) := HR0.out.cell 3
  have c4 : W0.cell? ⟨w.heap.size, 4, none⟩ = some (.int .i64 (a)) := HR0.out.cell 4
  have c5 : W0.cell? ⟨w.heap.size, 5, none⟩ = some (.int .i64 (0)) := HR0.out.cell 5
  have HP := hid_in (fun W => rparse_p p hp W)
  obtain ⟨ep, HEP⟩ : ∃ ep, Hid (perr p = ep) := ⟨_, rfl⟩
  rw [HEP.out] at HP he ⊢
  have x1 : (ep == 0) = false := beq_eq_false_iff_ne.2 he
  clear HEP hp he
  go_enter Tryz.func33, Tryz.ntmps33
  go_upto_region 1 with fail
  refine wp_world H0.out ?_
  clear H0
  go_wp2_with (first | (go_at_call 46; refine (HP.out _).mono ?_; rintro e w1 ⟨v1, rfl, hb1⟩; have HB1 := hid_in (HB0.out.trans (hb1.mono HB0.out.size)); clear hb1))
  go_ret
  exact ⟨rfl, HB1.out⟩
set_option maxHeartbeats 4000000 in
set_option maxRecDepth 100000 in
theorem rc_3fz (p d : ByteArray) (a : Int) (ha : 0 ≤ a) (ha2 : a ≤ 1024) (hd : d.size ≤ 1024) (hp : p.size ≤ 9223372036854775807) (he : perr p = 0) (w : World) : Calls Tryz.prog 33 #[.agg #[.int .i64 3, .string p, .string ⟨#[]⟩, .string d, .int .i64 a, .int .i64 0]] w fun e w' => e = .returned (.int .i64 (0)) ∧ Below w.heap.size w w' := by
  have u1 : ¬ (a < 0) := by omega
  have u2 : ¬ ((1024 : Int) < (d.size : Int)) := by omega
  have u3 : ¬ (1024 < a) := by omega
  clear hd
  obtain ⟨W0, H0, HR0, HB0, HZ0⟩ := op_row w (3) (a) (0) p ⟨#[]⟩ d
  have c0 : W0.cell? ⟨w.heap.size, 0, none⟩ = some (.int .i64 (3)) := HR0.out.cell 0
  have c1 : W0.cell? ⟨w.heap.size, 1, none⟩ = some (.string p) := HR0.out.cell 1
  have c2 : W0.cell? ⟨w.heap.size, 2, none⟩ = some (.string ⟨#[]⟩) := HR0.out.cell 2
  have c3 : W0.cell? ⟨w.heap.size, 3, none⟩ = some (.string d) := HR0.out.cell 3
  have c4 : W0.cell? ⟨w.heap.size, 4, none⟩ = some (.int .i64 (a)) := HR0.out.cell 4
  have c5 : W0.cell? ⟨w.heap.size, 5, none⟩ = some (.int .i64 (0)) := HR0.out.cell 5
  have HP := hid_in (fun W => rparse_p p hp W)
  rw [he] at HP
  clear hp he
  go_enter Tryz.func33, Tryz.ntmps33
  go_upto_region 1 with fail
  refine wp_world H0.out ?_
  clear H0
  go_wp2_with (first | (go_at_call 46; refine (HP.out _).mono ?_; rintro e w1 ⟨v1, rfl, hb1⟩; have HB1 := hid_in (HB0.out.trans (hb1.mono HB0.out.size)); clear hb1))
  go_ret
  exact ⟨rfl, HB1.out⟩
end Go.Proofs.YtngehkmdanhgpaaGreat.Nd
