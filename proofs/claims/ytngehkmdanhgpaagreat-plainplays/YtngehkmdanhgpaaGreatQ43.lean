/-
  The walk of the reference's Check, leaf by leaf. The walk of the reference's Check: it answers what Check is said to answer.
-/
import Derived.Lib.SlBytesConst
import Derived.Laws.CopyOwn
import Derived.Deep.RegionLaw
import Derived.Deep.DrawnRows
import Derived.Lib.AppendZeros
import Derived.Laws.Tables
import Derived.Test.YtngehkmdanhgpaaGreatQ00
import Derived.Test.YtngehkmdanhgpaaGreatQ01
import Derived.Test.YtngehkmdanhgpaaGreatQ02
import Derived.Test.YtngehkmdanhgpaaGreatQ03
import Derived.Test.YtngehkmdanhgpaaGreatQ04
import Derived.Test.YtngehkmdanhgpaaGreatQ05
import Derived.Test.YtngehkmdanhgpaaGreatQ06
import Derived.Test.YtngehkmdanhgpaaGreatQ07
import Derived.Test.YtngehkmdanhgpaaGreatQ08
import Derived.Test.YtngehkmdanhgpaaGreatQ19
import Derived.Test.YtngehkmdanhgpaaGreatQ20
import Derived.Test.YtngehkmdanhgpaaGreatQ40
import Derived.Test.YtngehkmdanhgpaaGreatQ41
import Derived.Test.YtngehkmdanhgpaaGreatQ42
namespace Go.Proofs.YtngehkmdanhgpaaGreat.Nd
open Go.RowKit
set_option maxHeartbeats 4000000 in
set_option maxRecDepth 100000 in
theorem rc_ka (p t d : ByteArray) (k a z : Int) (hk1 : 1 ≤ k ∧ k ≤ 11) (h3 : k ≠ 3) (h4 : k ≠ 4) (h7 : k ≠ 7) (h8 : k ≠ 8) (h11 : k ≠ 11) (h_t : t ≠ ⟨#[]⟩) (w : World) : Calls Tryz.prog 33 #[.agg #[.int .i64 k, .string p, .string t, .string d, .int .i64 a, .int .i64 z]] w fun e w' => e = .returned (.int .i64 (1)) ∧ Below w.heap.size w w' := by
  have e3 : (k == 3) = false := beq_eq_false_iff_ne.2 h3
  have g3 : (k != 3) = true := bne_iff_ne.2 h3
  have e4 : (k == 4) = false := beq_eq_false_iff_ne.2 h4
  have g4 : (k != 4) = true := bne_iff_ne.2 h4
  have e7 : (k == 7) = false := beq_eq_false_iff_ne.2 h7
  have g7 : (k != 7) = true := bne_iff_ne.2 h7
  have e8 : (k == 8) = false := beq_eq_false_iff_ne.2 h8
  have g8 : (k != 8) = true := bne_iff_ne.2 h8
  have e11 : (k == 11) = false := beq_eq_false_iff_ne.2 h11
  have g11 : (k != 11) = true := bne_iff_ne.2 h11
  have l1 : ¬ (k < 1) := by omega
  have l2 : ¬ (11 < k) := by omega
  have n_t : t.toList.isEmpty = false := by
    rw [List.isEmpty_eq_false_iff]; exact fun e => h_t (toL_inj (b := ⟨#[]⟩) (e.trans (by rw [Lib.toList_data])))
  obtain ⟨W0, H0, HR0, HB0, HZ0⟩ := op_row w (k) (a) (z) p t d
  have c0 : W0.cell? ⟨w.heap.size, 0, none⟩ = some (.int .i64 (k)) := HR0.out.cell 0
  have c1 : W0.cell? ⟨w.heap.size, 1, none⟩ = some (.string p) := HR0.out.cell 1
  have c2 : W0.cell? ⟨w.heap.size, 2, none⟩ = some (.string t) := HR0.out.cell 2
  have c3 : W0.cell? ⟨w.heap.size, 3, none⟩ = some (.string d) := HR0.out.cell 3
  have c4 : W0.cell? ⟨w.heap.size, 4, none⟩ = some (.int .i64 (a)) := HR0.out.cell 4
  have c5 : W0.cell? ⟨w.heap.size, 5, none⟩ = some (.int .i64 (z)) := HR0.out.cell 5
  clear hk1 h3 h4 h7 h8 h11
  go_enter Tryz.func33, Tryz.ntmps33
  go_upto_region 1 with fail
  refine wp_world H0.out ?_
  clear H0
  go_wp2
  go_ret
  exact ⟨rfl, HB0.out⟩
set_option maxHeartbeats 4000000 in
set_option maxRecDepth 100000 in
theorem rc_kb (p d : ByteArray) (k a z : Int) (hk1 : 1 ≤ k ∧ k ≤ 11) (h3 : k ≠ 3) (h4 : k ≠ 4) (h7 : k ≠ 7) (h8 : k ≠ 8) (h11 : k ≠ 11) (h_d : d ≠ ⟨#[]⟩) (w : World) : Calls Tryz.prog 33 #[.agg #[.int .i64 k, .string p, .string ⟨#[]⟩, .string d, .int .i64 a, .int .i64 z]] w fun e w' => e = .returned (.int .i64 (1)) ∧ Below w.heap.size w w' := by
  have e3 : (k == 3) = false := beq_eq_false_iff_ne.2 h3
  have g3 : (k != 3) = true := bne_iff_ne.2 h3
  have e4 : (k == 4) = false := beq_eq_false_iff_ne.2 h4
  have g4 : (k != 4) = true := bne_iff_ne.2 h4
  have e7 : (k == 7) = false := beq_eq_false_iff_ne.2 h7
  have g7 : (k != 7) = true := bne_iff_ne.2 h7
  have e8 : (k == 8) = false := beq_eq_false_iff_ne.2 h8
  have g8 : (k != 8) = true := bne_iff_ne.2 h8
  have e11 : (k == 11) = false := beq_eq_false_iff_ne.2 h11
  have g11 : (k != 11) = true := bne_iff_ne.2 h11
  have l1 : ¬ (k < 1) := by omega
  have l2 : ¬ (11 < k) := by omega
  have n_d : d.toList.isEmpty = false := by
    rw [List.isEmpty_eq_false_iff]; exact fun e => h_d (toL_inj (b := ⟨#[]⟩) (e.trans (by rw [Lib.toList_data])))
  obtain ⟨W0, H0, HR0, HB0, HZ0⟩ := op_row w (k) (a) (z) p ⟨#[]⟩ d
  have c0 : W0.cell? ⟨w.heap.size, 0, none⟩ = some (.int .i64 (k)) := HR0.out.cell 0
  have c1 : W0.cell? ⟨w.heap.size, 1, none⟩ = some (.string p) := HR0.out.cell 1
  have c2 : W0.cell? ⟨w.heap.size, 2, none⟩ = some (.string ⟨#[]⟩) := HR0.out.cell 2
  have c3 : W0.cell? ⟨w.heap.size, 3, none⟩ = some (.string d) := HR0.out.cell 3
  have c4 : W0.cell? ⟨w.heap.size, 4, none⟩ = some (.int .i64 (a)) := HR0.out.cell 4
  have c5 : W0.cell? ⟨w.heap.size, 5, none⟩ = some (.int .i64 (z)) := HR0.out.cell 5
  clear hk1 h3 h4 h7 h8 h11
  go_enter Tryz.func33, Tryz.ntmps33
  go_upto_region 1 with fail
  refine wp_world H0.out ?_
  clear H0
  go_wp2
  go_ret
  exact ⟨rfl, HB0.out⟩
set_option maxHeartbeats 4000000 in
set_option maxRecDepth 100000 in
theorem rc_kc (p : ByteArray) (k a z : Int) (hk1 : 1 ≤ k ∧ k ≤ 11) (h3 : k ≠ 3) (h4 : k ≠ 4) (h7 : k ≠ 7) (h8 : k ≠ 8) (h11 : k ≠ 11) (h_a : a ≠ 0) (w : World) : Calls Tryz.prog 33 #[.agg #[.int .i64 k, .string p, .string ⟨#[]⟩, .string ⟨#[]⟩, .int .i64 a, .int .i64 z]] w fun e w' => e = .returned (.int .i64 (1)) ∧ Below w.heap.size w w' := by
  have e3 : (k == 3) = false := beq_eq_false_iff_ne.2 h3
  have g3 : (k != 3) = true := bne_iff_ne.2 h3
  have e4 : (k == 4) = false := beq_eq_false_iff_ne.2 h4
  have g4 : (k != 4) = true := bne_iff_ne.2 h4
  have e7 : (k == 7) = false := beq_eq_false_iff_ne.2 h7
  have g7 : (k != 7) = true := bne_iff_ne.2 h7
  have e8 : (k == 8) = false := beq_eq_false_iff_ne.2 h8
  have g8 : (k != 8) = true := bne_iff_ne.2 h8
  have e11 : (k == 11) = false := beq_eq_false_iff_ne.2 h11
  have g11 : (k != 11) = true := bne_iff_ne.2 h11
  have l1 : ¬ (k < 1) := by omega
  have l2 : ¬ (11 < k) := by omega
  have q1_a : (a != 0) = true := bne_iff_ne.2 h_a
  have q2_a : (a == 0) = false := beq_eq_false_iff_ne.2 h_a
  obtain ⟨W0, H0, HR0, HB0, HZ0⟩ := op_row w (k) (a) (z) p ⟨#[]⟩ ⟨#[]⟩
  have c0 : W0.cell? ⟨w.heap.size, 0, none⟩ = some (.int .i64 (k)) := HR0.out.cell 0
  have c1 : W0.cell? ⟨w.heap.size, 1, none⟩ = some (.string p) := HR0.out.cell 1
  have c2 : W0.cell? ⟨w.heap.size, 2, none⟩ = some (.string ⟨#[]⟩) := HR0.out.cell 2
  have c3 : W0.cell? ⟨w.heap.size, 3, none⟩ = some (.string ⟨#[]⟩) := HR0.out.cell 3
  have c4 : W0.cell? ⟨w.heap.size, 4, none⟩ = some (.int .i64 (a)) := HR0.out.cell 4
  have c5 : W0.cell? ⟨w.heap.size, 5, none⟩ = some (.int .i64 (z)) := HR0.out.cell 5
  clear hk1 h3 h4 h7 h8 h11
  go_enter Tryz.func33, Tryz.ntmps33
  go_upto_region 1 with fail
  refine wp_world H0.out ?_
  clear H0
  go_wp2
  go_ret
  exact ⟨rfl, HB0.out⟩
set_option maxHeartbeats 4000000 in
set_option maxRecDepth 100000 in
theorem rc_kd (p : ByteArray) (k z : Int) (hk1 : 1 ≤ k ∧ k ≤ 11) (h3 : k ≠ 3) (h4 : k ≠ 4) (h7 : k ≠ 7) (h8 : k ≠ 8) (h11 : k ≠ 11) (h_z : z ≠ 0) (w : World) : Calls Tryz.prog 33 #[.agg #[.int .i64 k, .string p, .string ⟨#[]⟩, .string ⟨#[]⟩, .int .i64 0, .int .i64 z]] w fun e w' => e = .returned (.int .i64 (1)) ∧ Below w.heap.size w w' := by
  have e3 : (k == 3) = false := beq_eq_false_iff_ne.2 h3
  have g3 : (k != 3) = true := bne_iff_ne.2 h3
  have e4 : (k == 4) = false := beq_eq_false_iff_ne.2 h4
  have g4 : (k != 4) = true := bne_iff_ne.2 h4
  have e7 : (k == 7) = false := beq_eq_false_iff_ne.2 h7
  have g7 : (k != 7) = true := bne_iff_ne.2 h7
  have e8 : (k == 8) = false := beq_eq_false_iff_ne.2 h8
  have g8 : (k != 8) = true := bne_iff_ne.2 h8
  have e11 : (k == 11) = false := beq_eq_false_iff_ne.2 h11
  have g11 : (k != 11) = true := bne_iff_ne.2 h11
  have l1 : ¬ (k < 1) := by omega
  have l2 : ¬ (11 < k) := by omega
  have q1_z : (z != 0) = true := bne_iff_ne.2 h_z
  have q2_z : (z == 0) = false := beq_eq_false_iff_ne.2 h_z
  obtain ⟨W0, H0, HR0, HB0, HZ0⟩ := op_row w (k) (0) (z) p ⟨#[]⟩ ⟨#[]⟩
  have c0 : W0.cell? ⟨w.heap.size, 0, none⟩ = some (.int .i64 (k)) := HR0.out.cell 0
  have c1 : W0.cell? ⟨w.heap.size, 1, none⟩ = some (.string p) := HR0.out.cell 1
  have c2 : W0.cell? ⟨w.heap.size, 2, none⟩ = some (.string ⟨#[]⟩) := HR0.out.cell 2
  have c3 : W0.cell? ⟨w.heap.size, 3, none⟩ = some (.string ⟨#[]⟩) := HR0.out.cell 3
  have c4 : W0.cell? ⟨w.heap.size, 4, none⟩ = some (.int .i64 (0)) := HR0.out.cell 4
  have c5 : W0.cell? ⟨w.heap.size, 5, none⟩ = some (.int .i64 (z)) := HR0.out.cell 5
  clear hk1 h3 h4 h7 h8 h11
  go_enter Tryz.func33, Tryz.ntmps33
  go_upto_region 1 with fail
  refine wp_world H0.out ?_
  clear H0
  go_wp2
  go_ret
  exact ⟨rfl, HB0.out⟩
set_option maxHeartbeats 4000000 in
set_option maxRecDepth 100000 in
theorem rc_ke (p : ByteArray) (k : Int) (hk1 : 1 ≤ k ∧ k ≤ 11) (h3 : k ≠ 3) (h4 : k ≠ 4) (h7 : k ≠ 7) (h8 : k ≠ 8) (h11 : k ≠ 11) (hp : p.size ≤ 9223372036854775807) (he : perr p ≠ 0) (w : World) : Calls Tryz.prog 33 #[.agg #[.int .i64 k, .string p, .string ⟨#[]⟩, .string ⟨#[]⟩, .int .i64 0, .int .i64 0]] w fun e w' => e = .returned (.int .i64 (perr p)) ∧ Below w.heap.size w w' := by
  have e3 : (k == 3) = false := beq_eq_false_iff_ne.2 h3
  have g3 : (k != 3) = true := bne_iff_ne.2 h3
  have e4 : (k == 4) = false := beq_eq_false_iff_ne.2 h4
  have g4 : (k != 4) = true := bne_iff_ne.2 h4
  have e7 : (k == 7) = false := beq_eq_false_iff_ne.2 h7
  have g7 : (k != 7) = true := bne_iff_ne.2 h7
  have e8 : (k == 8) = false := beq_eq_false_iff_ne.2 h8
  have g8 : (k != 8) = true := bne_iff_ne.2 h8
  have e11 : (k == 11) = false := beq_eq_false_iff_ne.2 h11
  have g11 : (k != 11) = true := bne_iff_ne.2 h11
  have l1 : ¬ (k < 1) := by omega
  have l2 : ¬ (11 < k) := by omega
  obtain ⟨W0, H0, HR0, HB0, HZ0⟩ := op_row w (k) (0) (0) p ⟨#[]⟩ ⟨#[]⟩
  have c0 : W0.cell? ⟨w.heap.size, 0, none⟩ = some (.int .i64 (k)) := HR0.out.cell 0
  have c1 : W0.cell? ⟨w.heap.size, 1, none⟩ = some (.string p) := HR0.out.cell 1
  have c2 : W0.cell? ⟨w.heap.size, 2, none⟩ = some (.string ⟨#[]⟩) := HR0.out.cell 2
  have c3 : W0.cell? ⟨w.heap.size, 3, none⟩ = some (.string ⟨#[]⟩) := HR0.out.cell 3
  have c4 : W0.cell? ⟨w.heap.size, 4, none⟩ = some (.int .i64 (0)) := HR0.out.cell 4
  have c5 : W0.cell? ⟨w.heap.size, 5, none⟩ = some (.int .i64 (0)) := HR0.out.cell 5
  clear hk1 h3 h4 h7 h8 h11
  have HP := hid_in (fun W => rparse_p p hp W)
  obtain ⟨ep, HEP⟩ : ∃ ep, Hid (perr p = ep) := ⟨_, rfl⟩
  rw [HEP.out] at HP he ⊢
  have x1 : (ep == 0) = false := beq_eq_false_iff_ne.2 he
  clear HEP hp he
  go_enter Tryz.func33, Tryz.ntmps33
  go_upto_region 1 with fail
  refine wp_world H0.out ?_
  clear H0
  go_wp2_with (first | (go_at_call 46; refine (HP.out _).mono ?_; rintro e w1 ⟨v1, rfl, hb1⟩; have HB1 := hid_in (HB0.out.trans (hb1.mono HB0.out.size)); clear hb1))
  go_ret
  exact ⟨rfl, HB1.out⟩
set_option maxHeartbeats 4000000 in
set_option maxRecDepth 100000 in
theorem rc_kez (p : ByteArray) (k : Int) (hk1 : 1 ≤ k ∧ k ≤ 11) (h3 : k ≠ 3) (h4 : k ≠ 4) (h7 : k ≠ 7) (h8 : k ≠ 8) (h11 : k ≠ 11) (hp : p.size ≤ 9223372036854775807) (he : perr p = 0) (w : World) : Calls Tryz.prog 33 #[.agg #[.int .i64 k, .string p, .string ⟨#[]⟩, .string ⟨#[]⟩, .int .i64 0, .int .i64 0]] w fun e w' => e = .returned (.int .i64 (0)) ∧ Below w.heap.size w w' := by
  have e3 : (k == 3) = false := beq_eq_false_iff_ne.2 h3
  have g3 : (k != 3) = true := bne_iff_ne.2 h3
  have e4 : (k == 4) = false := beq_eq_false_iff_ne.2 h4
  have g4 : (k != 4) = true := bne_iff_ne.2 h4
  have e7 : (k == 7) = false := beq_eq_false_iff_ne.2 h7
  have g7 : (k != 7) = true := bne_iff_ne.2 h7
  have e8 : (k == 8) = false := beq_eq_false_iff_ne.2 h8
  have g8 : (k != 8) = true := bne_iff_ne.2 h8
  have e11 : (k == 11) = false := beq_eq_false_iff_ne.2 h11
  have g11 : (k != 11) = true := bne_iff_ne.2 h11
  have l1 : ¬ (k < 1) := by omega
  have l2 : ¬ (11 < k) := by omega
  obtain ⟨W0, H0, HR0, HB0, HZ0⟩ := op_row w (k) (0) (0) p ⟨#[]⟩ ⟨#[]⟩
  have c0 : W0.cell? ⟨w.heap.size, 0, none⟩ = some (.int .i64 (k)) := HR0.out.cell 0
  have c1 : W0.cell? ⟨w.heap.size, 1, none⟩ = some (.string p) := HR0.out.cell 1
  have c2 : W0.cell? ⟨w.heap.size, 2, none⟩ = some (.string ⟨#[]⟩) := HR0.out.cell 2
  have c3 : W0.cell? ⟨w.heap.size, 3, none⟩ = some (.string ⟨#[]⟩) := HR0.out.cell 3
  have c4 : W0.cell? ⟨w.heap.size, 4, none⟩ = some (.int .i64 (0)) := HR0.out.cell 4
  have c5 : W0.cell? ⟨w.heap.size, 5, none⟩ = some (.int .i64 (0)) := HR0.out.cell 5
  clear hk1 h3 h4 h7 h8 h11
  have HP := hid_in (fun W => rparse_p p hp W)
  rw [he] at HP
  clear hp he
  go_enter Tryz.func33, Tryz.ntmps33
  go_upto_region 1 with fail
  refine wp_world H0.out ?_
  clear H0
  go_wp2_with (first | (go_at_call 46; refine (HP.out _).mono ?_; rintro e w1 ⟨v1, rfl, hb1⟩; have HB1 := hid_in (HB0.out.trans (hb1.mono HB0.out.size)); clear hb1))
  go_ret
  exact ⟨rfl, HB1.out⟩
end Go.Proofs.YtngehkmdanhgpaaGreat.Nd
namespace Go.Proofs.YtngehkmdanhgpaaGreat.Nd
open Go.RowKit
theorem checkS_arg {o : Opn} (hk : 1 ≤ o.kind ∧ o.kind ≤ 11) (h : namedS o ≠ o ∨ ¬ numsOk o.kind o.at_ o.size) : checkS o = 1 := by
  unfold checkS; rw [if_neg (by omega), if_pos h]
theorem checkS_big {o : Opn} (hk : 1 ≤ o.kind ∧ o.kind ≤ 11) (h1 : namedS o = o) (h2 : numsOk o.kind o.at_ o.size) (h : 1024 < o.data.size ∨ 1024 < o.at_ ∨ 1024 < o.size) : checkS o = 134 := by
  unfold checkS; rw [if_neg (by omega), if_neg (by rintro (h | h); exact h h1; exact h h2), if_pos h]
theorem checkS_ok {o : Opn} (hk : 1 ≤ o.kind ∧ o.kind ≤ 11) (h1 : namedS o = o) (h2 : numsOk o.kind o.at_ o.size) (h : ¬ (1024 < o.data.size ∨ 1024 < o.at_ ∨ 1024 < o.size)) : checkS o = pathsS o.kind o.path o.dest := by
  unfold checkS; rw [if_neg (by omega), if_neg (by rintro (h | h); exact h h1; exact h h2), if_neg h]
theorem ret_eq {f : Nat} {args : Array Value} {w : World} {a b : Int} (h : Calls Tryz.prog f args w fun e w' => e = .returned (.int .i64 a) ∧ Below w.heap.size w w') (he : b = a) : Calls Tryz.prog f args w fun e w' => e = .returned (.int .i64 b) ∧ Below w.heap.size w w' := by
  rw [he]; exact h
set_option maxHeartbeats 1000000 in
theorem rcheck_any (o : Opn) (hp : o.path.size ≤ 9223372036854775807) (ht : o.dest.size ≤ 9223372036854775807) (w : World) : Calls Tryz.prog 33 #[o.val] w fun e w' => e = .returned (.int .i64 (checkS o)) ∧ Below w.heap.size w w' := by
  obtain ⟨k, p, t, d, a, z⟩ := o
  simp only at hp ht
  simp only [Opn.val]
  by_cases hk : 1 ≤ k ∧ k ≤ 11
  rotate_left
  · exact ret_eq (rc_none p t d k a z hk w) (by unfold checkS; rw [if_pos hk])
  by_cases h11 : k = 11
  · subst h11
    by_cases e1 : p = ⟨#[]⟩
    rotate_left
    · exact ret_eq (rc_11a p t d a z e1 w) (checkS_arg hk (.inl (by simp [namedS, Ne.symm e1])))
    subst e1
    by_cases e2 : t = ⟨#[]⟩
    rotate_left
    · exact ret_eq (rc_11b t d a z e2 w) (checkS_arg hk (.inl (by simp [namedS, Ne.symm e2])))
    subst e2
    by_cases e3 : d = ⟨#[]⟩
    rotate_left
    · exact ret_eq (rc_11c d a z e3 w) (checkS_arg hk (.inl (by simp [namedS, Ne.symm e3])))
    subst e3
    by_cases e4 : z = 0
    rotate_left
    · exact ret_eq (rc_11d a z e4 w) (checkS_arg hk (.inl (by simp [namedS, Ne.symm e4])))
    subst e4
    rcases (show a < 0 ∨ a = 0 ∨ 8 < a ∨ (1 ≤ a ∧ a ≤ 8) by omega) with h | rfl | h | ⟨h, h'⟩
    · exact ret_eq (rc_11e a h w) (checkS_arg hk (.inr (by simp only [numsOk]; omega)))
    · exact ret_eq (rc_11f w) (checkS_arg hk (.inr (by simp only [numsOk]; omega)))
    · exact ret_eq (rc_11g a h w) (checkS_arg hk (.inr (by simp only [numsOk]; omega)))
    · refine ret_eq (rc_11h a h h' w) ((checkS_ok hk (by simp [namedS]) (.inl ⟨rfl, h, h'⟩) ?_).trans (by simp [pathsS]))
      simp only [show (ByteArray.mk #[]).size = 0 from rfl]
      omega
  by_cases h7 : k = 7
  · subst h7
    by_cases e3 : d = ⟨#[]⟩
    rotate_left
    · exact ret_eq (rc_7a p t d a z e3 w) (checkS_arg hk (.inl (by simp [namedS, Ne.symm e3])))
    subst e3
    by_cases e4 : a = 0
    rotate_left
    · exact ret_eq (rc_7b p t a z e4 w) (checkS_arg hk (.inl (by simp [namedS, Ne.symm e4])))
    subst e4
    by_cases e5 : z = 0
    rotate_left
    · exact ret_eq (rc_7c p t z e5 w) (checkS_arg hk (.inl (by simp [namedS, Ne.symm e5])))
    subst e5
    have hok : checkS ⟨7, p, t, ⟨#[]⟩, 0, 0⟩ = pathsS 7 p t := checkS_ok hk (by simp [namedS]) (by simp only [numsOk]; omega) (by simp only [show (ByteArray.mk #[]).size = 0 from rfl]; omega)
    by_cases e6 : perr p = 0
    · exact ret_eq (rc_7e p t hp ht e6 w) (hok.trans (by simp [pathsS, e6]))
    · exact ret_eq (rc_7d p t hp e6 w) (hok.trans (by simp [pathsS, e6]))
  by_cases h3 : k = 3
  · subst h3
    by_cases e2 : t = ⟨#[]⟩
    rotate_left
    · exact ret_eq (rc_3a p t d a z e2 w) (checkS_arg hk (.inl (by simp [namedS, Ne.symm e2])))
    subst e2
    by_cases e5 : z = 0
    rotate_left
    · exact ret_eq (rc_3b p d a z e5 w) (checkS_arg hk (.inl (by simp [namedS, Ne.symm e5])))
    subst e5
    by_cases e4 : a < 0
    · exact ret_eq (rc_3c p d a e4 w) (checkS_arg hk (.inr (by simp only [numsOk]; omega)))
    have hn : namedS ⟨3, p, ⟨#[]⟩, d, a, 0⟩ = ⟨3, p, ⟨#[]⟩, d, a, 0⟩ := by simp [namedS]
    have hno : numsOk 3 a 0 := by simp only [numsOk]; omega
    by_cases e6 : 1024 < d.size
    · exact ret_eq (rc_3d p d a (by omega) e6 w) (checkS_big hk hn hno (.inl e6))
    by_cases e7 : 1024 < a
    · exact ret_eq (rc_3e p d a e7 (by omega) w) (checkS_big hk hn hno (.inr (.inl e7)))
    have hok : checkS ⟨3, p, ⟨#[]⟩, d, a, 0⟩ = pathsS 3 p ⟨#[]⟩ := checkS_ok hk hn hno (by simp only; omega)
    by_cases e8 : perr p = 0
    · exact ret_eq (rc_3fz p d a (by omega) (by omega) (by omega) hp e8 w) (hok.trans (by simp [pathsS, e8]))
    · exact ret_eq (rc_3f p d a (by omega) (by omega) (by omega) hp e8 w) (hok.trans (by simp [pathsS]))
  by_cases h8 : k = 8
  · subst h8
    by_cases e2 : t = ⟨#[]⟩
    rotate_left
    · exact ret_eq (rc_8a p t d a z e2 w) (checkS_arg hk (.inl (by simp [namedS, Ne.symm e2])))
    subst e2
    by_cases e3 : d = ⟨#[]⟩
    rotate_left
    · exact ret_eq (rc_8b p d a z e3 w) (checkS_arg hk (.inl (by simp [namedS, Ne.symm e3])))
    subst e3
    by_cases e4 : a < 0
    · exact ret_eq (rc_8c p a z e4 w) (checkS_arg hk (.inr (by simp only [numsOk]; omega)))
    by_cases e5 : z < 0
    · exact ret_eq (rc_8d p a z (by omega) e5 w) (checkS_arg hk (.inr (by simp only [numsOk]; omega)))
    have hn : namedS ⟨8, p, ⟨#[]⟩, ⟨#[]⟩, a, z⟩ = ⟨8, p, ⟨#[]⟩, ⟨#[]⟩, a, z⟩ := by simp [namedS]
    have hno : numsOk 8 a z := by simp only [numsOk]; omega
    by_cases e6 : 1024 < a
    · exact ret_eq (rc_8e p a z e6 (by omega) w) (checkS_big hk hn hno (.inr (.inl e6)))
    by_cases e7 : 1024 < z
    · exact ret_eq (rc_8f p a z (by omega) (by omega) e7 w) (checkS_big hk hn hno (.inr (.inr e7)))
    have hok : checkS ⟨8, p, ⟨#[]⟩, ⟨#[]⟩, a, z⟩ = pathsS 8 p ⟨#[]⟩ := checkS_ok hk hn hno (by simp only [show (ByteArray.mk #[]).size = 0 from rfl]; omega)
    by_cases e8 : perr p = 0
    · exact ret_eq (rc_8gz p a z (by omega) (by omega) (by omega) (by omega) hp e8 w) (hok.trans (by simp [pathsS, e8]))
    · exact ret_eq (rc_8g p a z (by omega) (by omega) (by omega) (by omega) hp e8 w) (hok.trans (by simp [pathsS]))
  by_cases h4 : k = 4
  · subst h4
    by_cases e2 : t = ⟨#[]⟩
    rotate_left
    · exact ret_eq (rc_4a p t d a z e2 w) (checkS_arg hk (.inl (by simp [namedS, Ne.symm e2])))
    subst e2
    by_cases e3 : d = ⟨#[]⟩
    rotate_left
    · exact ret_eq (rc_4b p d a z e3 w) (checkS_arg hk (.inl (by simp [namedS, Ne.symm e3])))
    subst e3
    by_cases e4 : a = 0
    rotate_left
    · exact ret_eq (rc_4c p a z e4 w) (checkS_arg hk (.inl (by simp [namedS, Ne.symm e4])))
    subst e4
    by_cases e5 : z < 0
    · exact ret_eq (rc_4d p z e5 w) (checkS_arg hk (.inr (by simp only [numsOk]; omega)))
    have hn : namedS ⟨4, p, ⟨#[]⟩, ⟨#[]⟩, 0, z⟩ = ⟨4, p, ⟨#[]⟩, ⟨#[]⟩, 0, z⟩ := by simp [namedS]
    have hno : numsOk 4 0 z := by simp only [numsOk]; omega
    by_cases e7 : 1024 < z
    · exact ret_eq (rc_4e p z e7 w) (checkS_big hk hn hno (.inr (.inr e7)))
    have hok : checkS ⟨4, p, ⟨#[]⟩, ⟨#[]⟩, 0, z⟩ = pathsS 4 p ⟨#[]⟩ := checkS_ok hk hn hno (by simp only [show (ByteArray.mk #[]).size = 0 from rfl]; omega)
    by_cases e8 : perr p = 0
    · exact ret_eq (rc_4fz p z (by omega) (by omega) hp e8 w) (hok.trans (by simp [pathsS, e8]))
    · exact ret_eq (rc_4f p z (by omega) (by omega) hp e8 w) (hok.trans (by simp [pathsS]))
  by_cases e2 : t = ⟨#[]⟩
  rotate_left
  · exact ret_eq (rc_ka p t d k a z hk h3 h4 h7 h8 h11 e2 w) (checkS_arg hk (.inl (by simp [namedS, h3, h4, h7, h8, h11, Ne.symm e2])))
  subst e2
  by_cases e3 : d = ⟨#[]⟩
  rotate_left
  · exact ret_eq (rc_kb p d k a z hk h3 h4 h7 h8 h11 e3 w) (checkS_arg hk (.inl (by simp [namedS, h3, h4, h7, h8, h11, Ne.symm e3])))
  subst e3
  by_cases e4 : a = 0
  rotate_left
  · exact ret_eq (rc_kc p k a z hk h3 h4 h7 h8 h11 e4 w) (checkS_arg hk (.inl (by simp [namedS, h3, h4, h7, h8, h11, Ne.symm e4])))
  subst e4
  by_cases e5 : z = 0
  rotate_left
  · exact ret_eq (rc_kd p k z hk h3 h4 h7 h8 h11 e5 w) (checkS_arg hk (.inl (by simp [namedS, h3, h4, h7, h8, h11, Ne.symm e5])))
  subst e5
  have hok : checkS ⟨k, p, ⟨#[]⟩, ⟨#[]⟩, 0, 0⟩ = pathsS k p ⟨#[]⟩ := checkS_ok hk (by simp [namedS, h3, h4, h7, h8, h11]) (by simp only [numsOk]; omega) (by simp only [show (ByteArray.mk #[]).size = 0 from rfl]; omega)
  by_cases e8 : perr p = 0
  · exact ret_eq (rc_kez p k hk h3 h4 h7 h8 h11 hp e8 w) (hok.trans (by simp [pathsS, e8, h7]))
  · exact ret_eq (rc_ke p k hk h3 h4 h7 h8 h11 hp e8 w) (hok.trans (by simp [pathsS, h11, h7]))
end Go.Proofs.YtngehkmdanhgpaaGreat.Nd
