/-
  The walk of the reference's Check.
-/
import Derived.Test.YtbccjomnfclkdaaN17
namespace Go.Proofs.Ytbccjomnfclkdaa
open Go.RowKit
set_option maxHeartbeats 2000000 in
set_option maxRecDepth 100000 in
theorem rcheck_chunk (w : World) (s : Int) (d : ByteArray) (np ni cp ci : Nat) (pp pi : Option Addr) :
    Calls Try.prog 12 #[.agg #[.int .i64 1, .string d, .int .i64 s, .slice pp np cp, .slice pi ni ci]] w fun e w' => Says e (1 ≤ d.size ∧ d.size ≤ 64 ∧ s = 0 ∧ np = 0 ∧ ni = 0) ∧ Below w.heap.size w w' := by
  obtain ⟨w2, H2, HR, HB, HS⟩ := node_row w 1 s d (.slice pp np cp) (.slice pi ni ci)
  have c0 : w2.cell? ⟨w.heap.size, 0, none⟩ = some (.int .i64 1) := HR.out.cell 0
  have c1 : w2.cell? ⟨w.heap.size, 1, none⟩ = some (.string d) := HR.out.cell 1
  have c2 : w2.cell? ⟨w.heap.size, 2, none⟩ = some (.int .i64 s) := HR.out.cell 2
  have c3 : w2.cell? ⟨w.heap.size, 3, none⟩ = some (.slice pp np cp) := HR.out.cell 3
  have c4 : w2.cell? ⟨w.heap.size, 4, none⟩ = some (.slice pi ni ci) := HR.out.cell 4
  go_enter Try.func12, Try.ntmps12
  go_upto_region 1 with fail
  refine wp_world H2.out ?_
  clear H2
  go_wp2_with fail
  all_goals
    go_ret
    refine ⟨⟨_, rfl, ?_⟩, HB.out⟩
    first
      | (simp only [Bool.false_eq_true, false_iff, beq_iff_eq]; omega)
      | (simp only [Bool.false_eq_true, false_iff, true_iff, beq_iff_eq, decide_eq_true_eq, bne_iff_ne, ne_eq] at *; omega)
      | (simp at *; omega)
set_option maxHeartbeats 2000000 in
set_option maxRecDepth 100000 in
theorem rcheck_file (w : World) (k s : Int) (d : ByteArray) (np ni cp ci : Nat) (pp pi : Option Addr) (hk1 : k ≠ 1) (hk3 : k ≠ 3) :
    Calls Try.prog 12 #[.agg #[.int .i64 k, .string d, .int .i64 s, .slice pp np cp, .slice pi ni ci]] w fun e w' => Says e (k = 2 ∧ d.size = 0 ∧ 0 ≤ s ∧ s ≤ 1024 ∧ np = pieces s ∧ ni = 0) ∧ Below w.heap.size w w' := by
  obtain ⟨w2, H2, HR, HB, HS⟩ := node_row w k s d (.slice pp np cp) (.slice pi ni ci)
  have c0 : w2.cell? ⟨w.heap.size, 0, none⟩ = some (.int .i64 k) := HR.out.cell 0
  have c1 : w2.cell? ⟨w.heap.size, 1, none⟩ = some (.string d) := HR.out.cell 1
  have c2 : w2.cell? ⟨w.heap.size, 2, none⟩ = some (.int .i64 s) := HR.out.cell 2
  have c3 : w2.cell? ⟨w.heap.size, 3, none⟩ = some (.slice pp np cp) := HR.out.cell 3
  have c4 : w2.cell? ⟨w.heap.size, 4, none⟩ = some (.slice pi ni ci) := HR.out.cell 4
  have e1 : (k == 1) = false := beq_eq_false_iff_ne.2 hk1
  have e3 : (k == 3) = false := beq_eq_false_iff_ne.2 hk3
  by_cases hd : d.size = 0
  · have hd1 : d.toList = [] := toList_nil.2 hd
    have hd2 : d.toList.isEmpty = true := by rw [hd1]; rfl
    by_cases hk2 : k = 2
    · subst hk2
      by_cases hs : 0 ≤ s ∧ s ≤ 1024 ∧ ni = 0
      · obtain ⟨hs0, hs1, rfl⟩ := hs
        have hs2 : ¬ (s < 0) := by omega
        clear hk1 hk3 e1 e3
        go_enter Try.func12, Try.ntmps12
        go_upto_region 1 with fail
        refine wp_world H2.out ?_
        clear H2
        go_wp2_with fail
        go_loopw [3, 4] (fun vk vl W => ∃ j : Nat, vk = .int .i64 (j : Int) ∧ vl = .int .i64 (s - 64 * (j : Int)) ∧ W = w2 ∧ (0 < j → 0 < s - 64 * ((j : Int) - 1))) (fun _ vl _ => (intOf vl + 64).toNat)
        case atStart => exact ⟨0, rfl, by simp, rfl, by omega⟩
        case round =>
          obtain ⟨j, rfl, rfl, rfl, hj⟩ := hrel
          by_cases hlt : 0 < s - 64 * (j : Int)
          · go_wp2_with fail
            go_roundw
            case rel =>
              go_light
              exact ⟨j + 1, by go_num, by go_num, trivial, fun _ => by omega⟩
            case measure => simp [intOf]; omega
          · have HPJ : Hid (pieces s = j) := by show _ = _; unfold pieces; omega
            go_wp2_with fail
            go_ret
            refine ⟨⟨_, rfl, ?_⟩, HB.out⟩
            rw [HPJ.out]
            simp
            omega
      · have HN : Hid (¬ (0 ≤ s ∧ s ≤ 1024 ∧ ni = 0)) := hs
        clear hk1 hk3 e1 e3
        rcases (show s < 0 ∨ (0 ≤ s ∧ 1024 < s) ∨ (0 ≤ s ∧ s ≤ 1024 ∧ ni ≠ 0) by omega) with h | ⟨h, h'⟩ | ⟨h, h', h''⟩
        all_goals clear hs
        · go_enter Try.func12, Try.ntmps12
          go_upto_region 1 with fail
          refine wp_world H2.out ?_
          clear H2
          go_wp2_with fail
          go_ret
          exact ⟨Says.no rfl (by first | omega | exact fun q => q.elim), HB.out⟩
        · have g1 : ¬ (s < 0) := by omega
          go_enter Try.func12, Try.ntmps12
          go_upto_region 1 with fail
          refine wp_world H2.out ?_
          clear H2
          go_wp2_with fail
          go_ret
          exact ⟨Says.no rfl (by first | omega | exact fun q => q.elim), HB.out⟩
        · have g1 : ¬ (s < 0) := by omega
          have g2 : ((ni : Int) == 0) = false := by rw [beq_eq_false_iff_ne]; omega
          have g3 : ¬ ((1024 : Int) < s) := by omega
          have g4 : ¬ ((ni : Int) = 0) := by omega
          go_enter Try.func12, Try.ntmps12
          go_upto_region 1 with fail
          refine wp_world H2.out ?_
          clear H2
          go_wp2_with fail
          go_ret
          exact ⟨Says.no rfl (by first | omega | exact fun q => q.elim), HB.out⟩
    · have e2 : (k == 2) = false := beq_eq_false_iff_ne.2 hk2
      go_enter Try.func12, Try.ntmps12
      go_upto_region 1 with fail
      refine wp_world H2.out ?_
      clear H2
      go_wp2_with fail
      go_ret
      exact ⟨Says.no rfl (by intro q; first | exact q.elim | exact hk2 q.1), HB.out⟩
  · have hd1 : d.toList ≠ [] := fun h => hd (toList_nil.1 h)
    have hd2 : d.toList.isEmpty = false := by cases h : d.toList; exact absurd h hd1; rfl
    go_enter Try.func12, Try.ntmps12
    go_upto_region 1 with fail
    refine wp_world H2.out ?_
    clear H2
    go_wp2_with fail
    go_ret
    exact ⟨Says.no rfl (by intro q; first | exact q.elim | exact hd q.2.1), HB.out⟩
end Go.Proofs.Ytbccjomnfclkdaa
