/-
  The walks of isData, isSize, pieces, of vpath.Check at one name, and of isItem.
-/
import Derived.Test.YtbccjomnfclkdaaN0
namespace Go.Proofs.Ytbccjomnfclkdaa
open Go.RowKit
set_option maxHeartbeats 400000 in
theorem isData_any (s : ByteArray) (hs : s.size ≤ 9223372036854775807) (w : World) : Calls Try.prog 44 #[.string s] w fun e w' => e = .returned (.bool (decide (1 ≤ s.size ∧ s.size ≤ 64))) ∧ w' = w := by
  have hT : s.toList.length = s.size := by rw [Lib.toList_data]; exact bl_length s
  obtain ⟨R, HR⟩ : ∃ R, Hid (R = decide (1 ≤ s.size ∧ s.size ≤ 64)) := ⟨_, rfl⟩
  rw [← HR.out]
  rcases Nat.eq_zero_or_pos s.size with h0 | h0
  · have h1 : s.toList = [] := List.length_eq_zero_iff.1 (by omega)
    have h2 : s.toList.isEmpty = true := by rw [h1]; rfl
    clear hT
    go_enter Try.func44, Try.ntmps44
    go_wp2_with fail
    go_ret
    exact ⟨congrArg (fun z => Ending.returned (Value.bool z)) ((decide_eq_false (by omega)).symm.trans HR.out.symm), rfl⟩
  · have h1 : s.toList ≠ [] := by intro h; rw [h] at hT; simp at hT; omega
    have h2 : s.toList.isEmpty = false := by cases h : s.toList; exact absurd h h1; rfl
    clear hT
    by_cases h3 : s.size ≤ 64
    · have h4 : (s.size : Int) ≤ 64 := by omega
      go_enter Try.func44, Try.ntmps44
      go_wp2_with fail
      go_ret
      exact ⟨congrArg (fun z => Ending.returned (Value.bool z)) ((decide_eq_true (by omega)).symm.trans HR.out.symm), rfl⟩
    · have h4 : ¬ (s.size : Int) ≤ 64 := by omega
      go_enter Try.func44, Try.ntmps44
      go_wp2_with fail
      go_ret
      exact ⟨congrArg (fun z => Ending.returned (Value.bool z)) ((decide_eq_false (by omega)).symm.trans HR.out.symm), rfl⟩
set_option maxHeartbeats 400000 in
theorem isSize_any (n : Int) (w : World) : Calls Try.prog 46 #[.int .i64 n] w fun e w' => e = .returned (.bool (decide (0 ≤ n ∧ n ≤ 1024))) ∧ w' = w := by
  obtain ⟨R, HR⟩ : ∃ R, Hid (R = decide (0 ≤ n ∧ n ≤ 1024)) := ⟨_, rfl⟩
  rw [← HR.out]
  by_cases h0 : 0 ≤ n
  · by_cases h1 : n ≤ 1024
    all_goals
      go_enter Try.func46, Try.ntmps46
      go_wp2_with fail
      go_ret
    · exact ⟨congrArg (fun z => Ending.returned (Value.bool z)) ((decide_eq_true (by omega)).symm.trans HR.out.symm), rfl⟩
    · exact ⟨congrArg (fun z => Ending.returned (Value.bool z)) ((decide_eq_false (by omega)).symm.trans HR.out.symm), rfl⟩
  · go_enter Try.func46, Try.ntmps46
    go_wp2_with fail
    go_ret
    exact ⟨congrArg (fun z => Ending.returned (Value.bool z)) ((decide_eq_false (by omega)).symm.trans HR.out.symm), rfl⟩
theorem pieces_any (n : Int) (h0 : 0 ≤ n) (h1 : n ≤ 1025) (w : World) : Calls Try.prog 47 #[.int .i64 n] w fun e w' => e = .returned (.int .i64 (pieces n : Int)) ∧ w' = w := by
  have HR : Hid ((pieces n : Int) = (n + 64 - 1) / 64) := by
    show _ = _
    unfold pieces
    omega
  rw [HR.out]
  go_enter Try.func47, Try.ntmps47
  go_wp2_with fail
  go_ret
  refine ⟨?_, rfl⟩
  go_num
set_option maxHeartbeats 400000 in
/-- vpath.Check at one name -/
theorem vcheck_one (x : Str) (hx : x.length ≤ 9223372036854775807) (w : World) (g : Nat) (c0 : w.cell? ⟨g, 0, none⟩ = some (.string (BA x))) :
    Calls Try.prog 58 #[.slice (some ⟨g, 0, none⟩) 1 1] w fun e w' => e = .returned (.int .i64 (if isNameS x then 0 else 41)) ∧ w' = w := by
  have hn := isName_any x hx w
  generalize BA x = s at c0 hn
  go_enter Try.func58, Try.ntmps58
  go_wp2_with fail
  go_loopw [7] (fun vi w' => w' = w ∧ ∃ i : Nat, i ≤ 1 ∧ vi = .int .i64 (i : Int) ∧ (i = 1 → isNameS x = true)) (fun vi _ => 1 - (intOf vi).toNat)
  case atStart => exact ⟨rfl, 0, by omega, rfl, by omega⟩
  case round =>
    obtain ⟨rfl, i, hi, rfl, hall⟩ := hrel
    rcases (show i = 0 ∨ i = 1 by omega) with rfl | rfl
    · cases hb : isNameS x
      · rw [hb] at hn
        go_wp2_with (first | (go_at_call 59; refine hn.mono ?_; rintro e w' ⟨rfl, hw⟩; obtain rfl := hw.symm))
        all_goals
          go_ret
          exact ⟨rfl, rfl⟩
      · rw [hb] at hn
        have HB := hid_in hb
        clear hb
        go_wp2_with (first | (go_at_call 59; refine hn.mono ?_; rintro e w' ⟨rfl, hw⟩; obtain rfl := hw.symm))
        go_roundw
        case rel =>
          go_light
          exact ⟨trivial, 1, by omega, by go_num, fun _ => by first | exact HB.out | trivial⟩
        case measure => simp [intOf]
    · have HB := hid_in (hall rfl)
      clear hall
      rw [HB.out]
      go_wp2_with fail
      go_ret
      exact ⟨rfl, rfl⟩
theorem bl_le (s : ByteArray) (hs : s.size ≤ 9223372036854775807) : (bl s).length ≤ 9223372036854775807 := by rw [bl_length]; exact hs
theorem It.cells_length (x : It) (h : x.sum.length = 32) : x.cells.length = 34 := by simp [It.cells, h]
/-- a row whose first two cells are known -/
theorem item_row (w : World) (x : It) : ∃ w2, Hid (w.alloc (.cells x.cells.toArray 51) = w2) ∧ Hid (Row w2 w.heap.size x.cells 51) ∧ Hid (Below w.heap.size w w2) ∧ w2.cell? ⟨w.heap.size, 0, none⟩ = some (.string x.name) ∧ w2.cell? ⟨w.heap.size, 1, none⟩ = some (.int .i64 x.kind) ∧ Hid (w2.heap.size = w.heap.size + 1) :=
  ⟨_, rfl, Row.new w _ 51, (Below.refl _ _).alloc (Nat.le_refl _) _, (Row.new w x.cells 51).cell 0, (Row.new w x.cells 51).cell 1, by show _ = _; simp⟩
set_option maxHeartbeats 1000000 in
theorem isItem_any (x : It) (hn : x.name.size ≤ 9223372036854775807) (w : World) :
    Calls Try.prog 53 #[.agg x.cells.toArray] w fun e w' => e = .returned (.bool (itemOk x)) ∧ Below w.heap.size w w' := by
  obtain ⟨w2, H2, HR, HB, c0, c1, HS⟩ := item_row w x
  have HV := hid_in (fun W g (c : World.cell? W ⟨g, 0, none⟩ = some (.string x.name)) => vcheck_one (bl x.name) (bl_le _ hn) W g (by rw [BA_bl]; exact c))
  obtain ⟨R, HRR⟩ : ∃ R, Hid (R = itemOk x) := ⟨_, rfl⟩
  rw [← HRR.out]
  unfold itemOk at HRR
  generalize x.cells = cs at *
  generalize hnm : x.name = nm at *
  generalize x.kind = K at *
  clear hnm
  cases hb : isNameS (bl nm)
  all_goals
    rw [hb] at HV HRR
    simp only [Bool.and_true, Bool.and_false] at HRR
    clear hb
    by_cases h2 : K = 2
    · subst h2
      go_enter Try.func53, Try.ntmps53
      go_upto_region 1 with fail
      refine wp_world H2.out ?_
      clear H2
      go_wp2_with (first | (go_at_call 58; refine (HV.out _ _ ((Row.newAt _ _ [Value.string nm] _ rfl).cell 0)).mono ?_; rintro e w' ⟨rfl, hw⟩; obtain rfl := hw.symm))
      go_ret
      exact ⟨congrArg (fun z => Ending.returned (Value.bool z)) HRR.out.symm, HB.out.alloc HB.out.size _⟩
    · by_cases h3 : K = 3
      · subst h3
        go_enter Try.func53, Try.ntmps53
        go_upto_region 1 with fail
        refine wp_world H2.out ?_
        clear H2
        go_wp2_with (first | (go_at_call 58; refine (HV.out _ _ ((Row.newAt _ _ [Value.string nm] _ rfl).cell 0)).mono ?_; rintro e w' ⟨rfl, hw⟩; obtain rfl := hw.symm))
        go_ret
        exact ⟨congrArg (fun z => Ending.returned (Value.bool z)) HRR.out.symm, HB.out.alloc HB.out.size _⟩
      · have e2 : (K == 2) = false := beq_eq_false_iff_ne.2 h2
        have e3 : (K == 3) = false := beq_eq_false_iff_ne.2 h3
        have HRF : Hid (R = false) := by show _ = _; first | exact HRR.out | (rw [HRR.out]; simp [e2, e3])
        clear HRR
        rw [HRF.out]
        go_enter Try.func53, Try.ntmps53
        go_upto_region 1 with fail
        refine wp_world H2.out ?_
        clear H2
        go_wp2_with fail
        go_ret
        exact ⟨rfl, HB.out⟩
end Go.Proofs.Ytbccjomnfclkdaa
