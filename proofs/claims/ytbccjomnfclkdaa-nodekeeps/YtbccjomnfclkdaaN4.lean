/-
  The walks of isRight and of node.Check.
-/
import Derived.Test.YtbccjomnfclkdaaN3
namespace Go.Proofs.Ytbccjomnfclkdaa
open Go.RowKit
/-- how long the texts of a node are -/
def Nd.short (n : Nd) : Prop := n.data.size ≤ 9223372036854775807 ∧ ∀ x ∈ n.items, x.name.size ≤ 9223372036854775807
theorem toList_nil {s : ByteArray} : s.toList = [] ↔ s.size = 0 := by
  rw [← List.length_eq_zero_iff, show s.toList.length = s.size by rw [Lib.toList_data]; exact bl_length s]
/-- a node in a block of its own -/
theorem node_row (w : World) (k s : Int) (d : ByteArray) (vp vi : Value) : ∃ w2, Hid (w.alloc (.cells #[.int .i64 k, .string d, .int .i64 s, vp, vi] 31) = w2) ∧ Hid (Row w2 w.heap.size [.int .i64 k, .string d, .int .i64 s, vp, vi] 31) ∧ Hid (Below w.heap.size w w2) ∧ Hid (w2.heap.size = w.heap.size + 1) :=
  ⟨_, rfl, Row.new w [.int .i64 k, .string d, .int .i64 s, vp, vi] 31, (Below.refl _ _).alloc (Nat.le_refl _) _, by show _ = _; simp⟩
theorem pieces0 (w : World) : Calls Try.prog 47 #[.int .i64 0] w fun e w' => e = .returned (.int .i64 0) ∧ w' = w := pieces_any 0 (by decide) (by decide) w
theorem isSize0 (w : World) : Calls Try.prog 46 #[.int .i64 0] w fun e w' => e = .returned (.bool true) ∧ w' = w := isSize_any 0 w
set_option maxHeartbeats 2000000 in
set_option maxRecDepth 100000 in
/-- a file's node, or one of another kind -/
theorem right_file (w : World) (k s : Int) (d : ByteArray) (np ni cp ci : Nat) (pp pi : Option Addr) (hk1 : k ≠ 1) (hk3 : k ≠ 3) :
    Calls Try.prog 29 #[.agg #[.int .i64 k, .string d, .int .i64 s, .slice pp np cp, .slice pi ni ci]] w fun e w' => Says e (k = 2 ∧ d.size = 0 ∧ 0 ≤ s ∧ s ≤ 1024 ∧ np = pieces s ∧ ni = 0) ∧ Below w.heap.size w w' := by
  obtain ⟨w2, H2, HR, HB, HS⟩ := node_row w k s d (.slice pp np cp) (.slice pi ni ci)
  have c0 : w2.cell? ⟨w.heap.size, 0, none⟩ = some (.int .i64 k) := HR.out.cell 0
  have c1 : w2.cell? ⟨w.heap.size, 1, none⟩ = some (.string d) := HR.out.cell 1
  have c2 : w2.cell? ⟨w.heap.size, 2, none⟩ = some (.int .i64 s) := HR.out.cell 2
  have c3 : w2.cell? ⟨w.heap.size, 3, none⟩ = some (.slice pp np cp) := HR.out.cell 3
  have c4 : w2.cell? ⟨w.heap.size, 4, none⟩ = some (.slice pi ni ci) := HR.out.cell 4
  have e1 : (k == 1) = false := beq_eq_false_iff_ne.2 hk1
  have e3 : (k == 3) = false := beq_eq_false_iff_ne.2 hk3
  by_cases hk2 : k = 2
  · subst hk2
    clear hk1 hk3
    have HPC : Hid (∀ W, 0 ≤ s ∧ s ≤ 1024 → Calls Try.prog 47 #[.int .i64 s] W fun e w' => e = .returned (.int .i64 (pieces s : Int)) ∧ w' = W) := fun W h => pieces_any s h.1 (by omega) W
    have HSZ := hid_in (fun W => isSize_any s W)
    by_cases hd : d.size = 0
    · have hd1 : d.toList = [] := toList_nil.2 hd
      have hd2 : d.toList.isEmpty = true := by rw [hd1]; rfl
      by_cases hs : 0 ≤ s ∧ s ≤ 1024
      · rw [decide_eq_true hs] at HSZ
        have HPC := hid_in (fun W => HPC.out W hs)
        have HHS := hid_in hs
        clear hs
        by_cases hp : np = pieces s
        · rw [← hp] at HPC
          have HPP := hid_in hp
          clear hp
          by_cases hi : ni = 0
          · subst hi
            go_enter Try.func29, Try.ntmps29
            go_upto_region 1 with fail
            refine wp_world H2.out ?_
            clear H2
            go_wp2_with fail
            go_quiet (first | (go_at_call 46; exact Calls.quiet_of_same (HSZ.out _)) | (go_at_call 47; exact Calls.quiet_of_same (HPC.out _)))
            go_wp2
            go_ret
            exact ⟨Says.yes rfl ⟨trivial, hd, HHS.out.1, HHS.out.2, HPP.out, trivial⟩, below_drewN HB.out _⟩
          · have hi' : ((ni : Int) == 0) = false := by rw [beq_eq_false_iff_ne]; omega
            go_enter Try.func29, Try.ntmps29
            go_upto_region 1 with fail
            refine wp_world H2.out ?_
            clear H2
            go_wp2_with fail
            go_quiet (first | (go_at_call 46; exact Calls.quiet_of_same (HSZ.out _)) | (go_at_call 47; exact Calls.quiet_of_same (HPC.out _)))
            go_wp2
            go_ret
            exact ⟨Says.no rfl (fun h => hi h.2.2.2.2.2), below_drewN HB.out _⟩
        · have hp' : ((np : Int) == (pieces s : Int)) = false := by rw [beq_eq_false_iff_ne]; omega
          have HPN := hid_in hp
          clear hp
          generalize pieces s = P at *
          go_enter Try.func29, Try.ntmps29
          go_upto_region 1 with fail
          refine wp_world H2.out ?_
          clear H2
          go_wp2_with fail
          go_quiet (first | (go_at_call 46; exact Calls.quiet_of_same (HSZ.out _)) | (go_at_call 47; exact Calls.quiet_of_same (HPC.out _)))
          go_wp2
          go_ret
          exact ⟨Says.no rfl (fun h => HPN.out h.2.2.2.2.1), below_drewN HB.out _⟩
      · rw [decide_eq_false hs] at HSZ
        have HHS := hid_in hs
        clear hs
        go_enter Try.func29, Try.ntmps29
        go_upto_region 1 with fail
        refine wp_world H2.out ?_
        clear H2
        go_wp2_with fail
        go_quiet (first | (go_at_call 46; exact Calls.quiet_of_same (HSZ.out _)))
        go_wp2
        go_ret
        exact ⟨Says.no rfl (fun h => HHS.out ⟨h.2.2.1, h.2.2.2.1⟩), below_drewN HB.out _⟩
    · have hd1 : d.toList ≠ [] := fun h => hd (toList_nil.1 h)
      have hd2 : d.toList.isEmpty = false := by cases h : d.toList; exact absurd h hd1; rfl
      go_enter Try.func29, Try.ntmps29
      go_upto_region 1 with fail
      refine wp_world H2.out ?_
      clear H2
      go_wp2_with fail
      go_quiet (fail)
      go_wp2
      go_ret
      exact ⟨Says.no rfl (fun h => hd h.2.1), below_drewN HB.out _⟩
  · have e2 : (k == 2) = false := beq_eq_false_iff_ne.2 hk2
    go_enter Try.func29, Try.ntmps29
    go_upto_region 1 with fail
    refine wp_world H2.out ?_
    clear H2
    go_wp2_with fail
    go_ret
    exact ⟨Says.no rfl (fun h => hk2 h.1), HB.out⟩
set_option maxHeartbeats 2000000 in
set_option maxRecDepth 100000 in
/-- a directory's node -/
theorem right_dir (w : World) (s : Int) (d : ByteArray) (np ni cp ci : Nat) (pp pi : Option Addr) (P : Prop) (HAI : Hid (∀ W, Below w.heap.size w W → Calls Try.prog 45 #[.slice pi ni ci] W fun e w' => Says e P ∧ Below W.heap.size W w')) :
    Calls Try.prog 29 #[.agg #[.int .i64 3, .string d, .int .i64 s, .slice pp np cp, .slice pi ni ci]] w fun e w' => Says e (d.size = 0 ∧ s = 0 ∧ np = 0 ∧ P) ∧ Below w.heap.size w w' := by
  obtain ⟨w2, H2, HR, HB, HS⟩ := node_row w 3 s d (.slice pp np cp) (.slice pi ni ci)
  have c0 : w2.cell? ⟨w.heap.size, 0, none⟩ = some (.int .i64 3) := HR.out.cell 0
  have c2 : w2.cell? ⟨w.heap.size, 2, none⟩ = some (.int .i64 s) := HR.out.cell 2
  have c4 : w2.cell? ⟨w.heap.size, 4, none⟩ = some (.slice pi ni ci) := HR.out.cell 4
  have HSZ := hid_in isSize0
  have HPC := hid_in pieces0
  by_cases hs : s = 0
  · subst hs
    go_enter Try.func29, Try.ntmps29
    go_upto_region 1 with fail
    refine wp_world H2.out ?_
    clear H2
    go_upto_region 11 with (first | (go_at_call 45; refine (HAI.out _ HB.out).mono ?_; rintro e w3 ⟨hsays, hb3⟩; rcases hsays.cases with ⟨rfl, hP⟩ | ⟨rfl, hP⟩; all_goals (have hr3 := HR.out.below hb3 HR.out.lt; have HR3 := hid_in hr3; have d0 : w3.cell? ⟨w.heap.size, 0, none⟩ = some (.int .i64 3) := hr3.cell 0; have d1 : w3.cell? ⟨w.heap.size, 1, none⟩ = some (.string d) := hr3.cell 1; have d2 : w3.cell? ⟨w.heap.size, 2, none⟩ = some (.int .i64 0) := hr3.cell 2; have d3 : w3.cell? ⟨w.heap.size, 3, none⟩ = some (.slice pp np cp) := hr3.cell 3; have d4 : w3.cell? ⟨w.heap.size, 4, none⟩ = some (.slice pi ni ci) := hr3.cell 4; have f4 := hr3.frozen 4; have HB3 := hid_in (HB.out.trans (hb3.mono HB.out.size)); have HPP := hid_in hP; clear hb3 hr3 hP hsays)))
    · have HB4 : Hid (Below w.heap.size w (w3.setCell ⟨w.heap.size, 4, none⟩ (.slice none 0 0))) := HB3.out.grown (grownBy_setCell _ _ _) HB3.out.size (fun k e => by cases e; exact Nat.le_refl _)
      by_cases hd : d.size = 0
      · have hd1 : d.toList = [] := toList_nil.2 hd
        have hd2 : d.toList.isEmpty = true := by rw [hd1]; rfl
        by_cases hnp : np = 0
        · subst hnp
          go_quiet (first | (go_at_call 46; exact Calls.quiet_of_same (HSZ.out _)) | (go_at_call 47; exact Calls.quiet_of_same (HPC.out _)))
          go_wp2
          go_ret
          exact ⟨Says.yes rfl (by first | exact HPP.out | exact ⟨hd, trivial, trivial, HPP.out⟩), below_drewN HB4.out _⟩
        · have hnp' : ((np : Int) == 0) = false := by rw [beq_eq_false_iff_ne]; omega
          go_quiet (first | (go_at_call 46; exact Calls.quiet_of_same (HSZ.out _)) | (go_at_call 47; exact Calls.quiet_of_same (HPC.out _)))
          go_wp2
          go_ret
          exact ⟨Says.no rfl (fun h => hnp h.2.2.1), below_drewN HB4.out _⟩
      · have hd1 : d.toList ≠ [] := fun h => hd (toList_nil.1 h)
        have hd2 : d.toList.isEmpty = false := by cases h : d.toList; exact absurd h hd1; rfl
        go_quiet (fail)
        go_wp2
        go_ret
        exact ⟨Says.no rfl (fun h => hd h.1), below_drewN HB4.out _⟩
    · go_wp2_with fail
      go_ret
      exact ⟨Says.no rfl (fun h => HPP.out h.2.2.2), HB3.out⟩
  · have hs' : (s != 0) = true := by simpa using hs
    have hs2 : (s == 0) = false := by simpa using hs
    go_enter Try.func29, Try.ntmps29
    go_upto_region 1 with fail
    refine wp_world H2.out ?_
    clear H2
    go_wp2_with fail
    go_ret
    exact ⟨Says.no rfl (fun h => hs h.2.1), HB.out⟩
set_option maxHeartbeats 2000000 in
set_option maxRecDepth 100000 in
/-- a chunk's node -/
theorem right_chunk (w : World) (s : Int) (d : ByteArray) (hdl : d.size ≤ 9223372036854775807) (np ni cp ci : Nat) (pp pi : Option Addr) (HAI : Hid (ni = 0 → ∀ W, Below w.heap.size w W → Calls Try.prog 45 #[.slice pi ni ci] W fun e w' => e = .returned (.bool true) ∧ Below W.heap.size W w')) :
    Calls Try.prog 29 #[.agg #[.int .i64 1, .string d, .int .i64 s, .slice pp np cp, .slice pi ni ci]] w fun e w' => Says e (1 ≤ d.size ∧ d.size ≤ 64 ∧ s = 0 ∧ np = 0 ∧ ni = 0) ∧ Below w.heap.size w w' := by
  obtain ⟨w2, H2, HR, HB, HS⟩ := node_row w 1 s d (.slice pp np cp) (.slice pi ni ci)
  have c0 : w2.cell? ⟨w.heap.size, 0, none⟩ = some (.int .i64 1) := HR.out.cell 0
  have c1 : w2.cell? ⟨w.heap.size, 1, none⟩ = some (.string d) := HR.out.cell 1
  have c2 : w2.cell? ⟨w.heap.size, 2, none⟩ = some (.int .i64 s) := HR.out.cell 2
  have c4 : w2.cell? ⟨w.heap.size, 4, none⟩ = some (.slice pi ni ci) := HR.out.cell 4
  have f1 := HR.out.frozen 1
  have HSZ := hid_in isSize0
  have HPC := hid_in pieces0
  have HDT := hid_in (fun W => isData_any d hdl W)
  by_cases hd : 1 ≤ d.size ∧ d.size ≤ 64
  · rw [decide_eq_true hd] at HDT
    have HD := hid_in hd
    clear hd
    by_cases hi : ni = 0
    · subst hi
      have HAJ := hid_in (HAI.out rfl)
      by_cases hs : s = 0
      · subst hs
        have HRS : Hid (Row (w2.setCell ⟨w.heap.size, 1, none⟩ (.string ⟨#[]⟩)) w.heap.size [.int .i64 1, .string ⟨#[]⟩, .int .i64 0, .slice pp np cp, .slice pi 0 ci] 31) := HR.out.set_same 1 _
        have HBS : Hid (Below w.heap.size w (w2.setCell ⟨w.heap.size, 1, none⟩ (.string ⟨#[]⟩))) := HB.out.grown (grownBy_setCell _ _ _) HB.out.size (fun k e => by cases e; exact Nat.le_refl _)
        obtain ⟨w4, H4⟩ : ∃ w4, Hid (w2.setCell ⟨w.heap.size, 1, none⟩ (.string ⟨#[]⟩) = w4) := ⟨_, rfl⟩
        rw [H4.out] at HRS HBS
        have g2 : w4.cell? ⟨w.heap.size, 2, none⟩ = some (.int .i64 0) := HRS.out.cell 2
        have g4 : w4.cell? ⟨w.heap.size, 4, none⟩ = some (.slice pi 0 ci) := HRS.out.cell 4
        go_enter Try.func29, Try.ntmps29
        go_upto_region 1 with fail
        refine wp_world H2.out ?_
        clear H2
        go_upto_region 8 with (first | (go_at_call 44; refine (HDT.out _).mono ?_; rintro e w3 ⟨rfl, hw⟩; obtain rfl := hw.symm))
        refine wp_world H4.out ?_
        clear H4
        go_wp2_with fail
        (go_at_call 45; refine (HAJ.out _ HBS.out).mono ?_; rintro e w5 ⟨rfl, hb3⟩; have hr3 := HRS.out.below hb3 HRS.out.lt; have HR3 := hid_in hr3; have d0 : w5.cell? ⟨w.heap.size, 0, none⟩ = some (.int .i64 1) := hr3.cell 0; have d1 : w5.cell? ⟨w.heap.size, 1, none⟩ = some (.string ⟨#[]⟩) := hr3.cell 1; have d2 : w5.cell? ⟨w.heap.size, 2, none⟩ = some (.int .i64 0) := hr3.cell 2; have d3 : w5.cell? ⟨w.heap.size, 3, none⟩ = some (.slice pp np cp) := hr3.cell 3; have d4 : w5.cell? ⟨w.heap.size, 4, none⟩ = some (.slice pi 0 ci) := hr3.cell 4; have f4 := hr3.frozen 4; have HB3 := hid_in (HBS.out.trans (hb3.mono HBS.out.size)); clear hb3 hr3)
        go_upto_region 11 with fail
        have HB4 : Hid (Below w.heap.size w (w5.setCell ⟨w.heap.size, 4, none⟩ (.slice none 0 0))) := HB3.out.grown (grownBy_setCell _ _ _) HB3.out.size (fun k e => by cases e; exact Nat.le_refl _)
        by_cases hnp : np = 0
        · subst hnp
          go_quiet (first | (go_at_call 46; exact Calls.quiet_of_same (HSZ.out _)) | (go_at_call 47; exact Calls.quiet_of_same (HPC.out _)))
          go_wp2
          go_ret
          exact ⟨Says.yes rfl (by simpa using HD.out), below_drewN HB4.out _⟩
        · have hnp' : ((np : Int) == 0) = false := by rw [beq_eq_false_iff_ne]; omega
          go_quiet (first | (go_at_call 46; exact Calls.quiet_of_same (HSZ.out _)) | (go_at_call 47; exact Calls.quiet_of_same (HPC.out _)))
          go_wp2
          go_ret
          exact ⟨Says.no rfl (fun h => hnp h.2.2.2.1), below_drewN HB4.out _⟩
      · have hs' : (s != 0) = true := by simpa using hs
        have hs2 : (s == 0) = false := by simpa using hs
        have HBS : Hid (Below w.heap.size w (w2.setCell ⟨w.heap.size, 1, none⟩ (.string ⟨#[]⟩))) := HB.out.grown (grownBy_setCell _ _ _) HB.out.size (fun k e => by cases e; exact Nat.le_refl _)
        go_enter Try.func29, Try.ntmps29
        go_upto_region 1 with fail
        refine wp_world H2.out ?_
        clear H2
        go_wp2_with (first | (go_at_call 44; refine (HDT.out _).mono ?_; rintro e w3 ⟨rfl, hw⟩; obtain rfl := hw.symm))
        go_ret
        exact ⟨Says.no rfl (fun h => hs h.2.2.1), HBS.out⟩
    · have hi' : (0 : Int) < (ni : Int) := by omega
      go_enter Try.func29, Try.ntmps29
      go_upto_region 1 with fail
      refine wp_world H2.out ?_
      clear H2
      go_wp2_with (first | (go_at_call 44; refine (HDT.out _).mono ?_; rintro e w3 ⟨rfl, hw⟩; obtain rfl := hw.symm))
      go_ret
      exact ⟨Says.no rfl (fun h => hi h.2.2.2.2), HB.out⟩
  · rw [decide_eq_false hd] at HDT
    have HD := hid_in hd
    clear hd
    go_enter Try.func29, Try.ntmps29
    go_upto_region 1 with fail
    refine wp_world H2.out ?_
    clear H2
    go_wp2_with (first | (go_at_call 44; refine (HDT.out _).mono ?_; rintro e w3 ⟨rfl, hw⟩; obtain rfl := hw.symm))
    go_ret
    exact ⟨Says.no rfl (fun h => HD.out ⟨h.1, h.2.1⟩), HB.out⟩
theorem Says.mono {e : Ending} {P Q : Prop} (h : Says e P) (hpq : P ↔ Q) : Says e Q := by
  obtain ⟨R, h1, h2⟩ := h
  exact ⟨R, h1, h2.trans hpq⟩
theorem isRight_any (w : World) (v : Value) (n : Nd) (h : IsN w v n) (hs : n.short) : Calls Try.prog 29 #[v] w fun e w' => Says e (right n) ∧ Below w.heap.size w w' := by
  obtain ⟨vp, vi, rfl, hp, hi⟩ := h.ex
  have HAI : Hid (∀ W, Below w.heap.size w W → Calls Try.prog 45 #[vi] W fun e w' => Says e (itemsOk n.items) ∧ Below W.heap.size W w') := fun W hW => areItems_any n.items vi W (hi.below hW) h.ok.items hs.2
  obtain ⟨pp, cp, _, _, rfl, _⟩ := hp.ex
  obtain ⟨pi, ci, _, _, rfl, _⟩ := hi.ex
  rw [List.length_map] at *
  rw [List.length_map] at *
  have e0 : n.parts.length = 0 ↔ n.parts = [] := List.length_eq_zero_iff
  have e1 : n.items.length = 0 ↔ n.items = [] := List.length_eq_zero_iff
  by_cases h1 : n.kind = 1
  · rw [h1]
    refine (right_chunk w n.size n.data hs.1 n.parts.length n.items.length cp ci pp pi (fun h0 W hW => ?_)).mono ?_
    · refine (HAI.out W hW).mono ?_
      rintro e w' ⟨hsay, hb⟩
      rcases hsay.cases with ⟨rfl, _⟩ | ⟨_, hno⟩
      · exact ⟨rfl, hb⟩
      · exact absurd (show itemsOk n.items by rw [e1.1 h0]; exact ⟨by simp, fun i hi => by simp at hi⟩) hno
    · rintro e w' ⟨hsay, hb⟩
      refine ⟨hsay.mono ?_, hb⟩
      unfold right
      rw [e0, e1, h1]
      simp
  · by_cases h3 : n.kind = 3
    · rw [h3]
      refine (right_dir w n.size n.data n.parts.length n.items.length cp ci pp pi (itemsOk n.items) HAI).mono ?_
      rintro e w' ⟨hsay, hb⟩
      refine ⟨hsay.mono ?_, hb⟩
      unfold right
      rw [e0, h3]
      simp
    · refine (right_file w n.kind n.size n.data n.parts.length n.items.length cp ci pp pi h1 h3).mono ?_
      rintro e w' ⟨hsay, hb⟩
      refine ⟨hsay.mono ?_, hb⟩
      unfold right
      rw [e1]
      simp [h1, h3]
set_option maxHeartbeats 400000 in
theorem check_any (w : World) (v : Value) (n : Nd) (h : IsN w v n) (hs : n.short) : Calls Try.prog 13 #[v] w fun e w' => (∃ r : Int, e = .returned (.int .i64 r) ∧ ((r = 0 ∧ right n) ∨ (r = 21 ∧ ¬ right n))) ∧ Below w.heap.size w w' := by
  obtain ⟨vp, vi, hv, _⟩ := h.ex
  have HC := hid_in (fun W hW => isRight_any W v n (h.below hW) hs)
  obtain ⟨w2, H2, HR, HB, HS⟩ := node_row w n.kind n.size n.data vp vi
  have c0 := HR.out.cell 0
  have c1 := HR.out.cell 1
  have c2 := HR.out.cell 2
  have c3 := HR.out.cell 3
  have c4 := HR.out.cell 4
  simp only [List.getElem?_cons_zero, List.getElem?_cons_succ] at c0 c1 c2 c3 c4
  rw [hv] at HC ⊢
  clear h hs hv
  go_enter Try.func13, Try.ntmps13
  go_upto_region 1 with fail
  refine wp_world H2.out ?_
  clear H2
  go_wp2_with (first | (go_at_call 29; refine (HC.out _ HB.out).mono ?_; rintro e w3 ⟨hsays, hb3⟩; rcases hsays.cases with ⟨rfl, hP⟩ | ⟨rfl, hP⟩; all_goals (have HB3 := hid_in (HB.out.trans (hb3.mono HB.out.size)); have HPP := hid_in hP; clear hb3 hP hsays)))
  · go_ret
    exact ⟨⟨0, rfl, .inl ⟨rfl, HPP.out⟩⟩, HB3.out⟩
  · go_ret
    exact ⟨⟨21, rfl, .inr ⟨rfl, HPP.out⟩⟩, HB3.out⟩
end Go.Proofs.Ytbccjomnfclkdaa
