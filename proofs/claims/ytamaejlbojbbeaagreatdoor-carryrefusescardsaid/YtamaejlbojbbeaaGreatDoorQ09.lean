/-
  The walks of isRight and of node.Check. Fields that are read, by states: what is still to be read and what was wrong; node.number. The walk of readParts. Lists of blobs of any length: IndexFunc, ContainsFunc over tooLong.
-/
import Derived.OwnWalk
import Derived.Test.YtamaejlbojbbeaaGreatDoorQ00
import Derived.Test.YtamaejlbojbbeaaGreatDoorQ01
import Derived.Test.YtamaejlbojbbeaaGreatDoorQ02
import Derived.Test.YtamaejlbojbbeaaGreatDoorQ03
import Derived.Test.YtamaejlbojbbeaaGreatDoorQ04
import Derived.Test.YtamaejlbojbbeaaGreatDoorQ05
import Derived.Test.YtamaejlbojbbeaaGreatDoorQ06
import Derived.Test.YtamaejlbojbbeaaGreatDoorQ07
import Derived.Test.YtamaejlbojbbeaaGreatDoorQ08
namespace Go.Proofs.YtamaejlbojbbeaaGreatDoor.Nd
open Go.RowKit
/-- how long the texts of a node are -/
def Nd.short (n : Nd) : Prop := n.data.size ≤ 9223372036854775807 ∧ ∀ x ∈ n.items, x.name.size ≤ 9223372036854775807
theorem toList_nil {s : ByteArray} : s.toList = [] ↔ s.size = 0 := by
  rw [← List.length_eq_zero_iff, show s.toList.length = s.size by rw [Lib.toList_data]; exact bl_length s]
/-- a node in a block of its own -/
theorem node_row (w : World) (k s : Int) (d : ByteArray) (vp vi : Value) : ∃ w2, Hid (w.alloc (.cells #[.int .i64 k, .string d, .int .i64 s, vp, vi] 108) = w2) ∧ Hid (Row w2 w.heap.size [.int .i64 k, .string d, .int .i64 s, vp, vi] 108) ∧ Hid (Below w.heap.size w w2) ∧ Hid (w2.heap.size = w.heap.size + 1) :=
  ⟨_, rfl, Row.new w [.int .i64 k, .string d, .int .i64 s, vp, vi] 108, (Below.refl _ _).alloc (Nat.le_refl _) _, by show _ = _; simp⟩
theorem pieces0 (w : World) : Calls Tryz.prog 170 #[.int .i64 0] w fun e w' => e = .returned (.int .i64 0) ∧ w' = w := pieces_any 0 (by decide) (by decide) w
theorem isSize0 (w : World) : Calls Tryz.prog 203 #[.int .i64 0] w fun e w' => e = .returned (.bool true) ∧ w' = w := isSize_any 0 w
set_option maxHeartbeats 2000000 in
set_option maxRecDepth 100000 in
/-- a file's node, or one of another kind -/
theorem right_file (w : World) (k s : Int) (d : ByteArray) (np ni cp ci : Nat) (pp pi : Option Addr) (hk1 : k ≠ 1) (hk3 : k ≠ 3) :
    Calls Tryz.prog 172 #[.agg #[.int .i64 k, .string d, .int .i64 s, .slice pp np cp, .slice pi ni ci]] w fun e w' => Says e (k = 2 ∧ d.size = 0 ∧ 0 ≤ s ∧ s ≤ 1024 ∧ np = pieces s ∧ ni = 0) ∧ Below w.heap.size w w' := by
  obtain ⟨w2, H2, HR, HB, HS⟩ := node_row w k s d (.slice pp np cp) (.slice pi ni ci)
  have c0 : w2.cell? ⟨w.heap.size, 0, none⟩ = some (.int .i64 k) := HR.out.cell 0
  have c1 : w2.cell? ⟨w.heap.size, 1, none⟩ = some (.string d) := HR.out.cell 1
  have c2 : w2.cell? ⟨w.heap.size, 2, none⟩ = some (.int .i64 s) := HR.out.cell 2
  have c3 : w2.cell? ⟨w.heap.size, 3, none⟩ = some (.slice pp np cp) := HR.out.cell 3
  have c4 : w2.cell? ⟨w.heap.size, 4, none⟩ = some (.slice pi ni ci) := HR.out.cell 4
  have e1 : (k == 1) = false := beq_eq_false_iff_ne.2 hk1
  have e3 : (k == 3) = false := beq_eq_false_iff_ne.2 hk3
  by_cases hk2 : k = 2
  · subst hk2
    clear hk1 hk3
    have HPC : Hid (∀ W, 0 ≤ s ∧ s ≤ 1024 → Calls Tryz.prog 170 #[.int .i64 s] W fun e w' => e = .returned (.int .i64 (pieces s : Int)) ∧ w' = W) := fun W h => pieces_any s h.1 (by omega) W
    have HSZ := hid_in (fun W => isSize_any s W)
    by_cases hd : d.size = 0
    · have hd1 : d.toList = [] := toList_nil.2 hd
      have hd2 : d.toList.isEmpty = true := by rw [hd1]; rfl
      by_cases hs : 0 ≤ s ∧ s ≤ 1024
      · rw [decide_eq_true hs] at HSZ
        have HPC := hid_in (fun W => HPC.out W hs)
        have HHS := hid_in hs
        clear hs
        by_cases hp : np = pieces s
        · rw [← hp] at HPC
          have HPP := hid_in hp
          clear hp
          by_cases hi : ni = 0
          · subst hi
            go_enter Tryz.func172, Tryz.ntmps172
            go_upto_region 1 with fail
            refine wp_world H2.out ?_
            clear H2
            go_wp2_with fail
            go_quiet (first | (go_at_call 203; exact Calls.quiet_of_same (HSZ.out _)) | (go_at_call 170; exact Calls.quiet_of_same (HPC.out _)))
            go_wp2
            go_ret
            exact ⟨Says.yes rfl ⟨trivial, hd, HHS.out.1, HHS.out.2, HPP.out, trivial⟩, below_drewN HB.out _⟩
          · have hi' : ((ni : Int) == 0) = false := by rw [beq_eq_false_iff_ne]; omega
            go_enter Tryz.func172, Tryz.ntmps172
            go_upto_region 1 with fail
            refine wp_world H2.out ?_
            clear H2
            go_wp2_with fail
            go_quiet (first | (go_at_call 203; exact Calls.quiet_of_same (HSZ.out _)) | (go_at_call 170; exact Calls.quiet_of_same (HPC.out _)))
            go_wp2
            go_ret
            exact ⟨Says.no rfl (fun h => hi h.2.2.2.2.2), below_drewN HB.out _⟩
        · have hp' : ((np : Int) == (pieces s : Int)) = false := by rw [beq_eq_false_iff_ne]; omega
          have HPN := hid_in hp
          clear hp
          generalize pieces s = P at *
          go_enter Tryz.func172, Tryz.ntmps172
          go_upto_region 1 with fail
          refine wp_world H2.out ?_
          clear H2
          go_wp2_with fail
          go_quiet (first | (go_at_call 203; exact Calls.quiet_of_same (HSZ.out _)) | (go_at_call 170; exact Calls.quiet_of_same (HPC.out _)))
          go_wp2
          go_ret
          exact ⟨Says.no rfl (fun h => HPN.out h.2.2.2.2.1), below_drewN HB.out _⟩
      · rw [decide_eq_false hs] at HSZ
        have HHS := hid_in hs
        clear hs
        go_enter Tryz.func172, Tryz.ntmps172
        go_upto_region 1 with fail
        refine wp_world H2.out ?_
        clear H2
        go_wp2_with fail
        go_quiet (first | (go_at_call 203; exact Calls.quiet_of_same (HSZ.out _)))
        go_wp2
        go_ret
        exact ⟨Says.no rfl (fun h => HHS.out ⟨h.2.2.1, h.2.2.2.1⟩), below_drewN HB.out _⟩
    · have hd1 : d.toList ≠ [] := fun h => hd (toList_nil.1 h)
      have hd2 : d.toList.isEmpty = false := by cases h : d.toList; exact absurd h hd1; rfl
      go_enter Tryz.func172, Tryz.ntmps172
      go_upto_region 1 with fail
      refine wp_world H2.out ?_
      clear H2
      go_wp2_with fail
      go_quiet (fail)
      go_wp2
      go_ret
      exact ⟨Says.no rfl (fun h => hd h.2.1), below_drewN HB.out _⟩
  · have e2 : (k == 2) = false := beq_eq_false_iff_ne.2 hk2
    go_enter Tryz.func172, Tryz.ntmps172
    go_upto_region 1 with fail
    refine wp_world H2.out ?_
    clear H2
    go_wp2_with fail
    go_ret
    exact ⟨Says.no rfl (fun h => hk2 h.1), HB.out⟩
set_option maxHeartbeats 2000000 in
set_option maxRecDepth 100000 in
/-- a directory's node -/
theorem right_dir (w : World) (s : Int) (d : ByteArray) (np ni cp ci : Nat) (pp pi : Option Addr) (P : Prop) (HAI : Hid (∀ W, Below w.heap.size w W → Calls Tryz.prog 202 #[.slice pi ni ci] W fun e w' => Says e P ∧ Below W.heap.size W w')) :
    Calls Tryz.prog 172 #[.agg #[.int .i64 3, .string d, .int .i64 s, .slice pp np cp, .slice pi ni ci]] w fun e w' => Says e (d.size = 0 ∧ s = 0 ∧ np = 0 ∧ P) ∧ Below w.heap.size w w' := by
  obtain ⟨w2, H2, HR, HB, HS⟩ := node_row w 3 s d (.slice pp np cp) (.slice pi ni ci)
  have c0 : w2.cell? ⟨w.heap.size, 0, none⟩ = some (.int .i64 3) := HR.out.cell 0
  have c2 : w2.cell? ⟨w.heap.size, 2, none⟩ = some (.int .i64 s) := HR.out.cell 2
  have c4 : w2.cell? ⟨w.heap.size, 4, none⟩ = some (.slice pi ni ci) := HR.out.cell 4
  have HSZ := hid_in isSize0
  have HPC := hid_in pieces0
  by_cases hs : s = 0
  · subst hs
    go_enter Tryz.func172, Tryz.ntmps172
    go_upto_region 1 with fail
    refine wp_world H2.out ?_
    clear H2
    go_upto_region 11 with (first | (go_at_call 202; refine (HAI.out _ HB.out).mono ?_; rintro e w3 ⟨hsays, hb3⟩; rcases hsays.cases with ⟨rfl, hP⟩ | ⟨rfl, hP⟩; all_goals (have hr3 := HR.out.below hb3 HR.out.lt; have HR3 := hid_in hr3; have d0 : w3.cell? ⟨w.heap.size, 0, none⟩ = some (.int .i64 3) := hr3.cell 0; have d1 : w3.cell? ⟨w.heap.size, 1, none⟩ = some (.string d) := hr3.cell 1; have d2 : w3.cell? ⟨w.heap.size, 2, none⟩ = some (.int .i64 0) := hr3.cell 2; have d3 : w3.cell? ⟨w.heap.size, 3, none⟩ = some (.slice pp np cp) := hr3.cell 3; have d4 : w3.cell? ⟨w.heap.size, 4, none⟩ = some (.slice pi ni ci) := hr3.cell 4; have f4 := hr3.frozen 4; have HB3 := hid_in (HB.out.trans (hb3.mono HB.out.size)); have HPP := hid_in hP; clear hb3 hr3 hP hsays)))
    · have HB4 : Hid (Below w.heap.size w (w3.setCell ⟨w.heap.size, 4, none⟩ (.slice none 0 0))) := HB3.out.grown (grownBy_setCell _ _ _) HB3.out.size (fun k e => by cases e; exact Nat.le_refl _)
      by_cases hd : d.size = 0
      · have hd1 : d.toList = [] := toList_nil.2 hd
        have hd2 : d.toList.isEmpty = true := by rw [hd1]; rfl
        by_cases hnp : np = 0
        · subst hnp
          go_quiet (first | (go_at_call 203; exact Calls.quiet_of_same (HSZ.out _)) | (go_at_call 170; exact Calls.quiet_of_same (HPC.out _)))
          go_wp2
          go_ret
          exact ⟨Says.yes rfl (by first | exact HPP.out | exact ⟨hd, trivial, trivial, HPP.out⟩), below_drewN HB4.out _⟩
        · have hnp' : ((np : Int) == 0) = false := by rw [beq_eq_false_iff_ne]; omega
          go_quiet (first | (go_at_call 203; exact Calls.quiet_of_same (HSZ.out _)) | (go_at_call 170; exact Calls.quiet_of_same (HPC.out _)))
          go_wp2
          go_ret
          exact ⟨Says.no rfl (fun h => hnp h.2.2.1), below_drewN HB4.out _⟩
      · have hd1 : d.toList ≠ [] := fun h => hd (toList_nil.1 h)
        have hd2 : d.toList.isEmpty = false := by cases h : d.toList; exact absurd h hd1; rfl
        go_quiet (fail)
        go_wp2
        go_ret
        exact ⟨Says.no rfl (fun h => hd h.1), below_drewN HB4.out _⟩
    · go_wp2_with fail
      go_ret
      exact ⟨Says.no rfl (fun h => HPP.out h.2.2.2), HB3.out⟩
  · have hs' : (s != 0) = true := by simpa using hs
    have hs2 : (s == 0) = false := by simpa using hs
    go_enter Tryz.func172, Tryz.ntmps172
    go_upto_region 1 with fail
    refine wp_world H2.out ?_
    clear H2
    go_wp2_with fail
    go_ret
    exact ⟨Says.no rfl (fun h => hs h.2.1), HB.out⟩
set_option maxHeartbeats 2000000 in
set_option maxRecDepth 100000 in
/-- a chunk's node -/
theorem right_chunk (w : World) (s : Int) (d : ByteArray) (hdl : d.size ≤ 9223372036854775807) (np ni cp ci : Nat) (pp pi : Option Addr) (HAI : Hid (ni = 0 → ∀ W, Below w.heap.size w W → Calls Tryz.prog 202 #[.slice pi ni ci] W fun e w' => e = .returned (.bool true) ∧ Below W.heap.size W w')) :
    Calls Tryz.prog 172 #[.agg #[.int .i64 1, .string d, .int .i64 s, .slice pp np cp, .slice pi ni ci]] w fun e w' => Says e (1 ≤ d.size ∧ d.size ≤ 64 ∧ s = 0 ∧ np = 0 ∧ ni = 0) ∧ Below w.heap.size w w' := by
  obtain ⟨w2, H2, HR, HB, HS⟩ := node_row w 1 s d (.slice pp np cp) (.slice pi ni ci)
  have c0 : w2.cell? ⟨w.heap.size, 0, none⟩ = some (.int .i64 1) := HR.out.cell 0
  have c1 : w2.cell? ⟨w.heap.size, 1, none⟩ = some (.string d) := HR.out.cell 1
  have c2 : w2.cell? ⟨w.heap.size, 2, none⟩ = some (.int .i64 s) := HR.out.cell 2
  have c4 : w2.cell? ⟨w.heap.size, 4, none⟩ = some (.slice pi ni ci) := HR.out.cell 4
  have f1 := HR.out.frozen 1
  have HSZ := hid_in isSize0
  have HPC := hid_in pieces0
  have HDT := hid_in (fun W => isData_any d hdl W)
  by_cases hd : 1 ≤ d.size ∧ d.size ≤ 64
  · rw [decide_eq_true hd] at HDT
    have HD := hid_in hd
    clear hd
    by_cases hi : ni = 0
    · subst hi
      have HAJ := hid_in (HAI.out rfl)
      by_cases hs : s = 0
      · subst hs
        have HRS : Hid (Row (w2.setCell ⟨w.heap.size, 1, none⟩ (.string ⟨#[]⟩)) w.heap.size [.int .i64 1, .string ⟨#[]⟩, .int .i64 0, .slice pp np cp, .slice pi 0 ci] 108) := HR.out.set_same 1 _
        have HBS : Hid (Below w.heap.size w (w2.setCell ⟨w.heap.size, 1, none⟩ (.string ⟨#[]⟩))) := HB.out.grown (grownBy_setCell _ _ _) HB.out.size (fun k e => by cases e; exact Nat.le_refl _)
        obtain ⟨w4, H4⟩ : ∃ w4, Hid (w2.setCell ⟨w.heap.size, 1, none⟩ (.string ⟨#[]⟩) = w4) := ⟨_, rfl⟩
        rw [H4.out] at HRS HBS
        have g2 : w4.cell? ⟨w.heap.size, 2, none⟩ = some (.int .i64 0) := HRS.out.cell 2
        have g4 : w4.cell? ⟨w.heap.size, 4, none⟩ = some (.slice pi 0 ci) := HRS.out.cell 4
        go_enter Tryz.func172, Tryz.ntmps172
        go_upto_region 1 with fail
        refine wp_world H2.out ?_
        clear H2
        go_upto_region 8 with (first | (go_at_call 201; refine (HDT.out _).mono ?_; rintro e w3 ⟨rfl, hw⟩; obtain rfl := hw.symm))
        refine wp_world H4.out ?_
        clear H4
        go_wp2_with fail
        (go_at_call 202; refine (HAJ.out _ HBS.out).mono ?_; rintro e w5 ⟨rfl, hb3⟩; have hr3 := HRS.out.below hb3 HRS.out.lt; have HR3 := hid_in hr3; have d0 : w5.cell? ⟨w.heap.size, 0, none⟩ = some (.int .i64 1) := hr3.cell 0; have d1 : w5.cell? ⟨w.heap.size, 1, none⟩ = some (.string ⟨#[]⟩) := hr3.cell 1; have d2 : w5.cell? ⟨w.heap.size, 2, none⟩ = some (.int .i64 0) := hr3.cell 2; have d3 : w5.cell? ⟨w.heap.size, 3, none⟩ = some (.slice pp np cp) := hr3.cell 3; have d4 : w5.cell? ⟨w.heap.size, 4, none⟩ = some (.slice pi 0 ci) := hr3.cell 4; have f4 := hr3.frozen 4; have HB3 := hid_in (HBS.out.trans (hb3.mono HBS.out.size)); clear hb3 hr3)
        go_upto_region 11 with fail
        have HB4 : Hid (Below w.heap.size w (w5.setCell ⟨w.heap.size, 4, none⟩ (.slice none 0 0))) := HB3.out.grown (grownBy_setCell _ _ _) HB3.out.size (fun k e => by cases e; exact Nat.le_refl _)
        by_cases hnp : np = 0
        · subst hnp
          go_quiet (first | (go_at_call 203; exact Calls.quiet_of_same (HSZ.out _)) | (go_at_call 170; exact Calls.quiet_of_same (HPC.out _)))
          go_wp2
          go_ret
          exact ⟨Says.yes rfl (by simpa using HD.out), below_drewN HB4.out _⟩
        · have hnp' : ((np : Int) == 0) = false := by rw [beq_eq_false_iff_ne]; omega
          go_quiet (first | (go_at_call 203; exact Calls.quiet_of_same (HSZ.out _)) | (go_at_call 170; exact Calls.quiet_of_same (HPC.out _)))
          go_wp2
          go_ret
          exact ⟨Says.no rfl (fun h => hnp h.2.2.2.1), below_drewN HB4.out _⟩
      · have hs' : (s != 0) = true := by simpa using hs
        have hs2 : (s == 0) = false := by simpa using hs
        have HBS : Hid (Below w.heap.size w (w2.setCell ⟨w.heap.size, 1, none⟩ (.string ⟨#[]⟩))) := HB.out.grown (grownBy_setCell _ _ _) HB.out.size (fun k e => by cases e; exact Nat.le_refl _)
        go_enter Tryz.func172, Tryz.ntmps172
        go_upto_region 1 with fail
        refine wp_world H2.out ?_
        clear H2
        go_wp2_with (first | (go_at_call 201; refine (HDT.out _).mono ?_; rintro e w3 ⟨rfl, hw⟩; obtain rfl := hw.symm))
        go_ret
        exact ⟨Says.no rfl (fun h => hs h.2.2.1), HBS.out⟩
    · have hi' : (0 : Int) < (ni : Int) := by omega
      go_enter Tryz.func172, Tryz.ntmps172
      go_upto_region 1 with fail
      refine wp_world H2.out ?_
      clear H2
      go_wp2_with (first | (go_at_call 201; refine (HDT.out _).mono ?_; rintro e w3 ⟨rfl, hw⟩; obtain rfl := hw.symm))
      go_ret
      exact ⟨Says.no rfl (fun h => hi h.2.2.2.2), HB.out⟩
  · rw [decide_eq_false hd] at HDT
    have HD := hid_in hd
    clear hd
    go_enter Tryz.func172, Tryz.ntmps172
    go_upto_region 1 with fail
    refine wp_world H2.out ?_
    clear H2
    go_wp2_with (first | (go_at_call 201; refine (HDT.out _).mono ?_; rintro e w3 ⟨rfl, hw⟩; obtain rfl := hw.symm))
    go_ret
    exact ⟨Says.no rfl (fun h => HD.out ⟨h.1, h.2.1⟩), HB.out⟩
theorem Says.mono {e : Ending} {P Q : Prop} (h : Says e P) (hpq : P ↔ Q) : Says e Q := by
  obtain ⟨R, h1, h2⟩ := h
  exact ⟨R, h1, h2.trans hpq⟩
theorem isRight_any (w : World) (v : Value) (n : Nd) (h : IsN w v n) (hs : n.short) : Calls Tryz.prog 172 #[v] w fun e w' => Says e (right n) ∧ Below w.heap.size w w' := by
  obtain ⟨vp, vi, rfl, hp, hi⟩ := h.ex
  have HAI : Hid (∀ W, Below w.heap.size w W → Calls Tryz.prog 202 #[vi] W fun e w' => Says e (itemsOk n.items) ∧ Below W.heap.size W w') := fun W hW => areItems_any n.items vi W (hi.below hW) h.ok.items hs.2
  obtain ⟨pp, cp, _, _, rfl, _⟩ := hp.ex
  obtain ⟨pi, ci, _, _, rfl, _⟩ := hi.ex
  rw [List.length_map] at *
  rw [List.length_map] at *
  have e0 : n.parts.length = 0 ↔ n.parts = [] := List.length_eq_zero_iff
  have e1 : n.items.length = 0 ↔ n.items = [] := List.length_eq_zero_iff
  by_cases h1 : n.kind = 1
  · rw [h1]
    refine (right_chunk w n.size n.data hs.1 n.parts.length n.items.length cp ci pp pi (fun h0 W hW => ?_)).mono ?_
    · refine (HAI.out W hW).mono ?_
      rintro e w' ⟨hsay, hb⟩
      rcases hsay.cases with ⟨rfl, _⟩ | ⟨_, hno⟩
      · exact ⟨rfl, hb⟩
      · exact absurd (show itemsOk n.items by rw [e1.1 h0]; exact ⟨by simp, fun i hi => by simp at hi⟩) hno
    · rintro e w' ⟨hsay, hb⟩
      refine ⟨hsay.mono ?_, hb⟩
      unfold right
      rw [e0, e1, h1]
      simp
  · by_cases h3 : n.kind = 3
    · rw [h3]
      refine (right_dir w n.size n.data n.parts.length n.items.length cp ci pp pi (itemsOk n.items) HAI).mono ?_
      rintro e w' ⟨hsay, hb⟩
      refine ⟨hsay.mono ?_, hb⟩
      unfold right
      rw [e0, h3]
      simp
    · refine (right_file w n.kind n.size n.data n.parts.length n.items.length cp ci pp pi h1 h3).mono ?_
      rintro e w' ⟨hsay, hb⟩
      refine ⟨hsay.mono ?_, hb⟩
      unfold right
      rw [e1]
      simp [h1, h3]
set_option maxHeartbeats 400000 in
theorem check_any (w : World) (v : Value) (n : Nd) (h : IsN w v n) (hs : n.short) : Calls Tryz.prog 127 #[v] w fun e w' => (∃ r : Int, e = .returned (.int .i64 r) ∧ ((r = 0 ∧ right n) ∨ (r = 21 ∧ ¬ right n))) ∧ Below w.heap.size w w' := by
  obtain ⟨vp, vi, hv, _⟩ := h.ex
  have HC := hid_in (fun W hW => isRight_any W v n (h.below hW) hs)
  obtain ⟨w2, H2, HR, HB, HS⟩ := node_row w n.kind n.size n.data vp vi
  have c0 := HR.out.cell 0
  have c1 := HR.out.cell 1
  have c2 := HR.out.cell 2
  have c3 := HR.out.cell 3
  have c4 := HR.out.cell 4
  simp only [List.getElem?_cons_zero, List.getElem?_cons_succ] at c0 c1 c2 c3 c4
  rw [hv] at HC ⊢
  clear h hs hv
  go_enter Tryz.func127, Tryz.ntmps127
  go_upto_region 1 with fail
  refine wp_world H2.out ?_
  clear H2
  go_wp2_with (first | (go_at_call 172; refine (HC.out _ HB.out).mono ?_; rintro e w3 ⟨hsays, hb3⟩; rcases hsays.cases with ⟨rfl, hP⟩ | ⟨rfl, hP⟩; all_goals (have HB3 := hid_in (HB.out.trans (hb3.mono HB.out.size)); have HPP := hid_in hP; clear hb3 hP hsays)))
  · go_ret
    exact ⟨⟨0, rfl, .inl ⟨rfl, HPP.out⟩⟩, HB3.out⟩
  · go_ret
    exact ⟨⟨21, rfl, .inr ⟨rfl, HPP.out⟩⟩, HB3.out⟩
end Go.Proofs.YtamaejlbojbbeaaGreatDoor.Nd
namespace Go.Proofs.YtamaejlbojbbeaaGreatDoor.Nd
open Go.RowKit
theorem InIs.lt {B : Nat} {w : World} {g e : Nat} {bs : List Nat} (h : InIs B w g bs e) : ∀ x ∈ bs, x < 256 := by
  obtain ⟨_, _, _, _, _, hsl, _⟩ := h.ex
  exact hsl.lt
theorem InIs.blk {B : Nat} {w : World} {g e : Nat} {bs : List Nat} (h : InIs B w g bs e) : g < w.heap.size := by
  obtain ⟨_, _, _, _, hr, _⟩ := h.ex
  exact hr.lt
/-- the In at block g is in state s -/
def In (B : Nat) (w : World) (g : Nat) (s : Sta) : Prop := InIs B w g s.1 s.2
theorem grew_of_grownS {w w' : World} {g : Nat} (h : w.grownBy w' (some g)) : Grew w w' (· = g) := (Grew.of_grown h).mono (fun q hq => by simpa using hq)
theorem num_s (w : World) (g B : Nat) (s : Sta) (hi : In B w g s) : Calls Tryz.prog 197 #[.pointer (some ⟨g, 0, none⟩)] w fun r w' => r = .returned (.int .u64 ((sNum s).1 : Int)) ∧ In B w' g (sNum s).2 ∧ Grew w w' (· = g) := by
  obtain ⟨bs, e⟩ := s
  unfold sNum
  split
  · rename_i h
    obtain rfl : e = 0 := h
    refine (inum_any w g bs hi.lt hi).mono ?_
    rintro r w' ⟨rfl, h1, h2, _⟩
    exact ⟨rfl, h1, grew_of_grownS h2⟩
  · rename_i h
    refine (inum_bad w g e bs h hi).mono ?_
    rintro r w' ⟨rfl, rfl⟩
    exact ⟨rfl, hi, Grew.refl _ _⟩
theorem text_s (w : World) (g B : Nat) (s : Sta) (m : Nat) (hm : m ≤ 9223372036854775807) (hi : In B w g s) : Calls Tryz.prog 168 #[.pointer (some ⟨g, 0, none⟩), .int .i64 (m : Int)] w fun r w' => r = .returned (.string (str (sText m s).1)) ∧ In B w' g (sText m s).2 ∧ Grew w w' (· = g) := by
  obtain ⟨bs, e⟩ := s
  unfold sText
  split
  · rename_i h
    obtain rfl : e = 0 := h
    refine (itext_any w g bs m (by omega) (by omega) hi.lt hi).mono ?_
    rintro r w' ⟨rfl, h1, h2, _⟩
    exact ⟨rfl, h1, grew_of_grownS h2⟩
  · rename_i h
    refine (itext_bad w g e bs m (by omega) (by omega) h hi).mono ?_
    rintro r w' ⟨rfl, rfl⟩
    exact ⟨rfl, hi, Grew.refl _ _⟩
theorem dig_s (w : World) (g B : Nat) (s : Sta) (hB : B ≤ w.heap.size) (hi : In B w g s) : Calls Tryz.prog 200 #[.pointer (some ⟨g, 0, none⟩)] w fun r w' => r = .returned (.agg (dcells (sDig s).1).toArray) ∧ In B w' g (sDig s).2 ∧ Grew w w' (· = g) := by
  obtain ⟨bs, e⟩ := s
  unfold sDig rdigest dcells
  split
  · rename_i h
    obtain rfl : e = 0 := h
    split
    · rename_i h2
      exact idigest_short w g bs h2 hB hi
    · rename_i h2
      exact idigest_some w g bs (by simpa using h2) hB hi
  · rename_i h
    refine (idigest_bad w g e bs h hi).mono ?_
    rintro r w' ⟨rfl, h2⟩
    exact ⟨rfl, hi.below h2, Grew.of_below _ h2⟩
/-- a number, cut off above the most -/
def cutN (m n : Nat) : Nat := min n (m + 1)
set_option maxHeartbeats 400000 in
theorem number_s (w : World) (g B : Nat) (s : Sta) (m : Nat) (hm : m ≤ 100000) (hi : In B w g s) : Calls Tryz.prog 167 #[.pointer (some ⟨g, 0, none⟩), .int .i64 (m : Int)] w fun r w' => r = .returned (.int .i64 (cutN m (sNum s).1 : Int)) ∧ In B w' g (sNum s).2 ∧ Grew w w' (· = g) := by
  have HN := hid_in (num_s w g B s hi)
  have HC : Hid (cutN m (sNum s).1 = min (sNum s).1 (m + 1)) := rfl
  rw [HC.out]
  clear hi HC
  generalize (sNum s).1 = N at *
  generalize (sNum s).2 = s2 at *
  go_enter Tryz.func167, Tryz.ntmps167
  go_wp2_with (first | (go_at_call 197; refine HN.out.mono ?_; rintro e w2 ⟨rfl, h1, h2⟩; have H1 := hid_in h1; have H2 := hid_in h2; clear h1 h2))
  · go_ret
    refine ⟨congrArg (fun z => Ending.returned (Value.int .i64 z)) ?_, H1.out, H2.out⟩
    omega
  · go_ret
    refine ⟨congrArg (fun z => Ending.returned (Value.int .i64 z)) ?_, H1.out, H2.out⟩
    omega
end Go.Proofs.YtamaejlbojbbeaaGreatDoor.Nd
namespace Go.Proofs.YtamaejlbojbbeaaGreatDoor.Nd
open Go.RowKit
theorem splice_get_in {α : Type} (L : List α) (o : Nat) (new : List α) (h : o + new.length ≤ L.length) (y : Nat) (u : α) (hy : new[y]? = some u) : (splice L o new)[o + y]? = some u := by
  have hl : y < new.length := (List.getElem?_eq_some_iff.1 hy).1
  unfold splice
  rw [List.getElem?_append_right (by simp; omega), List.getElem?_append_left (by simp; omega), ← hy]
  congr 1
  simp
  omega
theorem splice_get_lo {α : Type} (L : List α) (o : Nat) (new : List α) (h : o ≤ L.length) (y : Nat) (hy : y < o) : (splice L o new)[y]? = L[y]? := by
  unfold splice
  rw [List.getElem?_append_left (by simp; omega), List.getElem?_take]
  simp [hy]
theorem splice_length {α : Type} (L : List α) (o : Nat) (new : List α) (h : o + new.length ≤ L.length) : (splice L o new).length = L.length := by
  unfold splice
  simp
  omega
/-- the first cells of a row are these elements, k cells each -/
def Fills (vs : List Value) (k : Nat) (xs : List (List Value)) : Prop := ∀ (i : Nat) us, xs[i]? = some us → ∀ (y : Nat) u, us[y]? = some u → vs[i * k + y]? = some u
theorem Fills.snoc {vs : List Value} {k : Nat} {xs : List (List Value)} (h : Fills vs k xs) (hx : ∀ us ∈ xs, us.length = k) (new : List Value) (hn : new.length = k) (hl : (xs.length + 1) * k ≤ vs.length) : Fills (splice vs (xs.length * k) new) k (xs ++ [new]) := by
  have hk : (xs.length + 1) * k = xs.length * k + k := by rw [Nat.add_mul, Nat.one_mul]
  intro i us hi y u hy
  rcases Nat.lt_or_ge i xs.length with h1 | h1
  · rw [List.getElem?_append_left h1] at hi
    have hyl : y < k := by rw [← hx us (List.mem_of_getElem? hi)]; exact (List.getElem?_eq_some_iff.1 hy).1
    have hik : i * k + k ≤ xs.length * k := by
      have := Nat.mul_le_mul_right k (show i + 1 ≤ xs.length from h1)
      rw [Nat.add_mul, Nat.one_mul] at this
      exact this
    rw [splice_get_lo _ _ _ (by omega) _ (by omega)]
    exact h i us hi y u hy
  · rw [List.getElem?_append_right h1] at hi
    have h2 : i - xs.length = 0 := by
      have := (List.getElem?_eq_some_iff.1 hi).1
      simp at this
      omega
    obtain rfl : i = xs.length := by omega
    simp at hi
    subst hi
    exact splice_get_in _ _ _ (by omega) y u hy
theorem Fills.els {w : World} {g n k : Nat} {vs : List Value} {t : TypeId} {xs : List (List Value)} (h : Fills vs k xs) (hr : Row w g vs t) (hx : ∀ us ∈ xs, us.length = k) (hn : xs.length = n) (hn2 : n ≤ 9223372036854775807) : Els w (.slice (some ⟨g, 0, none⟩) n n) k xs := by
  refine ⟨⟨some ⟨g, 0, none⟩, n, g, 0, by rw [hn], by omega, hn2, fun _ => ⟨rfl, hr.lt⟩, fun i us hi y u hy => ?_⟩, hx⟩
  have := h i us hi y u hy
  rw [show 0 + i * k + y = i * k + y by omega, hr.cell]
  exact this
theorem dcells_length {d : List Nat} (h : d.length = 32) : (dcells d).length = 32 := by simp [dcells, h]
theorem sDig_length (s : Sta) : (sDig s).1.length = 32 := by
  unfold sDig rdigest
  split
  · split
    · simp
    · simp; omega
  · simp
theorem sParts_each (c : Nat) (s : Sta) : ∀ us ∈ (sParts c s).1.map dcells, us.length = 32 := by
  induction c with
  | zero => intro us h; simp [sParts] at h
  | succ c ih =>
    intro us h
    simp only [sParts, List.map_append, List.mem_append] at h
    rcases h with h | h
    · exact ih us h
    · simp at h; rw [h]; exact dcells_length (sDig_length _)
theorem sParts_length (c : Nat) (s : Sta) : (sParts c s).1.length = c := by
  induction c with
  | zero => rfl
  | succ c ih => simp [sParts, ih]
theorem info49h : ∃ i, Hid (Tryz.prog.info? 30 = some i) ∧ Hid (i.size = 32) ∧ Hid (i.bytes = 32) ∧ Hid (∃ z, i.zero = some z ∧ z.cells.size = 32) := by
  have h : (Tryz.prog.info? 30).map (fun i => (i.size, i.bytes, i.zero.map (·.cells.size))) = some (32, 32, some 32) := by kernel_rfl
  cases hi : Tryz.prog.info? 30 with
  | none => rw [hi] at h; cases h
  | some i =>
    rw [hi] at h
    simp only [Option.map_some, Option.some.injEq, Prod.mk.injEq] at h
    obtain ⟨h1, h2, h3⟩ := h
    cases hz : i.zero with
    | none => rw [hz] at h3; cases h3
    | some z =>
      rw [hz] at h3
      simp at h3
      exact ⟨i, rfl, h1, h2, z, hz, h3⟩
/-- a row that was just made, as a block that is known whole -/
theorem made_row {w : World} {e : TypeId} {size n g : Nat} {xs : List Value} (h : w.ownsRow g e size (.slice (some ⟨g, 0, none⟩) n n) n xs) : ∃ vs, Row w g vs e ∧ vs.length = n * size := by
  obtain ⟨_, ⟨h1, _⟩ | ⟨g', cap, cur, h1, _, h2, _, _, h3, _⟩⟩ := h
  · cases h1
  · cases h1
    exact ⟨cur.toList, by simpa [Row] using h2, by simpa using h3⟩
set_option maxHeartbeats 2000000 in
theorem readParts_any (w : World) (g B : Nat) (s : Sta) (c : Nat) (hc : c ≤ 100) (hi : In B w g s) (hB : B ≤ w.heap.size) : Calls Tryz.prog 169 #[.pointer (some ⟨g, 0, none⟩), .int .i64 (c : Int)] w fun e w' => ∃ q, e = .returned (.slice (some ⟨q, 0, none⟩) c c) ∧ Els w' (.slice (some ⟨q, 0, none⟩) c c) 32 ((sParts c s).1.map dcells) ∧ In B w' g (sParts c s).2 ∧ Grew w w' (· = g) ∧ w.heap.size ≤ q := by
  obtain ⟨i49, hi49, hz1, hz2, hz3⟩ := info49h
  obtain ⟨z49, hz4, hz5⟩ := hz3.out
  have HZ4 := hid_in hz4
  have HI := hid_in hi
  have HGL := hid_in hi.blk
  have HBW := hid_in hB
  clear hi hz4 hz5 hz3 hB
  go_enter Tryz.func169, Tryz.ntmps169
  go_wp2_with (first | (refine wpList_make_full _ rfl _ _ 48 rfl _ 30 i49 z49 32 Tryz.underlying48 hi49.out HZ4.out hz1.out .i64 .i64 _ _ c rfl rfl rfl rfl (by rw [hz2.out]; omega) (by simp [maxLen]; omega) (Nat.le_refl _) ?_; intro w2 hown hg2; obtain ⟨vs0, hr0, hl0⟩ := made_row hown; have HR0 := hid_in hr0; have HL0 := hid_in hl0; have HG2 := hid_in hg2; clear hown hr0 hl0 hg2))
  go_loopw [11] (fun vi W => ∃ i : Nat, i ≤ c ∧ vi = .int .i64 (i : Int) ∧ Hid (∃ vs, Row W w.heap.size vs 30 ∧ vs.length = c * 32 ∧ Fills vs 32 ((sParts i s).1.map dcells)) ∧ Hid (In B W g (sParts i s).2) ∧ Hid (Grew w W (· = g))) (fun vi _ => c - (intOf vi).toNat)
  case atStart =>
    exact ⟨0, by omega, rfl, ⟨vs0, HR0.out, HL0.out, fun i us h => by simp [sParts] at h⟩, (show InIs B w2 g s.1 s.2 from InIs.below HI.out ((Below.refl _ _).grown HG2.out (Nat.le_refl _) (fun k e => by cases e))), Grew.of_below _ ((Below.refl _ _).grown HG2.out (Nat.le_refl _) (fun k e => by cases e))⟩
  case round =>
    obtain ⟨i, hic, rfl, hrow, hin, hgw⟩ := hrel
    by_cases hlt : i < c
    · obtain ⟨vs, hr, hl, hf⟩ := hrow.out
      have HR := hid_in hr
      have HL := hid_in hl
      have HF := hid_in hf
      clear hrow hr hl hf
      have HD := hid_in (dig_s wr g B (sParts i s).2 (Nat.le_trans HBW.out hgw.out.size) hin.out)
      have hS : sParts (i + 1) s = ((sParts i s).1 ++ [(sDig (sParts i s).2).1], (sDig (sParts i s).2).2) := rfl
      have HS1 : Hid ((sParts (i + 1) s).1.map dcells = (sParts i s).1.map dcells ++ [dcells (sDig (sParts i s).2).1]) := by show _ = _; rw [hS]; simp
      have HS2 : Hid ((sParts (i + 1) s).2 = (sDig (sParts i s).2).2) := by show _ = _; rw [hS]
      have HPL : Hid (((sParts i s).1.map dcells).length = i) := by show _ = _; rw [List.length_map]; exact sParts_length i s
      have HDL : Hid ((dcells (sDig (sParts i s).2).1).length = 32) := dcells_length (sDig_length _)
      have HD1 : Hid (∀ v ∈ dcells (sDig (sParts i s).2).1, v.oneCell' = true) := one_u8 _
      clear hS
      generalize dcells (sDig (sParts i s).2).1 = D at *
      go_wp2_with (first | (go_at_call 200; refine HD.out.mono ?_; rintro e w3 ⟨rfl, h1, h2⟩; have H1 := hid_in h1; have H2 := hid_in h2; clear h1 h2; have hr3 := HR.out.grew H2.out (by have := HGL.out; omega)) | (refine wpList_store_Row rfl 30 _ _ rfl w.heap.size _ D rfl rfl 30 vs hr3 32 info49 HDL.out (by rw [HL.out]; omega) HD1.out ?_; intro w4 hr4 hg4 hs4; have HR4 := hid_in hr4; have HG4 := hid_in hg4; have HS4 := hid_in hs4; clear hr4 hg4 hs4 hr3))
      go_roundw
      case rel =>
        go_light
        refine ⟨i + 1, by omega, by go_num, ⟨_, HR4.out, ?_, ?_⟩, ?_, ?_⟩
        · rw [splice_length _ _ _ (by rw [HL.out, HDL.out]; omega)]; exact HL.out
        · have h3 := HF.out.snoc (sParts_each i s) D HDL.out (by rw [HPL.out, HL.out]; omega)
          rw [HPL.out] at h3
          show Fills _ 32 ((sParts (i + 1) s).1.map dcells)
          rw [HS1.out]
          exact h3
        · show InIs B w4 g (sParts (i + 1) s).2.1 (sParts (i + 1) s).2.2
          rw [HS2.out]
          exact ((InIs.toB H1.out).grown HG4.out HBW.out (by have := HGL.out; omega)).is
        · refine (hgw.out.trans H2.out (fun q _ h => h)).trans (Grew.of_grown HG4.out) (fun q hq h => ?_)
          simp at h
          omega
      case measure => simp [intOf]; omega
    · obtain rfl : i = c := by omega
      go_wp2_with fail
      go_ret
      obtain ⟨vs, hr, hl, hf⟩ := hrow.out
      exact ⟨_, rfl, hf.els hr (sParts_each _ _) (by rw [List.length_map]; exact sParts_length _ _) (by omega), hin.out, hgw.out, Nat.le_refl _⟩
end Go.Proofs.YtamaejlbojbbeaaGreatDoor.Nd
namespace Go.Proofs.YtamaejlbojbbeaaGreatDoor.Sb
open Go.RowKit
/-- a value that reads as a list of blobs -/
def BL (w : World) (v : Value) (L : List (List Nat)) : Prop := ∃ p cap b o, v = .slice p L.length cap ∧ L.length ≤ cap ∧ cap ≤ 9223372036854775807 ∧ (L ≠ [] → p = some ⟨b, o, none⟩ ∧ b < w.heap.size) ∧ ∀ (i : Nat) bs, L[i]? = some bs → ∃ pi ci bi oi, w.cell? ⟨b, o + i, none⟩ = some (.slice pi bs.length ci) ∧ Sl w pi bs ci bi oi ∧ (pi = none → bs.length = 0 ∧ ci = 0)
theorem BL.below {w w' : World} {v : Value} {L : List (List Nat)} (h : BL w v L) (hb : Below w.heap.size w w') : BL w' v L := by
  obtain ⟨p, cap, b, o, rfl, h1, h2, h3, h4⟩ := h
  refine ⟨p, cap, b, o, rfl, h1, h2, fun hn => ⟨(h3 hn).1, Nat.lt_of_lt_of_le (h3 hn).2 hb.size⟩, fun i bs hi => ?_⟩
  obtain ⟨pi, ci, bi, oi, hc, hs, hn⟩ := h4 i bs hi
  exact ⟨pi, ci, bi, oi, (hb.cell (World.block_lt_of_cell? w _ hc)).trans hc, hs.below hb, hn⟩
set_option maxHeartbeats 400000 in
theorem index_all (L : List (List Nat)) (v : Value) (w : World) (h : BL w v L) :
    Calls Tryz.prog 161 #[v, .func (.func 115) #[] #[]] w fun e w' => (∃ r : Int, e = .returned (.int .i64 r) ∧ (0 ≤ r ↔ ∃ b ∈ L, 4096 < b.length)) ∧ w' = w := by
  obtain ⟨p, cap, b, o, rfl, h1, h2, h3, h4⟩ := h
  have H4 := hid_in h4
  have H3 := hid_in h3
  clear h3 h4
  go_enter Tryz.func161, Tryz.ntmps161
  go_wp2_with fail
  go_loop [8] (fun vi => ∃ i : Nat, i ≤ L.length ∧ vi = .int .i64 (i : Int) ∧ Hid (∀ (j : Nat) bs, j < i → L[j]? = some bs → ¬ 4096 < bs.length)) (fun vi => L.length - (intOf vi).toNat)
  case atStart => exact ⟨0, by omega, rfl, fun j bs hj => by omega⟩
  case round =>
    obtain ⟨i, hi, rfl, hno⟩ := hrel
    by_cases hlt : i < L.length
    · have hg : L[i]? = some L[i] := List.getElem?_eq_getElem hlt
      obtain ⟨pi, ci, bi, oi, hc, _, _⟩ := H4.out i _ hg
      obtain ⟨hp, hb⟩ := H3.out (by intro h; simp [h] at hlt)
      obtain ⟨t, ht⟩ : ∃ t, decide (4096 < L[i].length) = t := ⟨_, rfl⟩
      have HT := hid_in ht
      have HG := hid_in hg
      clear ht hg H3 H4
      subst hp
      generalize L[i] = x at *
      generalize hnn : x.length = n at *
      have HN := hid_in hnn
      clear hnn
      cases t
      · go_wp2_with (go_at_call 115; refine (long_any pi n ci false HT.out _).mono ?_; rintro e w1 ⟨rfl, rfl⟩)
        go_round
        case rel =>
          refine ⟨i + 1, by omega, by go_num, fun j bs hj hb => ?_⟩
          rcases Nat.lt_or_ge j i with h | h
          · exact hno.out j bs h hb
          · obtain rfl : j = i := by omega
            rw [HG.out] at hb
            obtain rfl := Option.some.inj hb
            rw [HN.out]
            exact of_decide_eq_false HT.out
        case measure => simp [intOf]; omega
      · go_wp2_with (go_at_call 115; refine (long_any pi n ci true HT.out _).mono ?_; rintro e w1 ⟨rfl, rfl⟩)
        go_ret
        exact ⟨⟨_, rfl, fun _ => ⟨x, List.mem_of_getElem? HG.out, by rw [HN.out]; exact of_decide_eq_true HT.out⟩, fun _ => by omega⟩, rfl⟩
    · go_wp2
      go_ret
      refine ⟨⟨_, rfl, fun h => absurd h (by decide), fun ⟨x, hx, h⟩ => ?_⟩, rfl⟩
      obtain ⟨j, hj⟩ := List.getElem?_of_mem hx
      exact absurd h (hno.out j x (by have := (List.getElem?_eq_some_iff.1 hj).1; omega) hj)
theorem contains_all (L : List (List Nat)) (v : Value) (w : World) (h : BL w v L) (t : Bool) (ht : t = true ↔ ∃ b ∈ L, 4096 < b.length) :
    Calls Tryz.prog 114 #[v, .func (.func 115) #[] #[]] w fun e w' => e = .returned (.bool t) ∧ w' = w := by
  have hi := hid_in (index_all L v w h)
  have HT := hid_in ht
  clear h ht
  cases t
  · go_enter Tryz.func114, Tryz.ntmps114
    go_wp2_with (go_at_call 161; refine hi.out.mono ?_; rintro e w1 ⟨⟨r, rfl, hr⟩, rfl⟩; have h0 : ¬ (0 : Int) ≤ r := fun h => (by cases HT.out.2 (hr.1 h)); clear hr)
    go_ret
    exact ⟨by simp [h0], rfl⟩
  · go_enter Tryz.func114, Tryz.ntmps114
    go_wp2_with (go_at_call 161; refine hi.out.mono ?_; rintro e w1 ⟨⟨r, rfl, hr⟩, rfl⟩; have h0 : (0 : Int) ≤ r := hr.2 (HT.out.1 rfl); clear hr)
    go_ret
    exact ⟨by simp, rfl⟩
/-- the digests of blobs, as cells -/
def sumsC (L : List (List Nat)) : List (List Value) := L.map fun b => (Sha.sum b).map u8v
theorem sumsC_each (L : List (List Nat)) : ∀ us ∈ sumsC L, us.length = 32 := by
  intro us h
  simp only [sumsC, List.mem_map] at h
  obtain ⟨b, _, rfl⟩ := h
  rw [List.length_map, sum_length]
theorem take_succ_get {α : Type} {L : List α} {i : Nat} {x : α} (h : L[i]? = some x) : L.take (i + 1) = L.take i ++ [x] := by
  rw [List.take_add_one, h]; rfl
set_option maxHeartbeats 1000000 in
set_option maxRecDepth 100000 in
theorem sums_all (L : List (List Nat)) (v : Value) (w : World) (htab : Tab w) (h : BL w v L) (hl : ∀ b ∈ L, b.length ≤ 4096) (hn : L.length ≤ 4194304) :
    Calls Tryz.prog 116 #[v] w fun e w' => e = .returned (.slice (some ⟨w.heap.size, 0, none⟩) L.length L.length) ∧ (∃ vs, Row w' w.heap.size vs 30 ∧ vs.length = L.length * 32 ∧ Nd.Fills vs 32 (sumsC L)) ∧ Below w.heap.size w w' := by
  obtain ⟨i49, hi49, hz1, hz2, hz3⟩ := Nd.info49h
  obtain ⟨z49, hz4, hz5⟩ := hz3.out
  have HZ4 := hid_in hz4
  obtain ⟨p, cap, b, o, rfl, h1, h2, h3, h4⟩ := h
  have H3 := hid_in h3
  have H4 := hid_in h4
  have HL := hid_in hl
  have HT := hid_in htab
  clear hz4 hz5 hz3 hl htab h3 h4
  go_enter Tryz.func116, Tryz.ntmps116
  go_wp2_with (first | (refine wpList_make_full _ rfl _ _ 48 rfl _ 30 i49 z49 32 Tryz.underlying48 hi49.out HZ4.out hz1.out .i64 .i64 _ _ L.length rfl rfl rfl rfl (by rw [hz2.out]; omega) (by simp [maxLen]; omega) (Nat.le_refl _) ?_; intro w2 hown hg2; obtain ⟨vs0, hr0, hl0⟩ := Nd.made_row hown; have HR0 := hid_in hr0; have HL0 := hid_in hl0; have HG2 := hid_in hg2; clear hown hr0 hl0 hg2))
  go_loopw [11] (fun vi W => ∃ i : Nat, i ≤ L.length ∧ vi = .int .i64 (i : Int) ∧ Hid (∃ vs, Row W w.heap.size vs 30 ∧ vs.length = L.length * 32 ∧ Nd.Fills vs 32 (sumsC (L.take i))) ∧ Hid (Below w.heap.size w W)) (fun vi _ => L.length - (intOf vi).toNat)
  case atStart =>
    exact ⟨0, by omega, rfl, ⟨vs0, HR0.out, HL0.out, fun i us h => by simp [sumsC] at h⟩, ((Below.refl _ _).grown HG2.out (Nat.le_refl _) (fun k e => by cases e))⟩
  case round =>
    obtain ⟨i, hi, rfl, hrow, hbw⟩ := hrel
    by_cases hlt : i < L.length
    · obtain ⟨vs, hr, hl, hf⟩ := hrow.out
      have HR := hid_in hr
      have HLN := hid_in hl
      have HF := hid_in hf
      clear hrow hr hl hf
      have hg : L[i]? = some L[i] := List.getElem?_eq_getElem hlt
      have hxl := HL.out _ (List.getElem_mem hlt)
      obtain ⟨hp, hb⟩ := H3.out (by intro h; simp [h] at hlt)
      obtain ⟨pi, ci, bi, oi, hc, hs, hn0⟩ := H4.out i _ hg
      have hcW := (hbw.out.cell (World.block_lt_of_cell? w _ hc)).trans hc
      obtain ⟨V, HV⟩ : ∃ V, Hid (V = (Sha.sum L[i]).map u8v) := ⟨_, hid_in rfl⟩
      have HSUM := hid_in (sum_V L[i] V HV pi bi oi ci wr (HT.out.below hbw.out HT.out.pos) (hs.below hbw.out) (by omega))
      have hvl : V.length = 32 := by rw [HV.out, List.length_map, sum_length]
      have hv1 : ∀ v ∈ V, v.oneCell' = true := by rw [HV.out]; exact one_u8 _
      have HS1 : Hid (sumsC (L.take (i + 1)) = sumsC (L.take i) ++ [V]) := by show _ = _; rw [take_succ_get hg, HV.out]; simp only [sumsC, List.map_append, List.map_cons, List.map_nil]
      have HPL : Hid ((sumsC (L.take i)).length = i) := by show _ = _; simp [sumsC]; omega
      have HV1 := hid_in hv1
      have HVL := hid_in hvl
      clear hv1 hvl hg hc hs hn0 HV hxl
      subst hp
      generalize L[i] = x at *
      generalize hxn : x.length = xn at *
      clear hxn
      have hlr := HR.out.lt
      go_wp2_with (first | (go_at_call 65; refine HSUM.out.mono ?_; rintro e w3 ⟨rfl, h2⟩; have H2 := hid_in h2; clear h2; have hr3 := HR.out.below H2.out HR.out.lt) | (refine wpList_store_Row rfl 30 _ _ rfl w.heap.size _ V rfl rfl 30 vs hr3 32 info39 HVL.out (by rw [HLN.out]; omega) HV1.out ?_; intro w4 hr4 hg4 hs4; have HR4 := hid_in hr4; have HG4 := hid_in hg4; have HS4 := hid_in hs4; clear hr4 hg4 hs4 hr3))
      go_roundw
      case rel =>
        go_light
        refine ⟨i + 1, by omega, by go_num, ⟨_, HR4.out, ?_, ?_⟩, ?_⟩
        · rw [Nd.splice_length _ _ _ (by rw [HLN.out, HVL.out]; omega)]; exact HLN.out
        · have h3 := HF.out.snoc (sumsC_each _) V HVL.out (by rw [HPL.out, HLN.out]; omega)
          rw [HPL.out] at h3
          rw [HS1.out]
          exact h3
        · exact below_of_grown (hbw.out.trans (H2.out.mono hbw.out.size)) HG4.out (Nat.le_trans hbw.out.size H2.out.size) (Nat.le_refl _)
      case measure => simp [intOf]; omega
    · obtain rfl : i = L.length := by omega
      go_wp2_with fail
      go_ret
      obtain ⟨vs, hr, hl, hf⟩ := hrow.out
      rw [List.take_length] at hf
      exact ⟨rfl, ⟨vs, hr, hl, hf⟩, hbw.out⟩
end Go.Proofs.YtamaejlbojbbeaaGreatDoor.Sb
