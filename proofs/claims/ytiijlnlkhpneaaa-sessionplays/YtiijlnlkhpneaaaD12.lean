/-
  The walk of SessionPlays.
-/
import Derived.Laws.Tables
import Derived.Lib.AppendZeros
import Derived.Deep.DrawnRows
import Derived.Laws.CopyOwn
import Derived.Deep.RegionLaw
import Derived.OwnWalk
import Derived.Laws.StructEq
import Derived.Test.YtiijlnlkhpneaaaD00
import Derived.Test.YtiijlnlkhpneaaaD01
import Derived.Test.YtiijlnlkhpneaaaD02
import Derived.Test.YtiijlnlkhpneaaaD03
import Derived.Test.YtiijlnlkhpneaaaD04
import Derived.Test.YtiijlnlkhpneaaaD05
import Derived.Test.YtiijlnlkhpneaaaD06
import Derived.Test.YtiijlnlkhpneaaaD07
import Derived.Test.YtiijlnlkhpneaaaD08
import Derived.Test.YtiijlnlkhpneaaaD09
import Derived.Test.YtiijlnlkhpneaaaD10
import Derived.Test.YtiijlnlkhpneaaaD11
namespace Go.Proofs.Ytiijlnlkhpneaaa.Se
open Go.RowKit
open Nd (take_put Row wp_world grownBy_setCell below_of_grown grownBy_trans grown_of_below grownBy_refl)
/-- both tables are the same -/
def LK (a : World) (B g r : Nat) (room : Int) (T : List Seat) (W : World) : Prop := Tab W g room T ∧ RT W B r room (T.filter seated) ∧ Below a.heap.size a W
theorem LK.below {a : World} {B g r : Nat} {room : Int} {T : List Seat} {W W' : World} (h : LK a B g r room T W) (hb : Below W.heap.size W W') : LK a B g r room T W' :=
  ⟨h.1.below hb h.1.lt, h.2.1.below hb, h.2.2.trans (hb.mono h.2.2.size)⟩
theorem LK.of_ps {w a : World} {B g r : Nat} {room : Int} {T : List Seat} {W : World} (h : PS w a B g r room T T W) : LK a B g r room T W := ⟨h.tab, h.rt, h.bel⟩
/-- two tables that are new -/
theorem ps_new {a w3 w4 : World} {g : Nat} {room : Int} (hb : Below a.heap.size a w3) (ht : Tab w3 g room noTab) (hw : w3.alloc (.cells #[.int .i64 room, .slice none 0 0] 32) = w4) : PS w4.drew a w3.heap.size g w3.heap.size room noTab noTab w4.drew := by
  have hr : Row w4.drew w3.heap.size [.int .i64 room, .slice none 0 0] 32 := by
    rw [← hw]
    exact (Row.new w3 [.int .i64 room, .slice none 0 0] 32).below (Below.refl _ _).drew (Row.new w3 [.int .i64 room, .slice none 0 0] 32).lt
  have hb4 : Below w3.heap.size w3 w4.drew := by
    rw [← hw]
    exact ((Below.refl _ _).alloc (Nat.le_refl _) _).drew
  exact ⟨ht.below hb4 ht.lt, ⟨⟨_, hr, SO.nil _ _⟩, Nat.le_refl _⟩, hb.trans (hb4.mono hb.size), Oth2.refl _ _ _, Nat.le_refl _⟩
set_option maxHeartbeats 16000000 in
set_option maxRecDepth 100000 in
theorem plays_any (room client number : Int) (a : World) (v : Value) (ss : List Act1) (h : Acts a v ss) :
    Calls Try.prog 3 #[.int .i64 room, v, .int .i64 client, .int .i64 number] a fun e w' => e = .returned (.bool true) ∧ Below a.heap.size a w' := by
  have HAW := hid_in (awake_any a)
  have HFI := hid_in (fun W (x : Below a.heap.size a W) => fits_any W v ss (h.below x))
  have HA := hid_in h
  obtain ⟨pv, cv, hv, -, -⟩ := h.at_
  have HPP := hid_in (fun (w3 w4 : World) (g : Nat) (hro : roomOk room) (hb : Below a.heap.size a w3) (ht : Tab w3 g room noTab) (hg : a.heap.size ≤ g) (hw : w3.alloc (.cells #[.int .i64 room, .slice none 0 0] 32) = w4) => play_any (ps_new hb ht hw) right_no hro.1 hg ht.lt ss v h)
  have HRR := hid_in (fun (hro : roomOk room) => playT_right hro.1 (ss.take 200) right_no)
  generalize playT room noTab (ss.take 200) = T at *
  generalize ss.length = sl at *
  subst hv
  clear h
  go_enter Try.func3, Try.ntmps3
  go_upto_region 3 with (first | (go_at_call 8; refine HAW.out.mono ?_; rintro e w1 ⟨rfl, hb1⟩; have HB1 := hid_in hb1; clear hb1))
  by_cases hro : roomOk room
  · have r1 : ¬ room < 0 := by have := hro.1; omega
    have r2 : ¬ 8192 < room := by have := hro.2; omega
    have HMK := hid_in (fun W => make_ok room W hro)
    have HR := hid_in (HRR.out hro)
    have HPQ := hid_in (fun w3 w4 g => HPP.out w3 w4 g hro)
    clear hro HRR HPP
    go_upto_region 5 with (first | (go_at_call 9; refine (HFI.out _ HB1.out).mono ?_; rintro e w2 ⟨⟨ft, rfl⟩, rfl⟩; rcases ft with _ | _))
    · go_wp2_with fail
      go_ret
      exact ⟨rfl, HB1.out⟩
    · go_upto_region 9 with (first | (go_at_call 10; refine (HMK.out _).mono ?_; rintro e w3 ⟨g, rfl, ht3, hb3, hg3⟩; have HT3 := hid_in ht3; have HB3 := hid_in (HB1.out.trans (hb3.mono HB1.out.size)); have HG3 := hid_in (Nat.le_trans HB1.out.size hg3); clear ht3 hb3 hg3))
      obtain ⟨w4, HW4⟩ : ∃ w4, Hid (w3.alloc (.cells #[.int .i64 room, .slice none 0 0] 32) = w4) := ⟨_, hid_in rfl⟩
      have HPL := hid_in (HPQ.out w3 w4 g HB3.out HT3.out HG3.out HW4.out)
      refine wp_world HW4.out ?_
      generalize w3.heap.size = r at *
      obtain ⟨B, HBB⟩ : ∃ B, Hid (r = B) := ⟨_, hid_in rfl⟩
      have HPL2 : Hid (Calls Try.prog 11 #[.pointer (some ⟨g, 0, none⟩), .pointer (some ⟨r, 0, none⟩), .slice pv sl cv] w4.drew fun e w' => e = .returned (.bool true) ∧ PS w4.drew a B g r room T T w') := hid_in (by rw [← HBB.out]; exact HPL.out)
      clear HPL HW4 HPQ HMK HFI HAW HA
      have HPL := HPL2
      clear HPL2 HBB
      refine wp_region_held_drew (S := fun _ => True) (by kernel_rfl) trivial (fun hHeld => ?_)
      refine take_put (i := 0) (d := 46) (v := ?_) rfl rfl (by kernel_rfl) (by kernel_rfl) (by kernel_rfl) (fun _ _ _ h => h) (Or.inl ⟨by kernel_rfl, ?_⟩) hHeld ?_
      rotate_left
      · (intro w hSw; (try dsimp only at hSw); go_simp; (try with_reducible rfl))
      simp only [Act.put, List.setIfInBounds_toArray, List.set_cons_zero, List.set_cons_succ]
      refine take_put (i := 1) (d := 47) (v := .bool false) rfl rfl (by kernel_rfl) (by kernel_rfl) (by kernel_rfl) (fun _ _ _ h => h) (Or.inl ⟨by kernel_rfl, fun w hSw => ?_⟩) hHeld ?_
      · (go_simp)
      simp only [Act.put, List.setIfInBounds_toArray, List.set_cons_zero, List.set_cons_succ]
      refine take_put (i := 2) (d := 48) (v := ?_) rfl rfl (by kernel_rfl) (by kernel_rfl) (by kernel_rfl) (fun _ _ _ h => h) (Or.inl ⟨by kernel_rfl, ?_⟩) hHeld ?_
      rotate_left
      · (intro w hSw; (try dsimp only at hSw); go_simp; (try with_reducible rfl))
      simp only [Act.put, List.setIfInBounds_toArray, List.set_cons_zero, List.set_cons_succ]
      refine take_put (i := 3) (d := 49) (v := ?_) rfl rfl (by kernel_rfl) (by kernel_rfl) (by kernel_rfl) (fun _ _ _ h => h) (Or.inl ⟨by kernel_rfl, ?_⟩) hHeld ?_
      rotate_left
      · (intro w hSw; (try dsimp only at hSw); go_simp; (try with_reducible rfl))
      simp only [Act.put, List.setIfInBounds_toArray, List.set_cons_zero, List.set_cons_succ]
      refine take_put (i := 4) (d := 50) (v := ?_) rfl rfl (by kernel_rfl) (by kernel_rfl) (by kernel_rfl) (fun _ _ _ h => h) (Or.inl ⟨by kernel_rfl, ?_⟩) hHeld ?_
      rotate_left
      · (intro w hSw; (try dsimp only at hSw); go_simp; (try with_reducible rfl))
      simp only [Act.put, List.setIfInBounds_toArray, List.set_cons_zero, List.set_cons_succ]
      refine take_put (i := 5) (d := 51) (v := ?_) rfl rfl (by kernel_rfl) (by kernel_rfl) (by kernel_rfl) (fun _ _ _ h => h) (Or.inl ⟨by kernel_rfl, ?_⟩) hHeld ?_
      rotate_left
      · (intro w hSw; (try dsimp only at hSw); go_simp; (try with_reducible rfl))
      simp only [Act.put, List.setIfInBounds_toArray, List.set_cons_zero, List.set_cons_succ]
      refine wpAnyH_ready (rs := [6]) (by kernel_rfl) (by simp) ?_
      refine AllReadyH.cons rfl (fun K hK => ?_) AllReadyH.nil
      rw [if_pos (by rfl)]
      go_simp
      refine HPL.out.mono ?_
      rintro e w5 ⟨rfl, hp5⟩
      have HP5 := hid_in hp5
      clear hp5
      obtain ⟨pr, cr, hrow5, -, -, -⟩ := HP5.out.rt.at_
      have q5 := hrow5.cell 1
      simp only [List.getElem?_cons_succ, List.getElem?_cons_zero] at q5
      have HRL := hid_in hrow5
      obtain ⟨vr, hvr1, hvr2⟩ := HP5.out.rt.ex
      obtain rfl : vr = .slice pr (T.filter seated).length cr := by
        have q6 := hvr1.cell 1
        simp only [List.getElem?_cons_succ, List.getElem?_cons_zero] at q6
        rw [q5] at q6
        exact (Option.some.inj q6).symm
      have HVR := hid_in hvr2
      clear hvr1 hvr2 hrow5
      go_simp
      refine hK.out _ _ trivial (fun hHeld => ?_)
      clear hK K
      refine take_put (i := 7) (d := 53) (v := .bool false) rfl rfl (by kernel_rfl) (by kernel_rfl) (by kernel_rfl) (fun _ _ _ h => h) (Or.inl ⟨by kernel_rfl, fun w hSw => ?_⟩) hHeld ?_
      · (go_simp)
      simp only [Act.put, List.setIfInBounds_toArray, List.set_cons_zero, List.set_cons_succ]
      refine take_put (i := 8) (d := 54) (v := .bool false) rfl rfl (by kernel_rfl) (by kernel_rfl) (by kernel_rfl) (fun _ _ _ h => h) (Or.inl ⟨by kernel_rfl, fun w hSw => ?_⟩) hHeld ?_
      · (go_simp)
      simp only [Act.put, List.setIfInBounds_toArray, List.set_cons_zero, List.set_cons_succ]
      refine take_put (i := 9) (d := 55) (v := ?_) rfl rfl (by kernel_rfl) (by kernel_rfl) (by kernel_rfl) (fun _ _ _ h => h) (Or.inl ⟨by kernel_rfl, ?_⟩) hHeld ?_
      rotate_left
      · (intro w hSw; (try dsimp only at hSw); go_simp; (try with_reducible rfl))
      simp only [Act.put, List.setIfInBounds_toArray, List.set_cons_zero, List.set_cons_succ]
      refine take_put (i := 10) (d := 56) (v := ?_) rfl rfl (by kernel_rfl) (by kernel_rfl) (by kernel_rfl) (fun _ _ _ h => h) (Or.inl ⟨by kernel_rfl, ?_⟩) hHeld ?_
      rotate_left
      · (intro w hSw; (try dsimp only at hSw); go_simp; (try with_reducible rfl))
      simp only [Act.put, List.setIfInBounds_toArray, List.set_cons_zero, List.set_cons_succ]
      refine take_put (i := 12) (d := 58) (v := ?_) rfl rfl (by kernel_rfl) (by kernel_rfl) (by kernel_rfl) (fun _ _ _ h => h) (Or.inl ⟨by kernel_rfl, ?_⟩) hHeld ?_
      rotate_left
      · (intro w hSw; (try dsimp only at hSw); go_simp; (try with_reducible rfl))
      simp only [Act.put, List.setIfInBounds_toArray, List.set_cons_zero, List.set_cons_succ]
      refine take_put (i := 13) (d := 59) (v := ?_) rfl rfl (by kernel_rfl) (by kernel_rfl) (by kernel_rfl) (fun _ _ _ h => h) (Or.inl ⟨by kernel_rfl, ?_⟩) hHeld ?_
      rotate_left
      · (intro w hSw; (try dsimp only at hSw); go_simp; (try with_reducible rfl))
      simp only [Act.put, List.setIfInBounds_toArray, List.set_cons_zero, List.set_cons_succ]
      refine take_put (i := 14) (d := 60) (v := ?_) rfl rfl (by kernel_rfl) (by kernel_rfl) (by kernel_rfl) (fun _ _ _ h => h) (Or.inl ⟨by kernel_rfl, ?_⟩) hHeld ?_
      rotate_left
      · (intro w hSw; (try dsimp only at hSw); go_simp; (try with_reducible rfl))
      simp only [Act.put, List.setIfInBounds_toArray, List.set_cons_zero, List.set_cons_succ]
      refine wpAnyH_ready (rs := [11, 15]) (by kernel_rfl) (by simp) ?_
      refine AllReadyH.cons rfl (fun K hK => ?_) (AllReadyH.cons rfl (fun K hK => ?_) AllReadyH.nil)
      · rw [if_pos (by rfl)]
        go_simp
        refine (list_any HP5.out.tab).mono ?_
        rintro e w6 ⟨v6, rfl, hso6, hb6⟩
        have HSO6 := hid_in hso6
        have HB6 := hid_in hb6
        clear hso6 hb6
        have q6 := (HRL.out.below HB6.out HRL.out.lt).cell 1
        simp only [List.getElem?_cons_succ, List.getElem?_cons_zero] at q6
        go_simp
        refine hK.out _ _ trivial (fun hHeld => ?_)
        clear hK K
        refine wpAnyH_ready (rs := [15]) (by kernel_rfl) (by simp) ?_
        refine AllReadyH.cons rfl (fun K hK => ?_) AllReadyH.nil
        rw [if_pos (by rfl)]
        go_simp
        refine hK.out _ _ trivial (fun hHeld => ?_)
        clear hK K
        refine wpAnyH_ready (rs := [16]) (by kernel_rfl) (by simp) ?_
        refine AllReadyH.cons rfl (fun K hK => ?_) AllReadyH.nil
        rw [if_pos (by rfl)]
        go_simp
        refine (seats_yes HSO6.out.sls (HVR.out.below HB6.out).sls).mono ?_
        rintro e w7 ⟨rfl, hb7⟩
        have HB7 := hid_in hb7
        clear hb7
        go_simp
        refine hK.out _ _ trivial (fun hHeld => ?_)
        clear hK K
        refine take_put (i := 17) (d := 63) (v := .bool false) rfl rfl (by kernel_rfl) (by kernel_rfl) (by kernel_rfl) (fun _ _ _ h => h) (Or.inl ⟨by kernel_rfl, fun w hSw => ?_⟩) hHeld ?_
        · (go_simp)
        simp only [Act.put, List.setIfInBounds_toArray, List.set_cons_zero, List.set_cons_succ]
        refine take_put (i := 18) (d := 64) (v := .bool false) rfl rfl (by kernel_rfl) (by kernel_rfl) (by kernel_rfl) (fun _ _ _ h => h) (Or.inl ⟨by kernel_rfl, fun w hSw => ?_⟩) hHeld ?_
        · (go_simp)
        simp only [Act.put, List.setIfInBounds_toArray, List.set_cons_zero, List.set_cons_succ]
        refine wpAnyH_done (by kernel_rfl) ?_ _
        have HLK7 : Hid (LK a B g r room T w7) := hid_in ((LK.of_ps HP5.out).below (HB6.out.trans (HB7.out.mono HB6.out.size)))
        clear HSO6 HB6 HB7 HVR HRL HP5 q5 q6 hHeld
        go_upto_region 13 with (first | (go_at_call 14; refine (look_any HLK7.out.1 client number).mono ?_; rintro e w8 ⟨rfl, hb8⟩; have HLK8 := hid_in (HLK7.out.below hb8); clear hb8) | (go_at_call 15; refine (rlook_any HLK8.out.2.1 HR.out client number).mono ?_; rintro e w9 ⟨rfl, hb9⟩; have HLK9 := hid_in (HLK8.out.below hb9); clear hb9))
        generalize (lookS T client number).1 = l1
        generalize (lookS T client number).2 = l2
        clear HLK7 HLK8
        go_wp2_with fail
        go_loopw [16] (fun vi W => ∃ i : Int, 1 ≤ i ∧ i ≤ 9 ∧ vi = .int .i64 i ∧ Hid (LK a B g r room T W)) (fun vi _ => (9 - intOf vi).toNat)
        case atStart => exact ⟨1, by omega, by omega, rfl, HLK9.out⟩
        case round =>
          clear HLK9
          obtain ⟨i, hi1, hi9, rfl, hst⟩ := hrel
          by_cases hi8 : i ≤ 8
          · have HI := hid_in (And.intro hi1 hi8)
            clear hi9
            go_upto_region 18 with (first | (go_at_call 14; refine (look_any hst.out.1 i number).mono ?_; rintro e w8 ⟨rfl, hb8⟩; have HLK8 := hid_in (hst.out.below hb8); clear hb8) | (go_at_call 15; refine (rlook_any HLK8.out.2.1 HR.out i number).mono ?_; rintro e w9 ⟨rfl, hb9⟩; have HLK9 := hid_in (HLK8.out.below hb9); clear hb9))
            generalize (lookS T i number).1 = k1
            generalize (lookS T i number).2 = k2
            go_wp2_with fail
            exact ⟨⟨i + 1, by have := HI.out; omega, by have := HI.out; omega, by go_num, HLK9.out⟩, by have := HI.out; simp [intOf]; omega⟩
          · obtain rfl : i = 9 := by omega
            clear hi1 hi9 hi8
            go_wp2_with fail
            go_ret
            exact ⟨rfl, hst.out.2.2⟩
      · rw [if_pos (by rfl)]
        go_simp
        refine hK.out _ _ trivial (fun hHeld => ?_)
        clear hK K
        refine wpAnyH_ready (rs := [11]) (by kernel_rfl) (by simp) ?_
        refine AllReadyH.cons rfl (fun K hK => ?_) AllReadyH.nil
        rw [if_pos (by rfl)]
        go_simp
        refine (list_any HP5.out.tab).mono ?_
        rintro e w6 ⟨v6, rfl, hso6, hb6⟩
        have HSO6 := hid_in hso6
        have HB6 := hid_in hb6
        clear hso6 hb6
        have q6 := (HRL.out.below HB6.out HRL.out.lt).cell 1
        simp only [List.getElem?_cons_succ, List.getElem?_cons_zero] at q6
        go_simp
        refine hK.out _ _ trivial (fun hHeld => ?_)
        clear hK K
        refine wpAnyH_ready (rs := [16]) (by kernel_rfl) (by simp) ?_
        refine AllReadyH.cons rfl (fun K hK => ?_) AllReadyH.nil
        rw [if_pos (by rfl)]
        go_simp
        refine (seats_yes HSO6.out.sls (HVR.out.below HB6.out).sls).mono ?_
        rintro e w7 ⟨rfl, hb7⟩
        have HB7 := hid_in hb7
        clear hb7
        go_simp
        refine hK.out _ _ trivial (fun hHeld => ?_)
        clear hK K
        refine take_put (i := 17) (d := 63) (v := .bool false) rfl rfl (by kernel_rfl) (by kernel_rfl) (by kernel_rfl) (fun _ _ _ h => h) (Or.inl ⟨by kernel_rfl, fun w hSw => ?_⟩) hHeld ?_
        · (go_simp)
        simp only [Act.put, List.setIfInBounds_toArray, List.set_cons_zero, List.set_cons_succ]
        refine take_put (i := 18) (d := 64) (v := .bool false) rfl rfl (by kernel_rfl) (by kernel_rfl) (by kernel_rfl) (fun _ _ _ h => h) (Or.inl ⟨by kernel_rfl, fun w hSw => ?_⟩) hHeld ?_
        · (go_simp)
        simp only [Act.put, List.setIfInBounds_toArray, List.set_cons_zero, List.set_cons_succ]
        refine wpAnyH_done (by kernel_rfl) ?_ _
        have HLK7 : Hid (LK a B g r room T w7) := hid_in ((LK.of_ps HP5.out).below (HB6.out.trans (HB7.out.mono HB6.out.size)))
        clear HSO6 HB6 HB7 HVR HRL HP5 q5 q6 hHeld
        go_upto_region 13 with (first | (go_at_call 14; refine (look_any HLK7.out.1 client number).mono ?_; rintro e w8 ⟨rfl, hb8⟩; have HLK8 := hid_in (HLK7.out.below hb8); clear hb8) | (go_at_call 15; refine (rlook_any HLK8.out.2.1 HR.out client number).mono ?_; rintro e w9 ⟨rfl, hb9⟩; have HLK9 := hid_in (HLK8.out.below hb9); clear hb9))
        generalize (lookS T client number).1 = l1
        generalize (lookS T client number).2 = l2
        clear HLK7 HLK8
        go_wp2_with fail
        go_loopw [16] (fun vi W => ∃ i : Int, 1 ≤ i ∧ i ≤ 9 ∧ vi = .int .i64 i ∧ Hid (LK a B g r room T W)) (fun vi _ => (9 - intOf vi).toNat)
        case atStart => exact ⟨1, by omega, by omega, rfl, HLK9.out⟩
        case round =>
          clear HLK9
          obtain ⟨i, hi1, hi9, rfl, hst⟩ := hrel
          by_cases hi8 : i ≤ 8
          · have HI := hid_in (And.intro hi1 hi8)
            clear hi9
            go_upto_region 18 with (first | (go_at_call 14; refine (look_any hst.out.1 i number).mono ?_; rintro e w8 ⟨rfl, hb8⟩; have HLK8 := hid_in (hst.out.below hb8); clear hb8) | (go_at_call 15; refine (rlook_any HLK8.out.2.1 HR.out i number).mono ?_; rintro e w9 ⟨rfl, hb9⟩; have HLK9 := hid_in (HLK8.out.below hb9); clear hb9))
            generalize (lookS T i number).1 = k1
            generalize (lookS T i number).2 = k2
            go_wp2_with fail
            exact ⟨⟨i + 1, by have := HI.out; omega, by have := HI.out; omega, by go_num, HLK9.out⟩, by have := HI.out; simp [intOf]; omega⟩
          · obtain rfl : i = 9 := by omega
            clear hi1 hi9 hi8
            go_wp2_with fail
            go_ret
            exact ⟨rfl, hst.out.2.2⟩

  · have HMK := hid_in (fun W => make_bad room W hro)
    unfold roomOk at hro
    clear HRR HPP
    by_cases r1 : room < 0
    · clear hro
      go_upto_region 5 with (first | (go_at_call 9; refine (HFI.out _ HB1.out).mono ?_; rintro e w2 ⟨⟨ft, rfl⟩, rfl⟩; rcases ft with _ | _))
      · go_wp2_with fail
        go_ret
        exact ⟨rfl, HB1.out⟩
      · go_wp2_with (first | (go_at_call 10; refine (HMK.out _).mono ?_; rintro e w3 ⟨rfl, rfl⟩))
        go_ret
        exact ⟨rfl, HB1.out⟩
    · have r2 : 8192 < room := by omega
      clear hro
      go_upto_region 5 with (first | (go_at_call 9; refine (HFI.out _ HB1.out).mono ?_; rintro e w2 ⟨⟨ft, rfl⟩, rfl⟩; rcases ft with _ | _))
      · go_wp2_with fail
        go_ret
        exact ⟨rfl, HB1.out⟩
      · go_wp2_with (first | (go_at_call 10; refine (HMK.out _).mono ?_; rintro e w3 ⟨rfl, rfl⟩))
        go_ret
        exact ⟨rfl, HB1.out⟩
end Go.Proofs.Ytiijlnlkhpneaaa.Se
