/-
  Contains of the one pair; settle of the one that was wanted. lookAt of a node's kids; what a Put leaves of a carrier. Offer of what is wanted. The tree of one small file: its blobs, by reckoning. awake of the statements of carry: what is offered, step by step.
-/
import Derived.Deep.CutRange
import Derived.Test.YtamaejlbojbbeaaGreatDoorQ00
import Derived.Test.YtamaejlbojbbeaaGreatDoorQ01
import Derived.Test.YtamaejlbojbbeaaGreatDoorQ02
import Derived.Test.YtamaejlbojbbeaaGreatDoorQ03
import Derived.Test.YtamaejlbojbbeaaGreatDoorQ04
import Derived.Test.YtamaejlbojbbeaaGreatDoorQ05
import Derived.Test.YtamaejlbojbbeaaGreatDoorQ06
import Derived.Test.YtamaejlbojbbeaaGreatDoorQ07
import Derived.Test.YtamaejlbojbbeaaGreatDoorQ08
import Derived.Test.YtamaejlbojbbeaaGreatDoorQ09
import Derived.Test.YtamaejlbojbbeaaGreatDoorQ10
import Derived.Test.YtamaejlbojbbeaaGreatDoorQ11
import Derived.Test.YtamaejlbojbbeaaGreatDoorQ12
import Derived.Test.YtamaejlbojbbeaaGreatDoorQ13
import Derived.Test.YtamaejlbojbbeaaGreatDoorQ14
import Derived.Test.YtamaejlbojbbeaaGreatDoorQ15
import Derived.Test.YtamaejlbojbbeaaGreatDoorQ16
import Derived.Test.YtamaejlbojbbeaaGreatDoorQ17
import Derived.Test.YtamaejlbojbbeaaGreatDoorQ18
import Derived.Test.YtamaejlbojbbeaaGreatDoorQ19
import Derived.Test.YtamaejlbojbbeaaGreatDoorQ20
import Derived.Test.YtamaejlbojbbeaaGreatDoorQ21
import Derived.Test.YtamaejlbojbbeaaGreatDoorQ22
import Derived.Test.YtamaejlbojbbeaaGreatDoorQ23
import Derived.Test.YtamaejlbojbbeaaGreatDoorQ24
import Derived.Test.YtamaejlbojbbeaaGreatDoorQ25
import Derived.Test.YtamaejlbojbbeaaGreatDoorQ26
import Derived.Test.YtamaejlbojbbeaaGreatDoorQ27
namespace Go.Proofs.YtamaejlbojbbeaaGreatDoor.Tr
open Go.RowKit
open Nd (take_put wp_slice1)
open Sb (hid_in Row Sl T5 BL u8v Tab wp_world grownBy_setCell below_of_grown info39 one_u8 splice_all rowOf rowOf_row St Bs Kp)
theorem eq140 (x : List Nat × Int) (hx : PG x) (X : List Value) (HX : Hid (X = pcells x)) (w : World) : (Op.equalIn 10000 140 (.agg X.toArray) (.agg X.toArray)).run Tryz.prog w = .ok true w := by
  have := eq140g 9997 x x hx hx w
  rw [HX.out]
  simpa [pv] using this
set_option maxHeartbeats 2000000 in
set_option maxRecDepth 100000 in
theorem index_pair (x : List Nat × Int) (hx : PG x) (X : List Value) (HX : Hid (X = pcells x)) (pb cap : Nat) (w : World) (hr : w.rangeAt pb 0 X) (hpb : pb < w.heap.size) :
    Calls Tryz.prog 128 #[.slice (some ⟨pb, 0, none⟩) 1 cap, .agg X.toArray] w fun e w' => e = .returned (.int .i64 0) ∧ Below w.heap.size w w' := by
  have HXL : Hid (X.length = 33) := hid_in (by rw [HX.out]; exact pcells_len hx)
  have heq := eq140 x hx X HX
  obtain ⟨w1, HW1⟩ : ∃ w1, Hid (w.alloc (.cells X.toArray 140) = w1) := ⟨_, hid_in rfl⟩
  have hb1 : Below w.heap.size w w1 := by rw [← HW1.out]; exact (Below.refl _ _).alloc (Nat.le_refl _) _
  have hr1 : Row w1 w.heap.size X 140 := by rw [← HW1.out]; exact Row.new w X 140
  have HB1 := hid_in hb1
  have HK : Hid (w1.drew.rangeAt w.heap.size 0 X ∧ w1.drew.rangeAt pb 0 X) := hid_in ⟨range_row (hr1.below (below_drew w1) hr1.lt), Nd.rangeAt_below (Nd.rangeAt_below hr hb1 hpb) (below_drew w1) (Nat.lt_of_lt_of_le hpb hb1.size)⟩
  clear hr hpb hb1 hr1 hx
  go_enter Tryz.func128, Tryz.ntmps128
  go_upto_region 1 with fail
  refine wp_world HW1.out ?_
  clear HW1
  go_wp2_with fail
  refine wp_loop_rounds 1 ?_
  rw [rounds_succ]
  go_upto_region 4 with fail
  refine wp_region_held_drew (S := fun W' => W'.rangeAt w.heap.size 0 X ∧ W'.rangeAt pb 0 X) (by kernel_rfl) HK.out (fun hHeld => ?_)
  refine take_put (i := 0) (d := 11) (v := .agg X.toArray) rfl rfl (by kernel_rfl) (by kernel_rfl) (by kernel_rfl) (fun _ _ _ h => h) (yieldsIf_load_mid (by rfl) 140 _ rfl _ _ rfl X _ (fun w hSw => hSw.1) Tryz.underlying140 rfl (by rw [info140, HXL.out])) hHeld ?_
  simp only [Act.put, List.setIfInBounds_toArray, List.set_cons_zero, List.set_cons_succ]
  refine take_put (i := 1) (d := 12) (v := ?_) rfl rfl (by kernel_rfl) (by kernel_rfl) (by kernel_rfl) (fun _ _ _ h => h) (Or.inl ⟨by kernel_rfl, ?_⟩) hHeld ?_
  rotate_left
  · (intro w hSw; (try dsimp only at hSw); go_simp; (try with_reducible rfl))
  simp only [Act.put, List.setIfInBounds_toArray, List.set_cons_zero, List.set_cons_succ]
  refine take_put (i := 2) (d := 13) (v := ?_) rfl rfl (by kernel_rfl) (by kernel_rfl) (by kernel_rfl) (fun _ _ _ h => h) (Or.inl ⟨by kernel_rfl, ?_⟩) hHeld ?_
  rotate_left
  · (intro w hSw; (try dsimp only at hSw); go_simp; (try with_reducible rfl))
  simp only [Act.put, List.setIfInBounds_toArray, List.set_cons_zero, List.set_cons_succ]
  refine take_put (i := 3) (d := 14) (v := ?_) rfl rfl (by kernel_rfl) (by kernel_rfl) (by kernel_rfl) (fun _ _ _ h => h) (Or.inl ⟨by kernel_rfl, ?_⟩) hHeld ?_
  rotate_left
  · (intro w hSw; (try dsimp only at hSw); go_simp; (try with_reducible rfl))
  simp only [Act.put, List.setIfInBounds_toArray, List.set_cons_zero, List.set_cons_succ]
  refine take_put (i := 4) (d := 15) (v := .agg X.toArray) rfl rfl (by kernel_rfl) (by kernel_rfl) (by kernel_rfl) (fun _ _ _ h => h) (yieldsIf_load_mid (by rfl) 140 _ rfl _ _ rfl X _ (fun w hSw => hSw.2) Tryz.underlying140 rfl (by rw [info140, HXL.out])) hHeld ?_
  simp only [Act.put, List.setIfInBounds_toArray, List.set_cons_zero, List.set_cons_succ]
  refine take_put (i := 5) (d := 16) (v := ?_) rfl rfl (by kernel_rfl) (by kernel_rfl) (by kernel_rfl) (fun _ _ _ h => h) (Or.inl ⟨by kernel_rfl, ?_⟩) hHeld ?_
  rotate_left
  · (intro w hSw; (try dsimp only at hSw); go_simp; (try with_reducible rfl))
  simp only [Act.put, List.setIfInBounds_toArray, List.set_cons_zero, List.set_cons_succ]
  refine wpAnyH_done (by kernel_rfl) ?_ _
  go_wp2
  go_ret
  exact ⟨rfl, HB1.out.trans ((below_drew w1).mono HB1.out.size)⟩
theorem contains_pair (x : List Nat × Int) (hx : PG x) (X : List Value) (HX : Hid (X = pcells x)) (pb cap : Nat) (w : World) (hr : w.rangeAt pb 0 X) (hpb : pb < w.heap.size) :
    Calls Tryz.prog 68 #[.slice (some ⟨pb, 0, none⟩) 1 cap, .agg X.toArray] w fun e w' => e = .returned (.bool true) ∧ Below w.heap.size w w' := by
  have HXL : Hid (X.length = 33) := hid_in (by rw [HX.out]; exact pcells_len hx)
  obtain ⟨w1, HW1⟩ : ∃ w1, Hid (w.alloc (.cells X.toArray 140) = w1) := ⟨_, hid_in rfl⟩
  have hb1 : Below w.heap.size w w1 := by rw [← HW1.out]; exact (Below.refl _ _).alloc (Nat.le_refl _) _
  have hr1 : Row w1 w.heap.size X 140 := by rw [← HW1.out]; exact Row.new w X 140
  have HIX := hid_in (index_pair x hx X HX pb cap w1 (Nd.rangeAt_below hr hb1 hpb) (Nat.lt_of_lt_of_le hpb hb1.size))
  have HB1 := hid_in hb1
  clear hr hpb hb1 hx
  go_enter Tryz.func68, Tryz.ntmps68
  go_upto_region 1 with fail
  refine wp_world HW1.out ?_
  clear HW1
  go_wp2_with (first | (refine Sb.wpList_load_Row rfl 140 _ rfl w.heap.size rfl 140 _ hr1 _ Tryz.underlying140 rfl 33 info140 HXL.out ?_) | (go_at_call 128; refine HIX.out.mono ?_; rintro e w2 ⟨rfl, hb2⟩; have HB2 := hid_in hb2; clear hb2))
  go_ret
  exact ⟨rfl, HB1.out.trans (HB2.out.mono HB1.out.size)⟩
theorem od_tail {B : Nat} {W : World} {ov : Value} {x : List Nat × Int} (h : Od B W ov [x]) : ∃ b off cap p2 c2, ov = .slice (some ⟨b, off, none⟩) 1 cap ∧ b < W.heap.size ∧ W.rangeAt b off (pcells x) ∧ (∀ w, (Instr.slice 122 (.slice (some ⟨b, off, none⟩) 1 cap) (some (.int .i64 1)) none none).run Tryz.prog w = .ok (.slice p2 0 c2) w) ∧ ∀ W', W'.heap[b]? = W.heap[b]? → Od B W' (.slice p2 0 c2) [] := by
  rcases h with ⟨_, h⟩ | ⟨b, off, cap, cur, rfl, hb, h2, h3, h4, h5⟩
  · cases h
  · have hsz : ∀ w, (sizeOf 140).run Tryz.prog w = .ok 33 w := fun w => by kernel_rfl
    refine ⟨b, off, cap, (if cap = 1 then some ⟨b, off, none⟩ else some ⟨b, off + 33, none⟩), cap - 1, rfl, (Array.getElem?_eq_some_iff.1 h2).1, fun j v hv => ?_, fun w => ?_, fun W' hW => ?_⟩
    · rw [cell_of_row _ _ _ _ _ _ h2]
      exact h5 j v (by simpa using hv)
    · simp only [List.length_cons, List.length_nil] at h3
      by_cases hc : cap = 1
      · subst hc
        simp [Instr.slice, run_underlying Tryz.underlying122, Instr.sliceBounds, run_sliceBound, hsz, Result.andThen]
      · simp [Instr.slice, run_underlying Tryz.underlying122, Instr.sliceBounds, run_sliceBound, hsz, Result.andThen, hc, Addr.add_lit]
    · simp only [List.length_cons, List.length_nil] at h3
      by_cases hc : cap = 1
      · rw [if_pos hc]
        exact .inr ⟨b, off, cap - 1, cur, rfl, hb, hW.trans h2, by simp, by omega, by simp⟩
      · rw [if_neg hc]
        exact .inr ⟨b, off + 33, cap - 1, cur, rfl, hb, hW.trans h2, by simp, by omega, by simp⟩
set_option maxHeartbeats 2000000 in
set_option maxRecDepth 100000 in
theorem settle_one {B : Nat} {w : World} {c gs ms lm wm : Nat} {ov : Value} {M : List Nat → Option (List Nat)} {n : Nat} {q u : Int} {x : List Nat × Int} {Lk : List (List Nat × Int)} (h : Cs B w c gs ms lm wm ov M n q u [x] Lk) (X : List Value) (HX : Hid (X = pcells x)) (k : Int) (HKk : Hid (k = x.2)) (pb cap : Nat) (hr : w.rangeAt pb 0 X) (_hpb : pb < w.heap.size) :
    Calls Tryz.prog 69 #[.pointer (some ⟨c, 0, none⟩), .slice (some ⟨pb, 0, none⟩) 1 cap, .int .i64 k] w fun e w' => e = .returned (.tuple #[]) ∧ ∃ ov', Cs B w' c gs ms lm wm ov' M n q u [] Lk ∧ Below B w w' ∧ ∀ j, j < w.heap.size → j ≠ c → j ≠ wm → w'.heap[j]? = w.heap[j]? := by
  have hx : PG x := h.ok x (by simp)
  have HXL : Hid (X.length = 33) := hid_in (by rw [HX.out]; exact pcells_len hx)
  have HX1 : Hid (∀ v ∈ X, v.oneCell' = true) := hid_in (by rw [HX.out]; exact pcells_one _)
  have HX32 : Hid (X[32]? = some (.int .i64 k)) := hid_in (by
    rw [HX.out, HKk.out]
    unfold pcells
    rw [List.getElem?_append_right (by rw [List.length_map, hx]; decide), List.length_map, hx]
    rfl)
  have HRG := hid_in hr
  have HC := hid_in h
  have HPG := hid_in hx
  have HBW := hid_in h.size
  have HXP : Hid (pv x = .agg X.toArray) := hid_in (by rw [HX.out]; rfl)
  clear h hr hx
  go_enter Tryz.func69, Tryz.ntmps69
  go_wp2_with fail
  refine wp_loop_rounds 2 ?_
  rw [rounds_succ]
  go_upto_region 3 with (first | (refine wpList_load_mid rfl 140 _ rfl pb _ rfl X _ HRG.out Tryz.underlying140 rfl (by rw [info140, HXL.out]) ?_) | (refine Nd.wpList_store_new rfl rfl 140 33 _ _ rfl _ X info140 rfl HXL HX1 rfl rfl ?_; intro w5 hr5 hb5 hs5; have HR5 := hid_in hr5; have HB5 := hid_in hb5; clear hr5 hb5 hs5))
  have b5 : Below w.heap.size w w5.drew := HB5.out.trans ((below_drew w5).mono HB5.out.size)
  have hC5 := HC.out.below b5
  obtain ⟨w6, hdel, hpw6, hg6, hs6⟩ := hC5.wt.drop1 HPG.out 0
  rw [HXP.out] at hdel
  obtain ⟨hrow6, hod6, hps6, hst6⟩ := hC5.want hg6
  have hr5d := HR5.out.below (below_drew w5) HR5.out.lt
  obtain ⟨es5, cl5, hm5⟩ := hC5.wt.ps.map
  have hr6 : Row w6 w.heap.size X 140 := hr5d.grown hg6 (fun e => row_ne_map hr5d hm5 (Option.some.inj e))
  have HK5 : Hid (w5.drew.rangeAt w.heap.size 0 X ∧ w5.drew.cell? ⟨c, 2, none⟩ = some (.map (some wm))) := hid_in ⟨range_row hr5d, hC5.row.cell 2⟩
  have HK6 : Hid (w6.rangeAt w.heap.size 0 X ∧ w6.cell? ⟨c, 2, none⟩ = some (.map (some wm))) := hid_in ⟨range_row hr6, hrow6.cell 2⟩
  obtain ⟨b, off, cp, p2, c2, hov, hbl, hrg6, hsl, hodt⟩ := od_tail hod6
  rw [← HX.out] at hrg6
  have c32 : w6.cell? ⟨w.heap.size, 32, none⟩ = some (.int .i64 k) := by rw [hr6.cell]; exact HX32.out
  have c3 : w6.cell? ⟨c, 3, none⟩ = some (.slice (some ⟨b, off, none⟩) 1 cp) := by rw [← hov]; exact hrow6.cell 3
  have HWA := hid_in (wants_any (⟨hrow6, hpw6.ps⟩ : Cw w6 c wm _ _ ov (.bool false) []) x HPG.out X HX false (by simp))
  have HRG6 := hid_in hrg6
  have HFIN : Hid (∀ w7, Below w6.heap.size w6 w7 → w7.cell? ⟨c, 3, none⟩ = some (.slice (some ⟨b, off, none⟩) 1 cp) ∧ w7.frozen? ⟨c, 3, none⟩ = false ∧ (w7.setCell ⟨c, 3, none⟩ (.slice p2 0 c2)).cell? ⟨c, 3, none⟩ = some (.slice p2 0 c2) ∧ ∃ ov', Cs B (w7.setCell ⟨c, 3, none⟩ (.slice p2 0 c2)) c gs ms lm wm ov' M n q u [] Lk ∧ Below B w (w7.setCell ⟨c, 3, none⟩ (.slice p2 0 c2)) ∧ ∀ j, j < w.heap.size → j ≠ c → j ≠ wm → (w7.setCell ⟨c, 3, none⟩ (.slice p2 0 c2)).heap[j]? = w.heap[j]?) := hid_in (fun w7 hb7 => by
    have hrow7 := hrow6.below hb7 hrow6.lt
    obtain ⟨hr7, hcs, hbb, _⟩ := Cs.order hrow7 (hod6.below hb7) (hps6.below hb7) (hst6.below hb7) (hpw6.of_block (hb7.block _ hpw6.lt)) hC5.bs hC5.ne (⟨rfl, rfl, rfl, Nat.le_refl _, fun _ _ _ => rfl⟩ : w7.grownBy w7 ov.ownBlock) (hodt w7 (hb7.block b hbl)) (by simp)
    have gs2 := grownBy_setCell w7 ⟨c, 3, none⟩ (.slice p2 0 c2)
    refine ⟨by rw [hr7.cell, ← hov]; rfl, hr7.frozen 3, hcs.row.cell 3, _, hcs, ?_, fun j hj h1 h2 => ?_⟩
    · refine Below.trans ?_ hbb
      refine Below.trans (b5.mono HBW.out) (Below.trans ?_ (hb7.mono ?_))
      · refine ⟨hg6.os, hg6.tape, hg6.output, hg6.size, fun j hj => hg6.block j (by have := b5.size; have := HBW.out; omega) (fun e => ?_)⟩
        have h7 : j = wm := Option.some.inj e
        have := hC5.bs.2.2.2.2
        omega
      · exact Nat.le_trans HBW.out (Nat.le_trans b5.size hg6.size)
    · have hj5 := Nat.lt_of_lt_of_le hj b5.size
      rw [gs2.block j (Nat.lt_of_lt_of_le hj5 (Nat.le_trans hg6.size hb7.size)) (fun e => h1 (Option.some.inj e)), hb7.block j (Nat.lt_of_lt_of_le hj5 hg6.size), hg6.block j hj5 (fun e => h2 (Option.some.inj e)), b5.block j hj])
  have HSL := hid_in hsl
  clear b5 hC5 hpw6 hg6 hs6 hrow6 hod6 hps6 hst6 hr5d hm5 hr6 hov hbl hrg6 hodt HR5 HRG hsl
  refine wp_region_held_drew (S := fun W' => W'.rangeAt w.heap.size 0 X ∧ W'.cell? ⟨c, 2, none⟩ = some (.map (some wm))) (by kernel_rfl) HK5.out (fun hHeld => ?_)
  refine take_put (i := 0) (d := 14) (v := ?_) rfl rfl (by kernel_rfl) (by kernel_rfl) (by kernel_rfl) (fun _ _ _ h => h) (Or.inl ⟨by kernel_rfl, ?_⟩) hHeld ?_
  rotate_left
  · (intro w hSw; (try dsimp only at hSw); go_simp; (try with_reducible rfl))
  simp only [Act.put, List.setIfInBounds_toArray, List.set_cons_zero, List.set_cons_succ]
  refine take_put (i := 1) (d := 15) (v := ?_) rfl rfl (by kernel_rfl) (by kernel_rfl) (by kernel_rfl) (fun _ _ _ h => h) (Or.inl ⟨by kernel_rfl, ?_⟩) hHeld ?_
  rotate_left
  · (intro w hSw; (try dsimp only at hSw); go_simp; (try with_reducible rfl))
  simp only [Act.put, List.setIfInBounds_toArray, List.set_cons_zero, List.set_cons_succ]
  refine take_put (i := 2) (d := 16) (v := ?_) rfl rfl (by kernel_rfl) (by kernel_rfl) (by kernel_rfl) (fun _ _ _ h => h) (Or.inl ⟨by kernel_rfl, ?_⟩) hHeld ?_
  rotate_left
  · (intro w hSw; (try dsimp only at hSw); go_simp; (try with_reducible rfl))
  simp only [Act.put, List.setIfInBounds_toArray, List.set_cons_zero, List.set_cons_succ]
  refine take_put (i := 3) (d := 17) (v := ?_) rfl rfl (by kernel_rfl) (by kernel_rfl) (by kernel_rfl) (fun _ _ _ h => h) (Or.inl ⟨by kernel_rfl, ?_⟩) hHeld ?_
  rotate_left
  · (intro w hSw; (try dsimp only at hSw); go_simp; (try with_reducible rfl))
  simp only [Act.put, List.setIfInBounds_toArray, List.set_cons_zero, List.set_cons_succ]
  refine take_put (i := 4) (d := 18) (v := .agg X.toArray) rfl rfl (by kernel_rfl) (by kernel_rfl) (by kernel_rfl) (fun _ _ _ h => h) (yieldsIf_load_mid (by rfl) 140 _ rfl _ _ rfl X _ (fun w hSw => hSw.1) Tryz.underlying140 rfl (by rw [info140, HXL.out])) hHeld ?_
  simp only [Act.put, List.setIfInBounds_toArray, List.set_cons_zero, List.set_cons_succ]
  refine wpAnyH_ready (rs := [5]) (by kernel_rfl) (by simp) ?_
  refine AllReadyH.cons rfl (fun K hK => ?_) AllReadyH.nil
  rw [if_pos (by rfl)]
  go_simp
  refine hK.out _ _ HK6.out (fun hHeld => ?_)
  clear hK K
  refine wpAnyH_done (by kernel_rfl) ?_ _
  clear hdel HK5 HK6
  go_wp2_with fail
  rw [rounds_succ]
  go_wp2_with fail
  refine wp_loop_rounds 2 ?_
  rw [rounds_succ]
  have hrg6 := HRG6.out
  go_upto_region 8 with (first | (refine BigFrame.wpList_want (by rfl) fun _ hK => wp_load_mid 140 _ rfl b _ rfl X _ hrg6 Tryz.underlying140 rfl (by rw [info140, HXL.out]) (hK _ _ ?_)) | (go_at_call 77; refine HWA.out.mono ?_; rintro e w7 ⟨rfl, hb7⟩; have HB7 := hid_in hb7; clear hb7))
  clear c3 c32 hrg6
  obtain ⟨d1, d2, d3, ov', hcs, hbb, hkk⟩ := HFIN.out _ HB7.out
  have HCS := hid_in hcs
  have HBB := hid_in hbb
  have HKK := hid_in hkk
  have hsl := HSL.out
  obtain ⟨w8, HW8⟩ : ∃ w8, Hid (w7.setCell ⟨c, 3, none⟩ (.slice p2 0 c2) = w8) := ⟨_, hid_in rfl⟩
  rw [HW8.out] at d3 HCS HBB HKK
  clear hcs hbb hkk HFIN HWA
  go_wp2_with fail
  refine wp_world HW8.out ?_
  clear d1 d2 HW8
  go_wp2
  refine bodyPost_end (results_none rfl _ _ _) rfl ?_
  exact ⟨rfl, ⟨_, HCS.out⟩, HBB.out, HKK.out⟩
end Go.Proofs.YtamaejlbojbbeaaGreatDoor.Tr
namespace Go.Proofs.YtamaejlbojbbeaaGreatDoor.Tr
open Go.RowKit
open Sb (hid_in Row Sl T5 BL u8v Tab wp_world grownBy_setCell below_of_grown info39 one_u8 splice_all rowOf rowOf_row St Bs Kp)
theorem els_high {w w' : World} {v : Value} {k lo : Nat} {xs : List (List Value)} (h : Nd.Els w v k xs) (hv : ∀ q, v.ownBlock = some q → lo ≤ q) (hsz : w.heap.size ≤ w'.heap.size) (hk : ∀ j, lo ≤ j → j < w.heap.size → w'.heap[j]? = w.heap[j]?) : Nd.Els w' v k xs := by
  obtain ⟨p, cap, b, o, rfl, h1, h2, h3, h4⟩ := h.ex
  refine ⟨⟨p, cap, b, o, rfl, h1, h2, fun hne => ⟨(h3 hne).1, Nat.lt_of_lt_of_le (h3 hne).2 hsz⟩, fun i us hi => ?_⟩, h.each⟩
  have hne : xs ≠ [] := by rintro rfl; simp at hi
  have hb : lo ≤ b := hv b (by rw [(h3 hne).1]; rfl)
  intro j u hu
  rw [World.cell?_of_block (a := ⟨b, o + i * k + j, none⟩) (hk b hb (h3 hne).2)]
  exact h4 i us hi j u hu
theorem isN_high {w w' : World} {v : Value} {n : Nd.Nd} {lo : Nat} (h : Nd.IsN w v n) (hf : Nd.Fresh lo v) (hsz : w.heap.size ≤ w'.heap.size) (hk : ∀ j, lo ≤ j → j < w.heap.size → w'.heap[j]? = w.heap[j]?) : Nd.IsN w' v n := by
  obtain ⟨vp, vi, e, hp, hi⟩ := h.ex
  obtain ⟨f1, f2⟩ := hf _ _ _ _ _ e
  exact ⟨⟨vp, vi, e, els_high hp f1 hsz hk, els_high hi f2 hsz hk⟩, h.ok⟩
theorem sl_nd {w : World} {p : Option Addr} {bs : List Nat} {cap b off : Nat} (h : Sl w p bs cap b off) : Nd.Sl w p bs cap b off := ⟨h.lt, h.cap1, h.cap2, h.at_, h.src⟩
/-- the kids of which lookAt is asked here: none, or one whose blob isn't there and at which nobody looked -/
def Kids1 (M : List Nat → Option (List Nat)) (Lk : List (List Nat × Int)) (ks : List Nd.It) : Prop := ks = [] ∨ ∃ y : Nd.It, ks = [y] ∧ y.sum.length = 32 ∧ M y.sum = none ∧ prOf y ∉ Lk
theorem Kids1.le {M : List Nat → Option (List Nat)} {Lk : List (List Nat × Int)} {ks : List Nd.It} (h : Kids1 M Lk ks) : ks.length ≤ 1 := by
  rcases h with rfl | ⟨y, rfl, _⟩ <;> simp
theorem lookAt_kids {B : Nat} {w : World} {c gs ms lm wm lo : Nat} {ov : Value} {M : List Nat → Option (List Nat)} {n : Nat} {q u : Int} {Lk : List (List Nat × Int)} (h : Cs B w c gs ms lm wm ov M n q u [] Lk) (ks : List Nd.It) (hks : Kids1 M Lk ks) (v : Value) (hown : w.ownsRow lo 114 34 v ks.length (ks.map Nd.It.cells).flatten) :
    Calls Tryz.prog 61 #[.pointer (some ⟨c, 0, none⟩), v] w fun e w' => e = .returned (.tuple #[]) ∧ ∃ ov', Cs B w' c gs ms lm wm ov' M n q u (ks.map prOf) (Lk ++ ks.map prOf) ∧ Below B w w' := by
  rcases hks with rfl | ⟨y, rfl, hy, hM, hk⟩
  · obtain ⟨p, cp, rfl⟩ := own_shape hown
    refine (lookAt_nil h.row p cp).mono ?_
    rintro e w' ⟨rfl, hb⟩
    exact ⟨rfl, ov, by simpa using h.below hb, hb.mono h.size⟩
  · obtain ⟨g, cp, rfl, hg, hlt⟩ := hown.form (by simp)
    have hr : w.rangeAt g 0 y.cells := fun j v hv => by
      have := hown.cells (g := g) rfl j v (by simpa using hv)
      rwa [Addr.add_lit] at this
    refine (lookAt_one h y hy g 0 cp hr hlt hM hk).mono ?_
    rintro e w' ⟨rfl, ov', hc, hb⟩
    exact ⟨rfl, ov', by simpa using hc, hb⟩
/-- a carrier behind a Put -/
theorem Cs.put {B : Nat} {W W' : World} {c gs ms lm wm : Nat} {ov : Value} {M M' : List Nat → Option (List Nat)} {n n' : Nat} {q u u' : Int} {T Lk : List (List Nat × Int)} (h : Cs B W c gs ms lm wm ov M n q u T Lk) (hk : Kp gs ms W W') (hs : St W' gs ms M' n' q u') : Cs B W' c gs ms lm wm ov M' n' q u' T Lk := by
  obtain ⟨es1, cl1, hm1⟩ := h.lk.map
  obtain ⟨es2, cl2, hm2⟩ := h.wt.ps.map
  obtain ⟨es3, cl3, hm3⟩ := st_map h.st
  refine ⟨hk.row h.row (row_ne_row h.row h.st.row (by decide)) (row_ne_map h.row hm3), h.od.of_heap (fun b cs _ h2 => hk.block b (Array.getElem?_eq_some_iff.1 h2).1 (fun e => ?_) (fun e => ?_)), h.lk.of_block (hk.block _ h.lk.lt (fun e => row_ne_map h.st.row hm1 e.symm) h.ne.2.1), h.wt.of_block (hk.block _ h.wt.lt (fun e => row_ne_map h.st.row hm2 e.symm) h.ne.2.2), hs, h.ok, h.bs, h.ne⟩
  · have h5 := h.st.row
    unfold Row at h5
    rw [← e, h2] at h5
    simp at h5
  · rw [e, hm3] at h2; cases h2
theorem wantL_one {x : List Nat × Int} (hk : x.2 = 1 ∨ x.2 = 2 ∨ x.2 = 3) : wantL [x] x.1 3 = [x] := by
  obtain ⟨d, k⟩ := x
  rcases hk with h | h | h <;> (simp only at h; subst h; simp [wantL])
theorem wantL_none {x : List Nat × Int} {d : List Nat} (h : d ≠ x.1) : wantL [x] d 3 = [] := by
  obtain ⟨e, k⟩ := x
  simp [wantL, h]
end Go.Proofs.YtamaejlbojbbeaaGreatDoor.Tr
namespace Go.Proofs.YtamaejlbojbbeaaGreatDoor.Tr
open Go.RowKit
open Sb (hid_in Row Sl T5 BL u8v Tab wp_world grownBy_setCell below_of_grown info39 one_u8 splice_all rowOf rowOf_row St Bs Kp)
theorem dec_ok (bs : List Nat) (nd : Nd.Nd) (hm : Nd.Means bs nd) (p : Option Addr) (cap b off : Nat) (w : World) (hsl : Sl w p bs cap b off) (hno : p = none → bs.length = 0 ∧ cap = 0) (hre : bs.length ≤ 4096) :
    Calls Tryz.prog 67 #[.slice p bs.length cap] w fun e w' => ∃ VN : List Value, e = .returned (.tuple #[.agg VN.toArray, .int .i64 0]) ∧ VN.length = 5 ∧ VN[0]? = some (.int .i64 nd.kind) ∧ (∀ v ∈ VN, v.oneCell' = true) ∧ Nd.IsN w' (.agg VN.toArray) nd ∧ Nd.Fresh w.heap.size (.agg VN.toArray) ∧ Below w.heap.size w w' := by
  refine (Nd.decode_any bs p cap b off w (sl_nd hsl) hno (by omega)).mono ?_
  rintro e w' ⟨⟨v, k, rfl, hf, hk⟩, hb⟩
  rcases hk with ⟨rfl, n, hm2, hn⟩ | ⟨rfl, hno2, _⟩
  · obtain rfl := hm.unique hm2
    obtain ⟨pp, cp, pi, ci, hv⟩ := hn.form
    subst hv
    refine ⟨[.int .i64 nd.kind, .string nd.data, .int .i64 nd.size, .slice pp nd.parts.length cp, .slice pi nd.items.length ci], rfl, rfl, rfl, ?_, hn, hf, hb⟩
    intro v hv
    simp only [List.mem_cons, List.not_mem_nil, or_false] at hv
    rcases hv with rfl | rfl | rfl | rfl | rfl <;> rfl
  · exact absurd hm (hno2 nd)
set_option maxHeartbeats 4000000 in
set_option maxRecDepth 100000 in
theorem offer_ok {B : Nat} {w : World} {c gs ms lm wm : Nat} {ov : Value} {M : List Nat → Option (List Nat)} {n : Nat} {q u : Int} {x : List Nat × Int} {Lk : List (List Nat × Int)} (h : Cs B w c gs ms lm wm ov M n q u [x] Lk) (htab : Tab w) (bs : List Nat) (nd : Nd.Nd) (hsum : Sb.Sha.sum bs = x.1) (hmean : Nd.Means bs nd) (hkind : nd.kind = x.2) (hk3 : x.2 = 1 ∨ x.2 = 2 ∨ x.2 = 3)
    (p : Option Addr) (b off cap : Nat) (hs : Sl w p bs cap b off) (hpn : p = none → bs.length = 0 ∧ cap = 0) (hl : bs.length ≤ 4096) (hu0 : 0 ≤ u) (huq : u ≤ q) (hq : q ≤ 9223372036854775807) (hnone : M x.1 = none) (hfull : (bs.length : Int) ≤ q - u) (hks : Kids1 (Sb.updM M x.1 bs) Lk (Nd.kidsOf nd)) :
    Calls Tryz.prog 27 #[.pointer (some ⟨c, 0, none⟩), .slice p bs.length cap] w fun e w' => e = .returned (.int .i64 0) ∧ ∃ ov', Cs B w' c gs ms lm wm ov' (Sb.updM M x.1 bs) (n + 1) q (u + bs.length) ((Nd.kidsOf nd).map prOf) (Lk ++ (Nd.kidsOf nd).map prOf) ∧ Below B w w' := by
  have hx : PG x := h.ok x (by simp)
  obtain ⟨V, HV⟩ : ∃ V, Hid (V = x.1.map u8v) := ⟨_, hid_in rfl⟩
  have HVs : Hid (V = (Sb.Sha.sum bs).map u8v) := hid_in (by rw [hsum]; exact HV.out)
  obtain ⟨Z, hz, hzl⟩ := Sb.zero39
  have HZL := hid_in hzl
  have HVL : Hid (V.length = 32) := hid_in (by rw [HV.out, List.length_map]; exact hx)
  have HV1 : Hid (∀ v ∈ V, v.oneCell' = true) := hid_in (by rw [HV.out]; exact one_u8 _)
  obtain ⟨X, HX⟩ : ∃ X, Hid (X = pcells x) := ⟨_, hid_in rfl⟩
  obtain ⟨k, HKk⟩ : ∃ k, Hid (k = x.2) := ⟨_, hid_in rfl⟩
  have HXD : Hid (X = V ++ [Value.int .i64 k]) := hid_in (by rw [HX.out, HV.out, HKk.out]; rfl)
  have HKN : Hid (nd.kind = k) := hid_in (by rw [HKk.out]; exact hkind)
  have HSM := hid_in (Sb.sum_V bs V HVs p b off cap w htab hs (by omega))
  have HWB := hid_in (fun W (hW : Below w.heap.size w W) => wantedBy_any (h.cw.below hW) x.1 hx V HV)
  rw [wantL_one hk3] at HWB
  have HDE := hid_in (fun W (hW : Below w.heap.size w W) => dec_ok bs nd hmean p cap b off W (hs.below hW) hpn hl)
  have HPU := hid_in (fun W (hW : Below w.heap.size w W) => Sb.Put_ok (h.below hW).st (htab.below hW htab.pos) bs V HVs p b off cap (hs.below hW) hpn hl hu0 huq hq (bs.length : Int) (hid_in (by rw [hsum, hnone]; rfl)) hfull (n + 1) (hid_in (by rw [hsum, hnone]; rfl)))
  rw [hsum] at HPU
  obtain ⟨M', HM'⟩ : ∃ M', Hid (Sb.updM M x.1 bs = M') := ⟨_, hid_in rfl⟩
  rw [HM'.out] at HPU hks ⊢
  obtain ⟨u', HU'⟩ : ∃ u' : Int, Hid (u + (bs.length : Int) = u') := ⟨_, hid_in rfl⟩
  rw [HU'.out] at HPU ⊢
  obtain ⟨bn, Hbn⟩ : ∃ bn, Hid (bs.length = bn) := ⟨_, hid_in rfl⟩
  rw [Hbn.out] at HSM HDE HPU ⊢
  have HC := hid_in h
  have HKS := hid_in hks
  have HPG := hid_in hx
  have HBW := hid_in h.size
  have HLT : Hid (c < w.heap.size ∧ gs < w.heap.size ∧ ms < w.heap.size ∧ wm < w.heap.size) := hid_in ⟨h.row.lt, h.st.glt, h.st.mlt, h.wt.lt⟩
  clear h htab hsum hmean hkind hk3 hs hpn hl hu0 huq hq hnone hfull hks hx hzl
  go_enter Tryz.func27, Tryz.ntmps27
  go_upto_region 5 with (first | (go_at_call 65; refine HSM.out.mono ?_; rintro e w2 ⟨rfl, hb2⟩; have HB2 := hid_in hb2; clear hb2) | (refine Sb.wpList_store_new rfl _ _ rfl Z V HZL HVL HV1 rfl rfl ?_; intro w3 hr3 hb3; have HR3 := hid_in hr3; have HB3 := hid_in (HB2.out.trans (hb3.mono HB2.out.size)); clear hb3) | (refine Sb.wpList_load_Row rfl 30 _ rfl w2.heap.size rfl 30 _ hr3 _ Tryz.underlying30 rfl 32 info39 HVL.out ?_) | (go_at_call 66; refine (HWB.out _ HB3.out).mono ?_; rintro e w4 ⟨v, rfl, hown, hb4⟩; have HB34 := hid_in hb4; have HB4 := hid_in (HB3.out.trans (hb4.mono HB3.out.size)); have HOWN := hid_in hown; clear hb4 hown))
  obtain ⟨pb, pc, hpv, hpbl, hpbs⟩ := HOWN.out.form (by simp)
  have HRX : Hid (w4.rangeAt pb 0 X) := hid_in (fun j v hv => by
    have := HOWN.out.cells (g := pb) (by rw [hpv]; rfl) j v (by rw [HX.out] at hv; simpa using hv)
    rwa [Addr.add_lit] at this)
  have HPB : Hid (w3.heap.size ≤ pb ∧ pb < w4.heap.size) := hid_in ⟨hpbl, hpbs⟩
  subst hpv
  clear HOWN hpbl hpbs hr3 HWB HSM
  simp only [List.length_cons, List.length_nil, Nat.zero_add]
  go_upto_region 8 with (first | (go_at_call 67; refine (HDE.out _ HB4.out).mono ?_; rintro e w5 ⟨VN, rfl, hvl, hv0, hv1, hisn, hfr, hb5⟩; have HVNL := hid_in hvl; have HVN0 := hid_in hv0; have HVN1 := hid_in hv1; have HISN := hid_in hisn; have HFR := hid_in hfr; have HB45 := hid_in hb5; have HB5 := hid_in (HB4.out.trans (hb5.mono HB4.out.size)); clear hvl hv0 hv1 hisn hfr hb5) | (refine Nd.wpList_store_new rfl rfl 108 5 _ _ rfl _ VN Nd.info31 rfl HVNL HVN1 rfl rfl ?_; intro w6 hr6 hb6 hs6; have HR6 := hid_in hr6; have HB56 := hid_in hb6; clear hr6 hb6 hs6))
  have b36 : Below w3.heap.size w3 w6 := HB34.out.trans ((HB45.out.trans (HB56.out.mono HB45.out.size)).mono HB34.out.size)
  have b46 : Below w4.heap.size w4 w6 := HB45.out.trans (HB56.out.mono HB45.out.size)
  have b06 : Below w.heap.size w w6 := HB5.out.trans (HB56.out.mono HB5.out.size)
  have hrV6 := HR3.out.below b36 HR3.out.lt
  have hck : ∀ (W : World), Row W w5.heap.size VN 108 → W.cell? ⟨w5.heap.size, 0, none⟩ = some (.int .i64 k) := fun W hr => by rw [hr.cell, HVN0.out, HKN.out]
  have c60 := hck _ HR6.out
  have HCP := hid_in (contains_pair x HPG.out X HX pb pc w6 (Nd.rangeAt_below HRX.out b46 HPB.out.2) (Nat.lt_of_lt_of_le HPB.out.2 b46.size))
  have HB6 := hid_in b06
  have HB46 := hid_in b46
  have HCK := hid_in hck
  clear b36 b46 b06 HDE HR3 hck
  go_upto_region 10 with (first | (refine Sb.wpList_load_RowG (by rfl) 30 _ rfl w2.heap.size rfl 30 _ hrV6 _ Tryz.underlying30 rfl 32 info39 HVL.out ?_) | (refine BigFrame.wpList_want (by rfl) fun _ hK => wp_buildP (.tmp 30) (.tmp 32) rfl V HVL k X HXD rfl rfl (hK _ _ ?_)) | (go_at_call 68; refine HCP.out.mono ?_; rintro e w7 ⟨rfl, hb7⟩; have HB67 := hid_in hb7; have HB7 := hid_in (HB6.out.trans (hb7.mono HB6.out.size)); clear hb7))
  have c70 : w7.cell? ⟨c, 0, none⟩ = some (.pointer (some ⟨gs, 0, none⟩)) := (HC.out.below HB7.out).row.cell 0
  clear c60 hrV6 HCP
  go_upto_region 13 with (first | (go_at_call 21; refine (HPU.out _ HB7.out).mono ?_; rintro e w8 ⟨rfl, hst8, hk8⟩; have HST8 := hid_in hst8; have HK8 := hid_in hk8; clear hst8 hk8) | (refine Sb.wpList_store_new rfl _ _ rfl Z V HZL HVL HV1 rfl rfl ?_; intro w9 hr9 hb9; have HB89 := hid_in hb9; clear hr9 hb9))
  clear c70 HPU
  have hC8 := (HC.out.below HB7.out).put HK8.out HST8.out
  have hC9 := hC8.below HB89.out
  have hlt := HLT.out
  have s06 := HB6.out.size
  have s45 := HB45.out.size
  have s46 := HB46.out.size
  have s67 := HB67.out.size
  have s04 := HB4.out.size
  have keep : ∀ j, w.heap.size ≤ j → j < w6.heap.size → w9.heap[j]? = w6.heap[j]? := fun j h1 h2 => by
    rw [HB89.out.block j (Nat.lt_of_lt_of_le h2 (Nat.le_trans s67 HK8.out.size)), HK8.out.block j (Nat.lt_of_lt_of_le h2 s67) (by omega) (by omega), HB67.out.block j h2]
  have hr9 : Row w9 w5.heap.size VN 108 := HR6.out.of_block (keep _ (by omega) HR6.out.lt)
  have hrg6 := Nd.rangeAt_below HRX.out HB46.out HPB.out.2
  have hrg9 : w9.rangeAt pb 0 X := fun j v hv => by
    rw [World.cell?_of_block (a := ⟨pb, 0 + j, none⟩) (keep pb (by have := HPB.out; have := HB3.out.size; omega) (by have := HPB.out; omega))]
    exact hrg6 j v hv
  have hpb9 : pb < w9.heap.size := by have := HPB.out; have := HK8.out.size; have := HB89.out.size; omega
  have c90 := HCK.out _ hr9
  have HSE := hid_in (settle_one hC9 X HX k HKk pb pc hrg9 hpb9)
  have HIS9 := hid_in (isN_high (lo := w4.heap.size) (HISN.out.below HB56.out) HFR.out (show w6.heap.size ≤ w9.heap.size by have := HK8.out.size; have := HB89.out.size; omega) (fun j h1 h2 => keep j (by omega) h2))
  have HR9 := hid_in hr9
  have HB9 : Hid (Below B w w9) := hid_in (((HB7.out.mono HBW.out).trans (HK8.out.below (Nat.le_trans HBW.out HB7.out.size) HC.out.bs.2.1 HC.out.bs.2.2.1)).trans (HB89.out.mono (Nat.le_trans HBW.out (Nat.le_trans HB7.out.size HK8.out.size))))
  have HS9 : Hid (w.heap.size ≤ w9.heap.size ∧ w5.heap.size < w9.heap.size ∧ w4.heap.size ≤ w5.heap.size ∧ w.heap.size ≤ w4.heap.size) := hid_in ⟨by have := HB7.out.size; have := HK8.out.size; have := HB89.out.size; omega, hr9.lt, s45, s04⟩
  clear hC8 hC9 hlt s06 s45 s46 s67 s04 keep hr9 hrg6 hrg9 hpb9
  go_upto_region 14 with (first | (go_at_call 69; refine HSE.out.mono ?_; rintro e w10 ⟨rfl, ov', hC10, hb10, hk10⟩; have HC10 := hid_in hC10; have HB10 := hid_in hb10; have HK10 := hid_in hk10; clear hC10 hb10 hk10))
  clear HSE c90
  have hsz9 := HS9.out
  have hlt := HLT.out
  have hsz10 := HB10.out.size
  have hr10 : Row w10 w5.heap.size VN 108 := HR9.out.of_block (HK10.out _ hsz9.2.1 (by omega) (by omega))
  have hIS10 := isN_high (lo := w4.heap.size) HIS9.out HFR.out hsz10 (fun j h1 h2 => HK10.out j h2 (by omega) (by omega))
  have hkl := HKS.out.le
  have hkl2 : nd.parts.length ≤ 1048576 ∧ nd.items.length ≤ 1048576 := by
    simp only [Nd.kidsOf, List.length_append, List.length_map] at hkl
    omega
  have HKI := hid_in (Nd.kids_any w10 _ nd hIS10 hkl2.1 hkl2.2)
  have HLA := hid_in (fun W (hW : Below w10.heap.size w10 W) v lo hown => lookAt_kids (lo := lo) (HC10.out.below hW) (Nd.kidsOf nd) HKS.out v hown)
  have HBX : Hid (B ≤ w10.heap.size) := hid_in (by have := HBW.out; omega)
  clear hsz9 hlt hsz10 hIS10 hkl hkl2
  go_wp2_with (first | (refine Sb.wpList_load_Row rfl 108 _ rfl w5.heap.size rfl 108 _ hr10 _ Tryz.underlying108 rfl 5 Nd.info31 HVNL.out ?_) | (go_at_call 70; refine HKI.out.mono ?_; rintro e w11 ⟨kv, rfl, hown11, hb11⟩; have HOW11 := hid_in hown11; have HB11 := hid_in hb11; clear hown11 hb11) | (go_at_call 61; refine (HLA.out _ HB11.out _ _ HOW11.out).mono ?_; rintro e w12 ⟨rfl, ov2, hC12, hb12⟩; have HC12 := hid_in hC12; have HB12 := hid_in hb12; clear hC12 hb12))
  go_ret
  exact ⟨rfl, _, HC12.out, ((HB9.out.trans HB10.out).trans (HB11.out.mono HBX.out)).trans HB12.out⟩
end Go.Proofs.YtamaejlbojbbeaaGreatDoor.Tr
namespace Go.Proofs.YtamaejlbojbbeaaGreatDoor.Tr
open Go.RowKit
open Sb (hid_in Row Sl T5 BL u8v Tab wp_world grownBy_setCell below_of_grown info39 one_u8 splice_all St Kp needI layI cntI)
def hiF : Fil := ⟨⟨#[47, 102]⟩, false, ⟨#[104, 105]⟩⟩
def L1 : List Nat := [1, 2, 104, 105]
def D1 : List Nat := Sb.Sha.sum L1
def L2 : List Nat := [2, 2] ++ D1
def D2 : List Nat := Sb.Sha.sum L2
def L3 : List Nat := [3, 1, 1, 102, 2] ++ D2
def D3 : List Nat := Sb.Sha.sum L3
theorem hi_err : hiF.err = 0 := by decide +kernel
theorem hi_nms : hiF.nms = [[102]] := by decide +kernel
theorem hi_show : Vp.B (Vp.showS hiF.nms) = ⟨#[47, 102]⟩ := by decide +kernel
theorem hi_dist : D1 ≠ D2 ∧ D1 ≠ D3 ∧ D2 ≠ D3 ∧ Sb.Sha.sum [120] ≠ D3 := by decide +kernel
theorem hi_files : fileBs ⟨#[104, 105]⟩ = [L1, L2] := by decide +kernel
theorem hi_fileD : fileD ⟨#[104, 105]⟩ = D2 := by decide +kernel
theorem hi_dir : encB (dirN [⟨Vp.B [102], 2, D2⟩]) = L3 := by decide +kernel
theorem hi_spot {sp : List Spot} (h : Mats sp [hiF]) : ∃ v, sp = [⟨v, [[102]], ⟨#[47, 102]⟩, false, ⟨#[104, 105]⟩⟩] := by
  obtain ⟨h1, h2⟩ := h
  match sp, h1 with
  | [s], _ =>
    obtain ⟨a, b, c, d⟩ := h2 0 s hiF rfl rfl
    rw [hi_show] at b
    rw [hi_nms] at a
    obtain ⟨v, nm, pa, di, da⟩ := s
    simp only at a b c d
    subst a b c d
    exact ⟨v, rfl⟩
theorem hi_tree (v : Value) : treeL [⟨v, [[102]], ⟨#[47, 102]⟩, false, ⟨#[104, 105]⟩⟩] = [L1, L2, L3] ∧ treeD [⟨v, [[102]], ⟨#[47, 102]⟩, false, ⟨#[104, 105]⟩⟩] = D3 := by
  have hw : Vp.withinS [[102]] [] = true := by decide +kernel
  have h1 : treeL [⟨v, [[102]], ⟨#[47, 102]⟩, false, ⟨#[104, 105]⟩⟩] = fileBs ⟨#[104, 105]⟩ ++ [encB (dirN [⟨Vp.B [102], 2, fileD ⟨#[104, 105]⟩⟩])] := by
    unfold treeL
    simp only [List.length_cons, List.length_nil, walkT, hw, if_true, Bool.false_eq_true, if_false, List.nil_append]
    rfl
  have h2 : treeD [⟨v, [[102]], ⟨#[47, 102]⟩, false, ⟨#[104, 105]⟩⟩] = Sb.Sha.sum (encB (dirN [⟨Vp.B [102], 2, fileD ⟨#[104, 105]⟩⟩])) := by
    unfold treeD
    simp only [List.length_cons, List.length_nil, walkT, hw, if_true, Bool.false_eq_true, if_false, List.nil_append]
    rfl
  rw [hi_fileD, hi_dir] at h1 h2
  rw [h1, h2, hi_files]
  exact ⟨rfl, rfl⟩
theorem hi_checks (v : Value) (k : Int) (h : CheckSays [⟨v, [[102]], ⟨#[47, 102]⟩, false, ⟨#[104, 105]⟩⟩] k) : k = 0 := by
  have key : ∀ f : List Spot → Nat → Spot → Bool, f [⟨v, [[102]], ⟨#[47, 102]⟩, false, ⟨#[104, 105]⟩⟩] 0 ⟨v, [[102]], ⟨#[47, 102]⟩, false, ⟨#[104, 105]⟩⟩ = false → ¬ Some1 f [⟨v, [[102]], ⟨#[47, 102]⟩, false, ⟨#[104, 105]⟩⟩] := by
    rintro f hf ⟨i, s, hi, hs⟩
    match i with
    | 0 =>
      simp only [List.getElem?_cons_zero, Option.some.injEq] at hi
      subst hi
      rw [hf] at hs
      cases hs
    | i + 1 => simp at hi
  rcases h with ⟨_, h⟩ | ⟨_, h⟩
  · exact absurd h (key wr1 (by kernel_rfl))
  rcases h with ⟨_, h⟩ | ⟨_, h⟩
  · exact absurd h (key wr2 (by kernel_rfl))
  rcases h with ⟨_, h⟩ | ⟨_, h⟩
  · exact absurd h (key wr3 (by kernel_rfl))
  rcases h with ⟨_, h⟩ | ⟨_, h⟩
  · exact absurd h (key wr4 (by kernel_rfl))
  rcases h with ⟨_, h⟩ | ⟨_, h⟩
  · exact absurd h (key wr5 (by kernel_rfl))
  rcases h with ⟨_, h⟩ | ⟨_, h⟩
  · exact absurd h (key wr6 (by kernel_rfl))
  exact h
/-- the store behind it -/
def hiM : List Nat → Option (List Nat) := layI (fun _ => none) [L1, L2, L3] 3
theorem hiM_1 : hiM D1 = some L1 := by
  obtain ⟨a, b, _⟩ := hi_dist
  show (if D1 = D3 then some L3 else if D1 = D2 then some L2 else if D1 = D1 then some L1 else none) = _
  rw [if_neg b, if_neg a, if_pos rfl]
theorem hiM_2 : hiM D2 = some L2 := by
  obtain ⟨a, b, c, _⟩ := hi_dist
  show (if D2 = D3 then some L3 else if D2 = D2 then some L2 else if D2 = D1 then some L1 else none) = _
  rw [if_neg c, if_pos rfl]
theorem hiM_3 : hiM D3 = some L3 := by
  show (if D3 = D3 then some L3 else if D3 = D2 then some L2 else if D3 = D1 then some L1 else none) = _
  rw [if_pos rfl]
theorem build_hi {w : World} {gs ms : Nat} (h : St w gs ms (fun _ => none) 0 65536 0) (htab : Tab w) (v : Value) (hfs : Fls w v [hiF]) (V : List Value) (HV : Hid (V = D3.map u8v)) :
    Calls Tryz.prog 11 #[.pointer (some ⟨gs, 0, none⟩), v] w fun e w' => e = .returned (.tuple #[.agg V.toArray, .int .i64 0]) ∧ (∃ n u, St w' gs ms hiM n 65536 u) ∧ Kp gs ms w w' := by
  refine (build_any h htab (by decide) (by decide) (by decide) [hiF] v hfs (by decide) (by intro f hf; simp at hf; subst hf; decide)).mono ?_
  have hord : ∀ {v : Value} {sp' : List Spot}, Ordered [⟨v, [[102]], ⟨#[47, 102]⟩, false, ⟨#[104, 105]⟩⟩] sp' → sp' = [⟨v, [[102]], ⟨#[47, 102]⟩, false, ⟨#[104, 105]⟩⟩] := fun h => List.perm_singleton.1 h.1
  rintro e w' ⟨U, k, rfl, h | h⟩
  · obtain ⟨hk, _, _, hp | ⟨_, sp, hm, hc⟩⟩ := h
    · obtain ⟨_, j, f, hj, hf, _⟩ := hp
      match j with
      | 0 =>
        simp only [List.getElem?_cons_zero, Option.some.injEq] at hj
        subst hj
        rw [hi_err] at hf
        exact absurd hf.symm hk
      | j + 1 => simp at hj
    · obtain ⟨v, rfl⟩ := hi_spot hm
      rcases hc with hc | ⟨_, sp', ho, rfl, hn⟩
      · exact absurd (hi_checks v k hc) hk
      · obtain rfl := hord ho
        rw [(hi_tree v).1] at hn
        have := (Sb.needI_le (fun _ => none) [L1, L2, L3] (by intro b hb; simp only [List.mem_cons, List.not_mem_nil, or_false] at hb; rcases hb with rfl | rfl | rfl <;> decide +kernel) 3).2
        have e3 : ([L1, L2, L3] : List (List Nat)).length = 3 := rfl
        rw [e3] at hn
        omega
  · obtain ⟨rfl, _, sp, sp', hm, _, ho, rfl, _, hst, hkp⟩ := h
    obtain ⟨v, rfl⟩ := hi_spot hm
    obtain rfl := hord ho
    rw [(hi_tree v).1] at hst
    refine ⟨by rw [(hi_tree v).2, HV.out], ⟨_, _, hst⟩, hkp⟩
end Go.Proofs.YtamaejlbojbbeaaGreatDoor.Tr
namespace Go.Proofs.YtamaejlbojbbeaaGreatDoor.Tr
open Go.RowKit
open Sb (hid_in Row Sl T5 BL u8v Tab wp_world grownBy_setCell below_of_grown info39 one_u8 splice_all St Kp needI layI cntI)
def hiX : List (List Nat × Int) := [(D3, 3), (D2, 2), (D1, 1)]
def hiB : List (List Nat) := [L3, L2, L1]
def stM : Nat → List Nat → Option (List Nat)
  | 0 => fun _ => none
  | i + 1 => Sb.updM (stM i) (hiX.getD i ([], 0)).1 (hiB.getD i [])
def stU : Nat → Int
  | 0 => 0
  | i + 1 => stU i + ((hiB.getD i []).length : Int)
def stT (i : Nat) : List (List Nat × Int) := (hiX.drop i).take 1
def stL (i : Nat) : List (List Nat × Int) := hiX.take (i + 1)
def n3 : Nd.Nd := dirN [⟨Vp.B [102], 2, D2⟩]
def n2 : Nd.Nd := ⟨2, ByteArray.empty, 2, [D1], []⟩
def n1 : Nd.Nd := ⟨1, ⟨#[104, 105]⟩, 0, [], []⟩
theorem dg_sum (b : List Nat) : Nd.Dg (Sb.Sha.sum b) := ⟨Sb.sum_length b, sum_lt b⟩
theorem mean3 : Nd.Means L3 n3 := by
  have hr : Nd.right n3 := (rightB_iff n3).1 (by decide +kernel)
  refine ⟨hr, ⟨by intro d hd; simp [n3, dirN] at hd, ?_, Nd.i64_3, by unfold Nd.i64; decide⟩, by rw [← encB_yes hr]; exact hi_dir⟩
  intro x hx
  simp only [n3, dirN, List.mem_singleton] at hx
  subst hx
  exact ⟨dg_sum _, Nd.i64_2⟩
theorem mean2 : Nd.Means L2 n2 := by
  have hr : Nd.right n2 := (rightB_iff n2).1 (by decide +kernel)
  refine ⟨hr, ⟨?_, by intro x hx; simp [n2] at hx, Nd.i64_2, Nd.i64_2⟩, by decide +kernel⟩
  intro d hd
  simp only [n2, List.mem_singleton] at hd
  subst hd
  exact dg_sum _
theorem mean1 : Nd.Means L1 n1 := by
  have hr : Nd.right n1 := (rightB_iff n1).1 (by decide +kernel)
  exact ⟨hr, ⟨by intro d hd; simp [n1] at hd, by intro x hx; simp [n1] at hx, by unfold Nd.i64; decide, by unfold Nd.i64; decide⟩, by decide +kernel⟩
/-- what a step of awake's loop wants -/
structure HiStep (i : Nat) (x : List Nat × Int) (bs : List Nat) (nd : Nd.Nd) : Prop where
  t : stT i = [x]
  sum : Sb.Sha.sum bs = x.1
  len : x.1.length = 32
  mean : Nd.Means bs nd
  kind : nd.kind = x.2
  k3 : x.2 = 1 ∨ x.2 = 2 ∨ x.2 = 3
  pos : 0 < bs.length
  short : bs.length ≤ 4096
  u0 : 0 ≤ stU i
  uq : stU i ≤ 65536
  none : stM i x.1 = none
  full : (bs.length : Int) ≤ 65536 - stU i
  kids : Kids1 (Sb.updM (stM i) x.1 bs) (stL i) (Nd.kidsOf nd)
  have_ : hiM x.1 = some bs
  m : stM (i + 1) = Sb.updM (stM i) x.1 bs
  u : stU (i + 1) = stU i + (bs.length : Int)
  t' : stT (i + 1) = (Nd.kidsOf nd).map prOf
  l' : stL (i + 1) = stL i ++ (Nd.kidsOf nd).map prOf
theorem len3 : L3.length = 37 := by decide +kernel
theorem len2 : L2.length = 34 := by decide +kernel
theorem len1 : L1.length = 4 := rfl
theorem hi_step (i : Nat) (hi : i < 3) : ∃ x bs nd, HiStep i x bs nd := by
  obtain ⟨d1, d2, d3, _⟩ := hi_dist
  have e1 : stU 1 = 37 := by show (0 : Int) + (L3.length : Int) = 37; rw [len3]; rfl
  have e2 : stU 2 = 71 := by show stU 1 + (L2.length : Int) = 71; rw [e1, len2]; rfl
  match i, hi with
  | 0, _ =>
    refine ⟨(D3, 3), L3, n3, ⟨rfl, rfl, Sb.sum_length _, mean3, rfl, .inr (.inr rfl), by rw [len3]; decide, by rw [len3]; decide, by decide, by decide, rfl, by rw [len3]; decide, ?_, hiM_3, rfl, rfl, rfl, rfl⟩⟩
    refine .inr ⟨⟨Vp.B [102], 2, D2⟩, rfl, Sb.sum_length _, ?_, ?_⟩
    · show (if D2 = D3 then some L3 else none) = none
      rw [if_neg d3]
    · simp [stL, hiX, prOf]
  | 1, _ =>
    refine ⟨(D2, 2), L2, n2, ⟨rfl, rfl, Sb.sum_length _, mean2, rfl, .inr (.inl rfl), by rw [len2]; decide, by rw [len2]; decide, by rw [e1]; decide, by rw [e1]; decide, ?_, by rw [len2, e1]; decide, ?_, hiM_2, rfl, rfl, rfl, rfl⟩⟩
    · show (if D2 = D3 then some L3 else none) = none
      rw [if_neg d3]
    refine .inr ⟨Nd.kid D1, rfl, Sb.sum_length _, ?_, ?_⟩
    · show (if D1 = D2 then some L2 else if D1 = D3 then some L3 else none) = none
      rw [if_neg d1, if_neg d2]
    · simp [stL, hiX, prOf, Nd.kid]
  | 2, _ =>
    refine ⟨(D1, 1), L1, n1, ⟨rfl, rfl, Sb.sum_length _, mean1, rfl, .inl rfl, by decide, by decide, by rw [e2]; decide, by rw [e2]; decide, ?_, by rw [len1, e2]; decide, .inl rfl, hiM_1, rfl, rfl, rfl, rfl⟩⟩
    show (if D1 = D2 then some L2 else if D1 = D3 then some L3 else none) = none
    rw [if_neg d1, if_neg d2]
end Go.Proofs.YtamaejlbojbbeaaGreatDoor.Tr
