/-
  Get.
-/
import Derived.Test.YtokjbmpiekadaaaDoorK9
import Derived.Test.YtokjbmpiekadaaaDoorK5
namespace Go.Proofs.YtokjbmpiekadaaaDoor
open Go.RowKit
attribute [local go_sem ↓] run_load39 quiet_load39 wp_load39 Go.wp_at_zero Go.wp_at_succ
attribute [local go_sem] Is39_drewN rowOf_drewN Is39_drew rowOf_drew ptrB_pointer

set_option maxHeartbeats 1000000 in
set_option maxRecDepth 100000 in
theorem Get_none {w : World} {g m n : Nat} {M : List Nat → Option (List Nat)} {q u : Int} (h : St w g m M n q u) (d : List Nat) (hd : d.length = 32) (V : List Value) (HV : Hid (V = d.map u8v)) (hM : M d = none) :
    Calls Tryd.prog 21 #[.pointer (some ⟨g, 0, none⟩), .agg V.toArray] w fun e w' => e = .returned (.tuple #[.slice none 0 0, .int .i64 50]) ∧ Below w.heap.size w w' := by
  have hs := h.alloc (.cells V.toArray 39)
  have hvl : V.length = 32 := by rw [HV.out]; simpa using hd
  have hr := Row.newAt w _ V 39 rfl
  have hb0 : Below w.heap.size w (w.alloc (.cells V.toArray 39)) := (Below.refl _ _).alloc (Nat.le_refl _) _
  have HB0 := hid_in hb0
  have hf := find_none hs d hd V HV hM
  clear h hM hs hd HV hb0
  go_enter Tryd.func21, Tryd.ntmps21
  go_wp2_with (first | (refine wpList_load_Row rfl 39 _ rfl w.heap.size rfl 39 _ hr _ Tryd.underlying39 rfl 32 info39 hvl ?_) | (go_at_call 26; refine hf.mono ?_; rintro e w1 ⟨rfl, hb1⟩))
  go_ret2
  exact ⟨rfl, HB0.out.trans (hb1.mono (by simp))⟩

theorem neq39 (a b : List Nat) (ha : a.length = 32) (hb : b.length = 32) (V1 V2 : List Value) (H1 : Hid (V1 = a.map u8v)) (H2 : Hid (V2 = b.map u8v)) (t : Bool) (ht : decide (a = b) = t) (w : World) : (Op.equalIn 10000 39 (.agg V1.toArray) (.agg V2.toArray)).run Tryd.prog w = .ok t w := by
  rw [H1.out, H2.out, eq25 a b ha hb, ht]
set_option maxHeartbeats 1000000 in
set_option maxRecDepth 100000 in
theorem Get_broken {w : World} {g m n : Nat} {M : List Nat → Option (List Nat)} {q u : Int} (h : St w g m M n q u) (htab : Tab w) (d : List Nat) (hd : d.length = 32) (V : List Value) (HV : Hid (V = d.map u8v)) (bs : List Nat) (hM : M d = some bs) (hne : Sha.sum bs ≠ d) (hlen : bs.length < 1152921504606846000) :
    Calls Tryd.prog 21 #[.pointer (some ⟨g, 0, none⟩), .agg V.toArray] w fun e w' => e = .returned (.tuple #[.slice none 0 0, .int .i64 51]) ∧ Below w.heap.size w w' := by
  have hs := h.alloc (.cells V.toArray 39)
  have hvl : V.length = 32 := by rw [HV.out]; simpa using hd
  have hr := Row.newAt w _ V 39 rfl
  have hb0 : Below w.heap.size w (w.alloc (.cells V.toArray 39)) := (Below.refl _ _).alloc (Nat.le_refl _) _
  have HB0 := hid_in hb0
  have hf := find_some hs d hd V HV bs hM
  obtain ⟨V1, HV1⟩ : ∃ V1, Hid (V1 = (Sha.sum bs).map u8v) := ⟨_, rfl⟩
  have heq := neq39 (Sha.sum bs) d (sum_length bs) hd V1 V HV1 HV false (decide_eq_false hne)
  have htab0 := htab.below hb0 htab.pos
  have HTAB := hid_in htab0
  have HLEN := hid_in hlen
  clear h hM hs hd HV hb0 htab htab0 hlen hne
  go_enter Tryd.func21, Tryd.ntmps21
  go_wp2_with (first | (refine wpList_load_Row rfl 39 _ rfl w.heap.size rfl 39 _ hr _ Tryd.underlying39 rfl 32 info39 hvl ?_) | (go_at_call 26; refine hf.mono ?_; rintro e w1 ⟨hb1, p, cap, b, off, rfl, hs1, hp1, hn1⟩))
  have hr1 := hr.below hb1 hr.lt
  have hI : Is39 w1 w.heap.size := ⟨V, hr1, hvl⟩
  have hR := rowOf_row hr1
  have HSUM := hid_in (sum_V bs V1 HV1 p b off cap w1.drew ((HTAB.out.below hb1 HTAB.out.pos).below (below_drewN (Below.refl w1.heap.size w1) 1) (HTAB.out.below hb1 HTAB.out.pos).pos) ((hs1.below hb1).below (below_drewN (Below.refl w1.heap.size w1) 1)) HLEN.out)
  have HB1 := hid_in hb1
  have HR1 := hid_in hr1
  have HVL := hid_in hvl
  have HP1 := hid_in hp1
  have HS1 := hid_in (hs1.below hb1)
  clear hs1 hp1 hn1 hb1 hr1 hvl hr hf
  go_region_with (first | (go_at_call 38; refine HSUM.out.mono ?_; rintro e w2 ⟨rfl, hb2⟩; have hr2 := (HR1.out.drew).below hb2 HR1.out.drew.lt; have hI2 : Is39 w2 w.heap.size := ⟨V, hr2, HVL.out⟩; have hR2 := rowOf_row hr2; have HB2 := hid_in hb2; clear hb2 hr2))
  all_goals
    go_wp2
    go_ret2
    exact ⟨rfl, HB0.out.trans ((HB1.out.drew.trans (HB2.out.mono HB1.out.size)).mono (by simp))⟩
set_option maxHeartbeats 1000000 in
set_option maxRecDepth 100000 in
theorem Get_ok {w : World} {g m n : Nat} {M : List Nat → Option (List Nat)} {q u : Int} (h : St w g m M n q u) (htab : Tab w) (d : List Nat) (hd : d.length = 32) (V : List Value) (HV : Hid (V = d.map u8v)) (bs : List Nat) (hM : M d = some bs) (hne : Sha.sum bs = d) (hlen : bs.length < 140737488355328) :
    Calls Tryd.prog 21 #[.pointer (some ⟨g, 0, none⟩), .agg V.toArray] w fun e w' => ∃ p cap b, e = .returned (.tuple #[.slice p bs.length cap, .int .i64 0]) ∧ Sl w' p bs cap b 0 ∧ Below w.heap.size w w' := by
  have hs := h.alloc (.cells V.toArray 39)
  have hvl : V.length = 32 := by rw [HV.out]; simpa using hd
  have hr := Row.newAt w _ V 39 rfl
  have hb0 : Below w.heap.size w (w.alloc (.cells V.toArray 39)) := (Below.refl _ _).alloc (Nat.le_refl _) _
  have HB0 := hid_in hb0
  have hf := find_some hs d hd V HV bs hM
  obtain ⟨V1, HV1⟩ : ∃ V1, Hid (V1 = (Sha.sum bs).map u8v) := ⟨_, rfl⟩
  have heq := neq39 (Sha.sum bs) d (sum_length bs) hd V1 V HV1 HV true (decide_eq_true hne)
  have htab0 := htab.below hb0 htab.pos
  have HTAB := hid_in htab0
  have HLEN := hid_in hlen
  clear h hM hs hd HV hb0 htab htab0 hlen hne
  go_enter Tryd.func21, Tryd.ntmps21
  go_wp2_with (first | (refine wpList_load_Row rfl 39 _ rfl w.heap.size rfl 39 _ hr _ Tryd.underlying39 rfl 32 info39 hvl ?_) | (go_at_call 26; refine hf.mono ?_; rintro e w1 ⟨hb1, p, cap, b, off, rfl, hs1, hp1, hn1⟩))
  have hr1 := hr.below hb1 hr.lt
  have hI : Is39 w1 w.heap.size := ⟨V, hr1, hvl⟩
  have hR := rowOf_row hr1
  have HSUM := hid_in (sum_V bs V1 HV1 p b off cap w1.drew ((HTAB.out.below hb1 HTAB.out.pos).below (below_drewN (Below.refl w1.heap.size w1) 1) (HTAB.out.below hb1 HTAB.out.pos).pos) ((hs1.below hb1).below (below_drewN (Below.refl w1.heap.size w1) 1)) (Nat.lt_trans HLEN.out (by decide)))
  have HB1 := hid_in hb1
  have HR1 := hid_in hr1
  have HVL := hid_in hvl
  have HP1 := hid_in hp1
  have HS1 := hid_in (hs1.below hb1)
  clear hs1 hp1 hn1 hb1 hr1 hvl hr hf
  go_region_with (first | (go_at_call 38; refine HSUM.out.mono ?_; rintro e w2 ⟨rfl, hb2⟩; have hr2 := (HR1.out.drew).below hb2 HR1.out.drew.lt; have hI2 : Is39 w2 w.heap.size := ⟨V, hr2, HVL.out⟩; have hR2 := rowOf_row hr2; have HB2 := hid_in hb2; clear hb2 hr2))
  all_goals
    have HCL := hid_in (clone_any bs p cap b off w2 ((HS1.out.below (below_drewN (Below.refl w1.heap.size w1) 1)).below HB2.out) HP1.out (by have := HLEN.out; omega))
    go_wp2_with (go_at_call 39; refine HCL.out.mono ?_; rintro e w3 ⟨p3, cap3, b3, rfl, hs3, hp3, hB3, hT3, hb3⟩)
    go_ret2
    exact ⟨p3, cap3, b3, rfl, hs3, HB0.out.trans ((HB1.out.drew.trans ((HB2.out.mono HB1.out.size).trans (hb3.mono (Nat.le_trans HB1.out.size HB2.out.size)))).mono (by simp))⟩
end Go.Proofs.YtokjbmpiekadaaaDoor
