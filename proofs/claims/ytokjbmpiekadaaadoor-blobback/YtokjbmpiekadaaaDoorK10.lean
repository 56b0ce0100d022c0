/-
  need: over a list of one.
-/
import Derived.Test.YtokjbmpiekadaaaDoorK7
import Derived.Test.YtokjbmpiekadaaaDoorK9
namespace Go.Proofs.YtokjbmpiekadaaaDoor
open Go.RowKit
attribute [local go_sem ↓] run_load39 quiet_load39 wp_load39 Go.wp_at_zero Go.wp_at_succ
attribute [local go_sem] Is39_drewN rowOf_drewN Is39_drew rowOf_drew ptrB_pointer
theorem zero39 : ∃ Z : List Value, (∀ w, (zeroValue 39).run Tryd.prog w = .ok (.agg Z.toArray) w) ∧ Z.length = 32 := ⟨(List.replicate 32 0).map u8v, fun w => by kernel_rfl, rfl⟩
theorem zero100 (w : World) : (zeroValue 100).run Tryd.prog w = .ok (.agg #[]) w := by kernel_rfl
set_option maxHeartbeats 1000000 in
set_option maxRecDepth 100000 in
theorem need_none {w : World} {g m n : Nat} {M : List Nat → Option (List Nat)} {q u : Int} (h : St w g m M n q u) (d : List Nat) (hd : d.length = 32) (V : List Value) (HV : Hid (V = d.map u8v)) (lb db : Nat) (hr : Row w db V 39)
    (p : Option Addr) (len cap : Nat) (c0 : w.cell? ⟨lb, 0, none⟩ = some (.slice p len cap)) (hlen : (len : Int) ≤ 4096) (hM : M d = none) :
    Calls Tryd.prog 48 #[.pointer (some ⟨g, 0, none⟩), .slice (some ⟨lb, 0, none⟩) 1 1, .slice (some ⟨db, 0, none⟩) 1 1] w fun e w' => e = .returned (.int .i64 (len : Int)) ∧ Below w.heap.size w w' := by
  have hvl : V.length = 32 := by rw [HV.out]; simpa using hd
  have hv1 : ∀ v ∈ V, v.oneCell' = true := by rw [HV.out]; exact one_u8 _
  have hm1 : ∀ w', (Instr.makeMap 99 none).run Tryd.prog w' = .ok (.map (some w'.heap.size)) (w'.alloc (.map #[] 0)) := fun w' => run_makeMap 99 w'
  obtain ⟨Z, hz, hzl⟩ := zero39
  have hlb := World.block_lt_of_cell? w _ c0
  have hdb := hr.lt
  have hV0 : MapOk (w.alloc (.map #[] 0)) w.heap.size (fun _ => none) 0 := MapOk.new w
  have hb0 : Below w.heap.size w (w.alloc (.map #[] 0)) := (Below.refl _ _).alloc (Nat.le_refl _) _
  have HV0 := hid_in hV0
  have HB0 := hid_in hb0
  have HD := hid_in hd
  have HST := hid_in h
  have HM := hid_in hM
  clear hV0 hb0 hd h hM
  go_enter Tryd.func48, Tryd.ntmps48
  go_wp2_with fail
  refine wp_loop_rounds 2 ?_
  rw [rounds_succ]
  go_wp2_with (first | (refine wpList_load_Row rfl 39 _ rfl db rfl 39 _ (hr.alloc _) _ Tryd.underlying39 rfl 32 info39 hvl ?_) | (refine wpList_store_Row rfl 39 _ _ rfl (w.heap.size + 1) 0 V rfl rfl 39 Z (Row.newAt (w.alloc _) _ Z 39 (by simp)) 32 info39 hvl (by omega) hv1 ?_; intro w7 hr7 hg7 hs7; rw [splice_all _ _ (by rw [hvl, hzl])] at hr7; have hb7 : Below w.heap.size w w7 := below_of_grown (HB0.out.alloc (by simp) _) hg7 (by simp; omega) (by omega); have hV7 : MapOk w7 w.heap.size (fun _ => none) 0 := HV0.out.of_block ((hg7.block _ (by simp; omega) (by simp)).trans (Below.heap_alloc _ _ _ (by simp))); have hl7 := hV7.look 99 100 Tryd.underlying99 (.agg #[]) (zero100 _) d HD.out; rw [dv, ← HV.out] at hl7; simp only [Option.getD_none, Option.isSome_none] at hl7; have c07 : w7.cell? ⟨lb, 0, none⟩ = some (.slice p len cap) := (hb7.cell (p := ⟨lb, 0, none⟩) hlb).trans c0; have HV7 := hid_in hV7; have HB7 := hid_in hb7; have HST7 := hid_in (HST.out.below hb7); clear hg7 hs7 hV7 hb7 hr hz hzl c0) | (refine wpList_load_Row rfl 39 _ rfl (w.heap.size + 1) rfl 39 _ hr7 _ Tryd.underlying39 rfl 32 info39 hvl ?_) | (refine wpList_load_RowG (by rfl) 39 _ rfl (w.heap.size + 1) rfl 39 _ (hr7.alloc _) _ Tryd.underlying39 rfl 32 info39 hvl ?_) | (go_at_call 17; refine (has_any (HST7.out.alloc _) d HD.out V HV).mono ?_; rw [HM.out]; rintro e w8 ⟨rfl, hb8⟩; have hb78 : Below w7.heap.size w7 w8 := ((Below.refl _ _).alloc (Nat.le_refl _) _).trans (hb8.mono (by simp)); have hr8 := hr7.below hb78 hr7.lt; obtain ⟨w9, hup, hV9, hg9, hs9⟩ := (HV7.out.of_block (hb78.block _ HV7.out.lt)).store 99 100 Tryd.underlying99 d HD.out (.agg #[]); rw [dv, ← HV.out] at hup; have c09 : w9.cell? ⟨lb, 0, none⟩ = some (.slice p len cap) := (hg9.cell (a := ⟨lb, 0, none⟩) ((hb78.cell (World.block_lt_of_cell? w7 _ c07)).trans c07) (by simp; omega)); have hb9 : Below w.heap.size w w9 := below_of_grown (HB7.out.trans (hb78.mono HB7.out.size)) hg9 (Nat.le_trans HB7.out.size hb78.size) (Nat.le_refl _); have HB9 := hid_in hb9; clear hb8 hb78 hV9 hg9 hs9 hb9 c07 hr7 hl7) | (refine wpList_load_Row rfl 39 _ rfl (w.heap.size + 1) rfl 39 _ hr8 _ Tryd.underlying39 rfl 32 info39 hvl ?_))
  rw [rounds_succ]
  go_wp2
  go_ret
  exact ⟨rfl, HB9.out⟩
set_option maxHeartbeats 1000000 in
set_option maxRecDepth 100000 in
theorem need_some {w : World} {g m n : Nat} {M : List Nat → Option (List Nat)} {q u : Int} (h : St w g m M n q u) (d : List Nat) (hd : d.length = 32) (V : List Value) (HV : Hid (V = d.map u8v)) (lb db : Nat) (hr : Row w db V 39)
    (p : Option Addr) (len cap : Nat) (c0 : w.cell? ⟨lb, 0, none⟩ = some (.slice p len cap)) (bs : List Nat) (hM : M d = some bs) :
    Calls Tryd.prog 48 #[.pointer (some ⟨g, 0, none⟩), .slice (some ⟨lb, 0, none⟩) 1 1, .slice (some ⟨db, 0, none⟩) 1 1] w fun e w' => e = .returned (.int .i64 0) ∧ Below w.heap.size w w' := by
  have hvl : V.length = 32 := by rw [HV.out]; simpa using hd
  have hv1 : ∀ v ∈ V, v.oneCell' = true := by rw [HV.out]; exact one_u8 _
  have hm1 : ∀ w', (Instr.makeMap 99 none).run Tryd.prog w' = .ok (.map (some w'.heap.size)) (w'.alloc (.map #[] 0)) := fun w' => run_makeMap 99 w'
  obtain ⟨Z, hz, hzl⟩ := zero39
  have hlb := World.block_lt_of_cell? w _ c0
  have hdb := hr.lt
  have hV0 : MapOk (w.alloc (.map #[] 0)) w.heap.size (fun _ => none) 0 := MapOk.new w
  have hb0 : Below w.heap.size w (w.alloc (.map #[] 0)) := (Below.refl _ _).alloc (Nat.le_refl _) _
  have HV0 := hid_in hV0
  have HB0 := hid_in hb0
  have HD := hid_in hd
  have HST := hid_in h
  have HM := hid_in hM
  clear hV0 hb0 hd h hM
  go_enter Tryd.func48, Tryd.ntmps48
  go_wp2_with fail
  refine wp_loop_rounds 2 ?_
  rw [rounds_succ]
  go_wp2_with (first | (refine wpList_load_Row rfl 39 _ rfl db rfl 39 _ (hr.alloc _) _ Tryd.underlying39 rfl 32 info39 hvl ?_) | (refine wpList_store_Row rfl 39 _ _ rfl (w.heap.size + 1) 0 V rfl rfl 39 Z (Row.newAt (w.alloc _) _ Z 39 (by simp)) 32 info39 hvl (by omega) hv1 ?_; intro w7 hr7 hg7 hs7; rw [splice_all _ _ (by rw [hvl, hzl])] at hr7; have hb7 : Below w.heap.size w w7 := below_of_grown (HB0.out.alloc (by simp) _) hg7 (by simp; omega) (by omega); have hV7 : MapOk w7 w.heap.size (fun _ => none) 0 := HV0.out.of_block ((hg7.block _ (by simp; omega) (by simp)).trans (Below.heap_alloc _ _ _ (by simp))); have hl7 := hV7.look 99 100 Tryd.underlying99 (.agg #[]) (zero100 _) d HD.out; rw [dv, ← HV.out] at hl7; simp only [Option.getD_none, Option.isSome_none] at hl7; have c07 : w7.cell? ⟨lb, 0, none⟩ = some (.slice p len cap) := (hb7.cell (p := ⟨lb, 0, none⟩) hlb).trans c0; have HV7 := hid_in hV7; have HB7 := hid_in hb7; have HST7 := hid_in (HST.out.below hb7); clear hg7 hs7 hV7 hb7 hr hz hzl c0) | (refine wpList_load_Row rfl 39 _ rfl (w.heap.size + 1) rfl 39 _ hr7 _ Tryd.underlying39 rfl 32 info39 hvl ?_) | (refine wpList_load_RowG (by rfl) 39 _ rfl (w.heap.size + 1) rfl 39 _ (hr7.alloc _) _ Tryd.underlying39 rfl 32 info39 hvl ?_) | (go_at_call 17; refine (has_any (HST7.out.alloc _) d HD.out V HV).mono ?_; rw [HM.out]; rintro e w8 ⟨rfl, hb8⟩; have hb78 : Below w7.heap.size w7 w8 := ((Below.refl _ _).alloc (Nat.le_refl _) _).trans (hb8.mono (by simp)); have HB9 := hid_in (HB7.out.trans (hb78.mono HB7.out.size)); clear hb8 hb78 c07 hr7 hl7))
  rw [rounds_succ]
  go_wp2
  go_ret
  exact ⟨rfl, HB9.out⟩
theorem need_any {w : World} {g m n : Nat} {M : List Nat → Option (List Nat)} {q u : Int} (h : St w g m M n q u) (d : List Nat) (hd : d.length = 32) (V : List Value) (HV : Hid (V = d.map u8v)) (lb db : Nat) (hr : Row w db V 39)
    (p : Option Addr) (len cap : Nat) (c0 : w.cell? ⟨lb, 0, none⟩ = some (.slice p len cap)) (hlen : (len : Int) ≤ 4096) :
    Calls Tryd.prog 48 #[.pointer (some ⟨g, 0, none⟩), .slice (some ⟨lb, 0, none⟩) 1 1, .slice (some ⟨db, 0, none⟩) 1 1] w fun e w' => e = .returned (.int .i64 (if (M d).isSome then 0 else (len : Int))) ∧ Below w.heap.size w w' := by
  cases hM : M d with
  | none => exact need_none h d hd V HV lb db hr p len cap c0 hlen hM
  | some bs => exact need_some h d hd V HV lb db hr p len cap c0 bs hM
end Go.Proofs.YtokjbmpiekadaaaDoor
