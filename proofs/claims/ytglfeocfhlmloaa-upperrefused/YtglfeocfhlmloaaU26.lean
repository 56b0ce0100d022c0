/-
  Clone; the calls of none.
-/
import Derived.Shelf.SlMaps.Clone
import Derived.Laws.CopyOwn
import Derived.Deep.RegionLaw
import Derived.Deep.DrawnRows
import Derived.Laws.Tables
import Derived.Deep.CutRange
import Derived.Test.YtglfeocfhlmloaaU00
import Derived.Test.YtglfeocfhlmloaaU01
import Derived.Test.YtglfeocfhlmloaaU02
import Derived.Test.YtglfeocfhlmloaaU03
import Derived.Test.YtglfeocfhlmloaaU04
import Derived.Test.YtglfeocfhlmloaaU05
import Derived.Test.YtglfeocfhlmloaaU06
import Derived.Test.YtglfeocfhlmloaaU07
import Derived.Test.YtglfeocfhlmloaaU08
import Derived.Test.YtglfeocfhlmloaaU09
import Derived.Test.YtglfeocfhlmloaaU10
import Derived.Test.YtglfeocfhlmloaaU11
import Derived.Test.YtglfeocfhlmloaaU12
import Derived.Test.YtglfeocfhlmloaaU13
import Derived.Test.YtglfeocfhlmloaaU14
import Derived.Test.YtglfeocfhlmloaaU15
import Derived.Test.YtglfeocfhlmloaaU16
import Derived.Test.YtglfeocfhlmloaaU17
import Derived.Test.YtglfeocfhlmloaaU18
import Derived.Test.YtglfeocfhlmloaaU19
import Derived.Test.YtglfeocfhlmloaaU20
import Derived.Test.YtglfeocfhlmloaaU21
import Derived.Test.YtglfeocfhlmloaaU22
import Derived.Test.YtglfeocfhlmloaaU23
import Derived.Test.YtglfeocfhlmloaaU24
import Derived.Test.YtglfeocfhlmloaaU25
namespace Go.Proofs.Ytglfeocfhlmloaa.Up
open Go.RowKit
open Vp (Str B bl Val cmpL parseS showS withinS IsPath checkS)
open Nd (take_put Row wp_world post_Row2 grownBy_setCell below_of_grown)
theorem MapP.copy {w : World} {m : Nat} {L : List Spot} (h : MapP w m L) {es : Array MapEntry} {clock : Nat} (hb : w.heap[m]? = some (.map es clock)) : MapP (w.alloc (.map es clock)) w.heap.size L := by
  obtain ⟨es', clock', hb', h1⟩ := h.ex
  rw [hb] at hb'
  cases hb'
  have hB : Below w.heap.size w (w.alloc (.map es clock)) := (Below.refl _ w).alloc (Nat.le_refl _) _
  exact ⟨⟨es, clock, (MapKept.heap_alloc w _).1, h1⟩, h.good, fun s hs => (h.nms s hs).below hB, h.one⟩
set_option maxHeartbeats 2000000 in
set_option maxRecDepth 100000 in
theorem mclone_any {w : World} {m : Nat} {L : List Spot} (h : MapP w m L) :
    Calls Try.prog 44 #[.map (some m)] w fun e w' => e = .returned (.map (some w.heap.size)) ∧ MapP w' w.heap.size L ∧ Below w.heap.size w w' := by
  obtain ⟨es, clock, hb, _⟩ := h.ex
  have HC := hid_in (h.copy hb)
  have HB : Hid (Below w.heap.size w (w.alloc (.map es clock))) := hid_in ((Below.refl _ w).alloc (Nat.le_refl _) _)
  have hq := fun w => run_eql_map_nil_sl (P := Try.prog) w 56 _ _ (some m) Try.underlying56
  clear h
  go_enter Try.func44, Try.ntmps44
  go_wp2
  rw [run_callFunc_extern Try.func60 (by kernel_rfl) (by kernel_rfl) (by kernel_rfl) (e := Extern.MapsClone.clone) (by kernel_rfl), run_maps_clone_sl w 56 hb]
  simp only [Result.andThen]
  rw [Oper.upon_value]
  go_wp2
  rw [run_typeAssert_map_sl _ 56 20 _ _ _ Try.underlying56]
  simp only [Result.andThen]
  rw [Oper.upon_value]
  go_wp2
  go_ret
  exact ⟨rfl, HC.out, HB.out⟩
set_option maxHeartbeats 2000000 in
set_option maxRecDepth 100000 in
theorem clone_any {w : World} {g m : Nat} {N Z : Int} {L : List Spot} (h : Fs w g m N Z L) :
    Calls Try.prog 19 #[.pointer (some ⟨g, 0, none⟩)] w fun e w' => ∃ g2 m2, e = .returned (.pointer (some ⟨g2, 0, none⟩)) ∧ Fs w' g2 m2 N Z L ∧ Below w.heap.size w w' ∧ w.heap.size ≤ m2 ∧ w.heap.size ≤ g2 := by
  have HCL := hid_in (fun W (q : Below w.heap.size w W) => (mclone_any (h.below q).map).mono (fun e w' hh => (⟨hh.1, ⟨hh.2.1, hh.2.2.mono q.size⟩⟩ : e = .returned (.map (some W.heap.size)) ∧ MapP w' W.heap.size L ∧ Below w.heap.size W w')))
  have HK := hid_in (fun W (q : Below w.heap.size w W) => (h.below q).cell)
  clear h
  go_enter Try.func19, Try.ntmps19
  go_upto_region 3 with fail
  refine wp_region_held_drew (S := fun W => W.cell? ⟨g, 0, none⟩ = some (.int .i64 N) ∧ W.cell? ⟨g, 1, none⟩ = some (.int .i64 Z) ∧ W.cell? ⟨g, 2, none⟩ = some (.map (some m))) (by kernel_rfl) (HK.out _ (below_drew _)) (fun hHeld => ?_)
  refine take_put (i := 0) (d := 5) (v := ?_) rfl rfl (by kernel_rfl) (by kernel_rfl) (by kernel_rfl) (fun _ _ _ h => h) (Or.inl ⟨by kernel_rfl, ?_⟩) hHeld ?_
  rotate_left
  · (intro w hSw; (try dsimp only at hSw); go_simp; (try with_reducible rfl))
  simp only [Act.put, List.setIfInBounds_toArray, List.set_cons_zero, List.set_cons_succ]
  refine take_put (i := 1) (d := 6) (v := ?_) rfl rfl (by kernel_rfl) (by kernel_rfl) (by kernel_rfl) (fun _ _ _ h => h) (Or.inl ⟨by kernel_rfl, ?_⟩) hHeld ?_
  rotate_left
  · (intro w hSw; (try dsimp only at hSw); go_simp; (try with_reducible rfl))
  simp only [Act.put, List.setIfInBounds_toArray, List.set_cons_zero, List.set_cons_succ]
  refine take_put (i := 2) (d := 7) (v := ?_) rfl rfl (by kernel_rfl) (by kernel_rfl) (by kernel_rfl) (fun _ _ _ h => h) (Or.inl ⟨by kernel_rfl, ?_⟩) hHeld ?_
  rotate_left
  · (intro w hSw; (try dsimp only at hSw); go_simp; (try with_reducible rfl))
  simp only [Act.put, List.setIfInBounds_toArray, List.set_cons_zero, List.set_cons_succ]
  refine take_put (i := 3) (d := 8) (v := ?_) rfl rfl (by kernel_rfl) (by kernel_rfl) (by kernel_rfl) (fun _ _ _ h => h) (Or.inl ⟨by kernel_rfl, ?_⟩) hHeld ?_
  rotate_left
  · (intro w hSw; (try dsimp only at hSw); go_simp; (try with_reducible rfl))
  simp only [Act.put, List.setIfInBounds_toArray, List.set_cons_zero, List.set_cons_succ]
  refine take_put (i := 4) (d := 9) (v := ?_) rfl rfl (by kernel_rfl) (by kernel_rfl) (by kernel_rfl) (fun _ _ _ h => h) (Or.inl ⟨by kernel_rfl, ?_⟩) hHeld ?_
  rotate_left
  · (intro w hSw; (try dsimp only at hSw); go_simp; (try with_reducible rfl))
  simp only [Act.put, List.setIfInBounds_toArray, List.set_cons_zero, List.set_cons_succ]
  refine take_put (i := 5) (d := 10) (v := ?_) rfl rfl (by kernel_rfl) (by kernel_rfl) (by kernel_rfl) (fun _ _ _ h => h) (Or.inl ⟨by kernel_rfl, ?_⟩) hHeld ?_
  rotate_left
  · (intro w hSw; (try dsimp only at hSw); go_simp; (try with_reducible rfl))
  simp only [Act.put, List.setIfInBounds_toArray, List.set_cons_zero, List.set_cons_succ]
  refine take_put (i := 6) (d := 11) (v := ?_) rfl rfl (by kernel_rfl) (by kernel_rfl) (by kernel_rfl) (fun _ _ _ h => h) (Or.inl ⟨by kernel_rfl, ?_⟩) hHeld ?_
  rotate_left
  · (intro w hSw; (try dsimp only at hSw); go_simp; (try with_reducible rfl))
  simp only [Act.put, List.setIfInBounds_toArray, List.set_cons_zero, List.set_cons_succ]
  refine take_put (i := 7) (d := 12) (v := ?_) rfl rfl (by kernel_rfl) (by kernel_rfl) (by kernel_rfl) (fun _ _ _ h => h) (Or.inl ⟨by kernel_rfl, ?_⟩) hHeld ?_
  rotate_left
  · (intro w hSw; (try dsimp only at hSw); go_simp; (try with_reducible rfl))
  simp only [Act.put, List.setIfInBounds_toArray, List.set_cons_zero, List.set_cons_succ]
  refine take_put (i := 8) (d := 13) (v := ?_) rfl rfl (by kernel_rfl) (by kernel_rfl) (by kernel_rfl) (fun _ _ _ h => h) (Or.inl ⟨by kernel_rfl, ?_⟩) hHeld ?_
  rotate_left
  · (intro w hSw; (try dsimp only at hSw); go_simp; (try with_reducible rfl))
  simp only [Act.put, List.setIfInBounds_toArray, List.set_cons_zero, List.set_cons_succ]
  refine take_put (i := 9) (d := 14) (v := ?_) rfl rfl (by kernel_rfl) (by kernel_rfl) (by kernel_rfl) (fun _ _ _ h => h) (Or.inl ⟨by kernel_rfl, ?_⟩) hHeld ?_
  rotate_left
  · (intro w hSw; (try dsimp only at hSw); go_simp; (try with_reducible rfl))
  simp only [Act.put, List.setIfInBounds_toArray, List.set_cons_zero, List.set_cons_succ]
  refine take_put (i := 10) (d := 15) (v := ?_) rfl rfl (by kernel_rfl) (by kernel_rfl) (by kernel_rfl) (fun _ _ _ h => h) (Or.inl ⟨by kernel_rfl, ?_⟩) hHeld ?_
  rotate_left
  · (intro w hSw; (try dsimp only at hSw); go_simp; (try with_reducible rfl))
  simp only [Act.put, List.setIfInBounds_toArray, List.set_cons_zero, List.set_cons_succ]
  refine take_put (i := 11) (d := 16) (v := ?_) rfl rfl (by kernel_rfl) (by kernel_rfl) (by kernel_rfl) (fun _ _ _ h => h) (Or.inl ⟨by kernel_rfl, ?_⟩) hHeld ?_
  rotate_left
  · (intro w hSw; (try dsimp only at hSw); go_simp; (try with_reducible rfl))
  simp only [Act.put, List.setIfInBounds_toArray, List.set_cons_zero, List.set_cons_succ]
  refine wpAnyH_ready (rs := [12]) (by kernel_rfl) (by simp) ?_
  refine AllReadyH.cons rfl (fun K hK => ?_) AllReadyH.nil
  rw [if_pos (by rfl)]
  go_simp
  refine (HCL.out _ (below_drew _)).mono ?_
  rintro e w2 ⟨rfl, hm2, hb2⟩
  have HM2 := hid_in hm2
  have HB2 : Hid (Below w.heap.size w w2) := hid_in ((below_drew w).trans hb2)
  clear hm2 hb2
  go_simp
  refine hK.out _ _ (HK.out _ HB2.out) (fun hHeld => ?_)
  clear hK K
  refine take_put (i := 13) (d := 18) (v := ?_) rfl rfl (by kernel_rfl) (by kernel_rfl) (by kernel_rfl) (fun _ _ _ h => h) (Or.inl ⟨by kernel_rfl, ?_⟩) hHeld ?_
  rotate_left
  · (intro w hSw; (try dsimp only at hSw); go_simp; (try with_reducible rfl))
  simp only [Act.put, List.setIfInBounds_toArray, List.set_cons_zero, List.set_cons_succ]
  refine wpAnyH_ready (rs := [14]) (by kernel_rfl) (by simp) ?_
  refine AllReadyH.cons rfl (fun K hK => ?_) AllReadyH.nil
  rw [if_pos (by rfl)]
  go_simp
  refine hK.out _ _ (HK.out _ (HB2.out.alloc HB2.out.size _)) (fun hHeld => ?_)
  clear hK K
  refine take_put (i := 15) (d := 2) (v := ?_) rfl rfl (by kernel_rfl) (by kernel_rfl) (by kernel_rfl) (fun _ _ _ h => h) (Or.inl ⟨by kernel_rfl, ?_⟩) hHeld ?_
  rotate_left
  · (intro w hSw; (try dsimp only at hSw); go_simp; (try with_reducible rfl))
  simp only [Act.put, List.setIfInBounds_toArray, List.set_cons_zero, List.set_cons_succ]
  refine wpAnyH_done (by kernel_rfl) ?_ _
  go_wp2
  go_ret
  have hB : Below w2.heap.size w2 (w2.alloc (.cells #[.int .i64 N, .int .i64 Z, .map (some w.heap.size)] 58)) := (Below.refl _ _).alloc (Nat.le_refl _) _
  exact ⟨w2.heap.size, w.heap.size, rfl, ⟨Row.new w2 [.int .i64 N, .int .i64 Z, .map (some w.heap.size)] 58, HM2.out.grown (grown_of_below hB) (fun k e => by cases e)⟩, HB2.out.trans (hB.mono HB2.out.size), Nat.le_refl _, HB2.out.size⟩
theorem clone_nil (w : World) : Calls Try.prog 19 #[.pointer none] w fun e w' => e = .returned (.pointer none) ∧ w' = w := by
  go_enter Try.func19, Try.ntmps19
  go_wp2
  go_ret
  exact ⟨rfl, rfl⟩
theorem encode_nil (w : World) : Calls Try.prog 18 #[.pointer none] w fun e w' => e = .returned (.slice none 0 0) ∧ w' = w := by
  go_enter Try.func18, Try.ntmps18
  go_wp2
  go_ret
  exact ⟨rfl, rfl⟩
theorem list_nil (v : Value) (w : World) : Calls Try.prog 16 #[.pointer none, v] w fun e w' => e = .returned (.slice none 0 0) ∧ w' = w := by
  go_enter Try.func16, Try.ntmps16
  go_wp2
  go_ret
  exact ⟨rfl, rfl⟩
set_option maxHeartbeats 1000000 in
set_option maxRecDepth 100000 in
theorem get_nil (v : Value) (w : World) : Calls Try.prog 13 #[.pointer none, v] w fun e w' => e = .returned (.tuple #[.agg #[.string ⟨#[]⟩, .int .i64 0, .bool false, .string ⟨#[]⟩], .bool false]) ∧ Below w.heap.size w w' := by
  obtain ⟨w1, HW1⟩ : ∃ w1, Hid (w.alloc (.cells #[.string ⟨#[]⟩, .int .i64 0, .bool false, .string ⟨#[]⟩] 36) = w1) := ⟨_, hid_in rfl⟩
  have HB1 : Hid (Below w.heap.size w w1) := by rw [← HW1.out]; exact (Below.refl _ _).alloc (Nat.le_refl _) _
  have HR1 : Hid (Row w1 w.heap.size [.string ⟨#[]⟩, .int .i64 0, .bool false, .string ⟨#[]⟩] 36) := by rw [← HW1.out]; exact Row.new w [.string ⟨#[]⟩, .int .i64 0, .bool false, .string ⟨#[]⟩] 36
  have r0 := HR1.out.cell 0
  have r1 := HR1.out.cell 1
  have r2 := HR1.out.cell 2
  have r3 := HR1.out.cell 3
  have z0 := HR1.out.frozen 0
  have z1 := HR1.out.frozen 1
  have z2 := HR1.out.frozen 2
  have z3 := HR1.out.frozen 3
  go_enter Try.func13, Try.ntmps13
  go_upto_region 1 with fail
  refine wp_world HW1.out ?_
  go_wp2
  exact post_Row2 4 5 36 rfl w.heap.size rfl 36 [.string ⟨#[]⟩, .int .i64 0, .bool false, .string ⟨#[]⟩] ((((HR1.out.set_same 0 _).set_same 1 _).set_same 2 _).set_same 3 _) _ Try.underlying36 rfl 4 info36 rfl rfl ⟨rfl, (set4_below HB1.out (Nat.le_refl _) HB1.out.size _ _ _ _).1⟩
end Go.Proofs.Ytglfeocfhlmloaa.Up
