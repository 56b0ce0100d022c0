/-
  Inodes of two lists that read as the same inodes. Encode and Below by what is there; Decode.
-/
import Derived.Lib.AppendZeros
import Derived.Deep.DrawnRows
import Derived.Deep.CutRange
import Derived.Laws.CopyOwn
import Derived.Shelf.SlMaps.Clone
import Derived.Deep.RegionLaw
import Derived.Laws.Tables
import Derived.Test.YtglfeocfhlmloaaW00
import Derived.Test.YtglfeocfhlmloaaW01
import Derived.Test.YtglfeocfhlmloaaW02
import Derived.Test.YtglfeocfhlmloaaW03
import Derived.Test.YtglfeocfhlmloaaW04
import Derived.Test.YtglfeocfhlmloaaW05
import Derived.Test.YtglfeocfhlmloaaW06
import Derived.Test.YtglfeocfhlmloaaW07
import Derived.Test.YtglfeocfhlmloaaW08
import Derived.Test.YtglfeocfhlmloaaW09
import Derived.Test.YtglfeocfhlmloaaW10
import Derived.Test.YtglfeocfhlmloaaW11
import Derived.Test.YtglfeocfhlmloaaW12
import Derived.Test.YtglfeocfhlmloaaW13
import Derived.Test.YtglfeocfhlmloaaW14
import Derived.Test.YtglfeocfhlmloaaW15
import Derived.Test.YtglfeocfhlmloaaW16
import Derived.Test.YtglfeocfhlmloaaW17
import Derived.Test.YtglfeocfhlmloaaW18
import Derived.Test.YtglfeocfhlmloaaW19
import Derived.Test.YtglfeocfhlmloaaW20
import Derived.Test.YtglfeocfhlmloaaW21
import Derived.Test.YtglfeocfhlmloaaW22
import Derived.Test.YtglfeocfhlmloaaW23
import Derived.Test.YtglfeocfhlmloaaW24
import Derived.Test.YtglfeocfhlmloaaW25
import Derived.Test.YtglfeocfhlmloaaW26
import Derived.Test.YtglfeocfhlmloaaW27
import Derived.Test.YtglfeocfhlmloaaW28
namespace Go.Proofs.Ytglfeocfhlmloaa.Up
open Go.RowKit
open Nd (take_put)
theorem Fls.range {w : World} {b o : Nat} {fs : List Fil} (h : ∀ j u, (fcells fs)[j]? = some u → w.cell? ⟨b, o + j, none⟩ = some u) (i : Nat) (f : Fil) (hi : fs[i]? = some f) : w.rangeAt b (o + i * 4) f.cells := fun j u hj => by
  rw [Nat.add_assoc]
  exact h _ _ (fcells_at hi j u hj)
theorem eq36 (f : Fil) (w : World) : (Op.equalIn 10000 36 (.agg f.cells.toArray) (.agg f.cells.toArray)).run Try.prog w = .ok true w := by
  have hst : Try.prog.stoodInHeld 36 = false := by kernel_rfl
  have p0 : (part 9 f.cells.toArray 0).run Try.prog w = .ok (.string f.path) w := by kernel_rfl
  have p1 : (part 3 f.cells.toArray 1).run Try.prog w = .ok (.int .i64 f.kind) w := by kernel_rfl
  have p2 : (part 4 f.cells.toArray 2).run Try.prog w = .ok (.bool f.opq) w := by kernel_rfl
  have p3 : (part 9 f.cells.toArray 3).run Try.prog w = .ok (.string f.data) w := by kernel_rfl
  have e9 : ∀ s : ByteArray, (Op.equalIn 9999 9 (.string s) (.string s)).run Try.prog w = .ok true w := fun s => by
    show (Op.equalIn (9998 + 1) 9 (.string s) (.string s)).run Try.prog w = .ok true w
    rw [Op.equalIn]
    simp [Sem.run_bind, run_underlying Try.underlying9, Result.andThen, Sem.run_pure]
    exact (Nd.ba_beq s s).2 rfl
  have e4 : ∀ s : Bool, (Op.equalIn 9999 4 (.bool s) (.bool s)).run Try.prog w = .ok true w := fun s => by
    show (Op.equalIn (9998 + 1) 4 (.bool s) (.bool s)).run Try.prog w = .ok true w
    rw [Op.equalIn]
    simp [Sem.run_bind, run_underlying Try.underlying4, Result.andThen, Sem.run_pure]
  have e3 : ∀ s : Int, (Op.equalIn 9999 3 (.int .i64 s) (.int .i64 s)).run Try.prog w = .ok true w := fun s => by
    show (Op.equalIn (9998 + 1) 3 (.int .i64 s) (.int .i64 s)).run Try.prog w = .ok true w
    rw [Op.equalIn]
    simp [Sem.run_bind, run_underlying Try.underlying3, Result.andThen, Sem.run_pure]
  show (Op.equalIn (9999 + 1) 36 (.agg f.cells.toArray) (.agg f.cells.toArray)).run Try.prog w = .ok true w
  rw [Op.equalIn]
  simp only [Sem.run_bind, run_underlying Try.underlying36, Result.andThen_ok]
  simp [hst, p0, p1, p2, p3, e9, e4, e3, Result.andThen, Sem.run_bind, Sem.run_pure]
set_option maxHeartbeats 2000000 in
set_option maxRecDepth 100000 in
theorem inodes_same (fs : List Fil) (va vb : Value) (w : World) (ha : Fls w va fs) (hb : Fls w vb fs) :
    Calls Try.prog 15 #[va, vb] w fun e w' => e = .returned (.bool true) ∧ Below w.heap.size w w' := by
  obtain ⟨p1, c1, b1, o1, rfl, h11, h12, h13, h14', _⟩ := ha
  have h14 := Fls.range h14'
  obtain ⟨p2, c2, b2, o2, rfl, h21, h22, h23, h24', _⟩ := hb
  have h24 := Fls.range h24'
  have HEL : Hid (∀ (i : Nat) f, fs[i]? = some f → p1 = some ⟨b1, o1, none⟩ ∧ p2 = some ⟨b2, o2, none⟩ ∧ ∀ W, Below w.heap.size w W → W.rangeAt b1 (o1 + i * 4) f.cells ∧ W.rangeAt b2 (o2 + i * 4) f.cells) := hid_in (fun i f hi => by
    have hne : fs ≠ [] := by rintro rfl; simp at hi
    exact ⟨(h13 hne).1, (h23 hne).1, fun W hW => ⟨Nd.rangeAt_below (h14 i f hi) hW (h13 hne).2, Nd.rangeAt_below (h24 i f hi) hW (h23 hne).2⟩⟩)
  obtain ⟨N, HN⟩ : ∃ N, Hid (fs.length = N) := ⟨_, hid_in rfl⟩
  rw [HN.out]
  have HNL : Hid (N ≤ 9223372036854775807) := hid_in (by rw [← HN.out]; omega)
  clear h11 h12 h13 h14 h14' h21 h22 h23 h24 h24'
  go_enter Try.func15, Try.ntmps15
  go_upto_region 4 with fail
  go_loopw [5] (fun vi W => ∃ i : Nat, i ≤ N ∧ vi = .int .i64 (i : Int) ∧ Hid (Below w.heap.size w W)) (fun vi _ => N - (intOf vi).toNat)
  case atStart => exact ⟨0, by omega, rfl, hid_in (Below.refl _ _)⟩
  case round =>
    obtain ⟨i, hi, rfl, hbw⟩ := hrel
    by_cases hlt : i < N
    · obtain ⟨f, hf⟩ : ∃ f, fs[i]? = some f := ⟨_, List.getElem?_eq_getElem (by rw [HN.out]; exact hlt)⟩
      obtain ⟨rfl, rfl, hW⟩ := HEL.out i f hf
      obtain ⟨X, HX⟩ : ∃ X, Hid (X = f.cells) := ⟨_, hid_in rfl⟩
      have HXL : Hid (X.length = 4) := hid_in (by rw [HX.out]; rfl)
      have heq : ∀ W, (Op.equalIn 10000 36 (.agg X.toArray) (.agg X.toArray)).run Try.prog W = .ok true W := fun W => by rw [HX.out]; exact eq36 f W
      have HBD : Hid (Below w.heap.size w wr.drew) := hid_in (hbw.out.trans ((below_drew wr).mono hbw.out.size))
      have HK : Hid (wr.drew.rangeAt b1 (o1 + i * 4) X ∧ wr.drew.rangeAt b2 (o2 + i * 4) X) := hid_in (by rw [HX.out]; exact hW _ HBD.out)
      have hlt2 : (i : Int) < (N : Int) := by omega
      have HIL := hid_in hlt
      have hN : (N : Int) ≤ 9223372036854775807 := by have := HNL.out; omega
      clear hW hf hi hlt
      go_upto_region 6 with fail
      refine wp_region_held_drew (S := fun W' => W'.rangeAt b1 (o1 + i * 4) X ∧ W'.rangeAt b2 (o2 + i * 4) X) (by kernel_rfl) HK.out (fun hHeld => ?_)
      refine take_put (i := 0) (d := 17) (v := ?_) rfl rfl (by kernel_rfl) (by kernel_rfl) (by kernel_rfl) (fun _ _ _ h => h) (Or.inl ⟨by kernel_rfl, ?_⟩) hHeld ?_
      rotate_left
      · (intro w hSw; (try dsimp only at hSw); go_simp; (try with_reducible rfl))
      simp only [Act.put, List.setIfInBounds_toArray, List.set_cons_zero, List.set_cons_succ]
      refine take_put (i := 1) (d := 18) (v := ?_) rfl rfl (by kernel_rfl) (by kernel_rfl) (by kernel_rfl) (fun _ _ _ h => h) (Or.inl ⟨by kernel_rfl, ?_⟩) hHeld ?_
      rotate_left
      · (intro w hSw; (try dsimp only at hSw); go_simp; (try with_reducible rfl))
      simp only [Act.put, List.setIfInBounds_toArray, List.set_cons_zero, List.set_cons_succ]
      refine take_put (i := 2) (d := 19) (v := ?_) rfl rfl (by kernel_rfl) (by kernel_rfl) (by kernel_rfl) (fun _ _ _ h => h) (Or.inl ⟨by kernel_rfl, ?_⟩) hHeld ?_
      rotate_left
      · (intro w hSw; (try dsimp only at hSw); go_simp; (try with_reducible rfl))
      simp only [Act.put, List.setIfInBounds_toArray, List.set_cons_zero, List.set_cons_succ]
      refine take_put (i := 3) (d := 20) (v := .agg X.toArray) rfl rfl (by kernel_rfl) (by kernel_rfl) (by kernel_rfl) (fun _ _ _ h => h) (yieldsIf_load_mid (by rfl) 36 _ rfl _ _ rfl X _ (fun w hSw => hSw.1) Try.underlying36 rfl (by rw [info36, HXL.out])) hHeld ?_
      simp only [Act.put, List.setIfInBounds_toArray, List.set_cons_zero, List.set_cons_succ]
      refine take_put (i := 4) (d := 21) (v := ?_) rfl rfl (by kernel_rfl) (by kernel_rfl) (by kernel_rfl) (fun _ _ _ h => h) (Or.inl ⟨by kernel_rfl, ?_⟩) hHeld ?_
      rotate_left
      · (intro w hSw; (try dsimp only at hSw); go_simp; (try with_reducible rfl))
      simp only [Act.put, List.setIfInBounds_toArray, List.set_cons_zero, List.set_cons_succ]
      refine take_put (i := 5) (d := 22) (v := ?_) rfl rfl (by kernel_rfl) (by kernel_rfl) (by kernel_rfl) (fun _ _ _ h => h) (Or.inl ⟨by kernel_rfl, ?_⟩) hHeld ?_
      rotate_left
      · (intro w hSw; (try dsimp only at hSw); go_simp; (try with_reducible rfl))
      simp only [Act.put, List.setIfInBounds_toArray, List.set_cons_zero, List.set_cons_succ]
      refine take_put (i := 6) (d := 23) (v := ?_) rfl rfl (by kernel_rfl) (by kernel_rfl) (by kernel_rfl) (fun _ _ _ h => h) (Or.inl ⟨by kernel_rfl, ?_⟩) hHeld ?_
      rotate_left
      · (intro w hSw; (try dsimp only at hSw); go_simp; (try with_reducible rfl))
      simp only [Act.put, List.setIfInBounds_toArray, List.set_cons_zero, List.set_cons_succ]
      refine take_put (i := 7) (d := 24) (v := .agg X.toArray) rfl rfl (by kernel_rfl) (by kernel_rfl) (by kernel_rfl) (fun _ _ _ h => h) (yieldsIf_load_mid (by rfl) 36 _ rfl _ _ rfl X _ (fun w hSw => hSw.2) Try.underlying36 rfl (by rw [info36, HXL.out])) hHeld ?_
      simp only [Act.put, List.setIfInBounds_toArray, List.set_cons_zero, List.set_cons_succ]
      refine take_put (i := 8) (d := 25) (v := .bool false) rfl rfl (by kernel_rfl) (by kernel_rfl) (by kernel_rfl) (fun _ _ _ h => h) (Or.inl ⟨by kernel_rfl, fun w hSw => ?_⟩) hHeld ?_
      · (go_simp)
      simp only [Act.put, List.setIfInBounds_toArray, List.set_cons_zero, List.set_cons_succ]
      refine wpAnyH_done (by kernel_rfl) ?_ _
      clear heq HK
      go_wp2
      go_roundw
      case rel => exact ⟨i + 1, by have := HIL.out; omega, by go_num, HBD⟩
      case measure => have := HIL.out; simp [intOf]; omega
    · obtain rfl : N = i := by omega
      clear hi hlt
      go_wp2
      go_ret
      exact ⟨rfl, hbw.out⟩
end Go.Proofs.Ytglfeocfhlmloaa.Up
namespace Go.Proofs.Ytglfeocfhlmloaa.Up
open Go.RowKit
open Vp (Str B bl Val cmpL parseS showS withinS IsPath checkS)
open Nd (Row wp_world post_Row2 grownBy_setCell below_of_grown In Sta sNum sText Grew str Sl)
theorem fil_ent {s : Spot} (h : s.path = B (showS s.names)) : s.fil = s.ent.fil := by
  unfold Spot.fil Ent.fil Spot.ent
  rw [h]
theorem belowB_all {L : List Spot} (h : ∀ s ∈ L, s.names ≠ []) : L.filter (belowB []) = L := by
  refine List.filter_eq_self.2 fun s hs => ?_
  unfold belowB
  have h1 := List.length_pos_iff.2 (h s hs)
  simp [withinS, h1]
theorem ordered_ent {w : World} {g m : Nat} {N Z : Int} {L sp : List Spot} (hF : Fs w g m N Z L) (hT : TreeA (L.map Spot.ent)) (h : Ordered L sp) : OrdA (L.map Spot.ent) (sp.map Spot.ent) ∧ sp.map Spot.fil = (sp.map Spot.ent).map Ent.fil := by
  have hne : ∀ s ∈ L, s.names ≠ [] := fun s hs => (hT.good s.ent (List.mem_map.2 ⟨s, hs, rfl⟩)).2.1
  obtain ⟨h1, h2⟩ := h
  rw [belowB_all hne] at h1
  refine ⟨⟨h1.map _, ?_⟩, ?_⟩
  · rw [List.pairwise_map]
    exact h2
  · rw [List.map_map]
    refine List.map_congr_left fun s hs => ?_
    exact fil_ent (hF.map.good s (h1.mem_iff.1 hs)).1
theorem list_ent {w : World} {g m : Nat} {N Z : Int} {A : List Ent} (h : FsA w g m N Z A) (hT : TreeA A) :
    Calls Try.prog 16 #[.pointer (some ⟨g, 0, none⟩), .slice none 0 0] w fun e w' => ∃ v es, OrdA A es ∧ e = .returned v ∧ Fls w' v (es.map Ent.fil) ∧ Below w.heap.size w w' := by
  obtain ⟨L, h1, rfl⟩ := h
  have hlen := hT.len
  rw [List.length_map] at hlen
  refine (list_o h1 (by omega)).mono ?_
  rintro e w' ⟨sp, lb, vs, rfl, hf, hor, _, hb⟩
  obtain ⟨ho, hff⟩ := ordered_ent h1 hT hor
  rw [hff] at hf
  exact ⟨_, _, ho, rfl, hf.out, hb⟩
end Go.Proofs.Ytglfeocfhlmloaa.Up
