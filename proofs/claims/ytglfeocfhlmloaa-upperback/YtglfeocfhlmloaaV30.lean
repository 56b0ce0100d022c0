/-
  Clone; the calls of none. Numbers and inodes that are read.
-/
import Derived.Shelf.SlMaps.Clone
import Derived.Deep.CutRange
import Derived.Laws.CopyOwn
import Derived.Deep.RegionLaw
import Derived.Deep.DrawnRows
import Derived.Laws.Tables
import Derived.Test.YtglfeocfhlmloaaV00
import Derived.Test.YtglfeocfhlmloaaV01
import Derived.Test.YtglfeocfhlmloaaV02
import Derived.Test.YtglfeocfhlmloaaV03
import Derived.Test.YtglfeocfhlmloaaV04
import Derived.Test.YtglfeocfhlmloaaV05
import Derived.Test.YtglfeocfhlmloaaV06
import Derived.Test.YtglfeocfhlmloaaV07
import Derived.Test.YtglfeocfhlmloaaV08
import Derived.Test.YtglfeocfhlmloaaV09
import Derived.Test.YtglfeocfhlmloaaV10
import Derived.Test.YtglfeocfhlmloaaV11
import Derived.Test.YtglfeocfhlmloaaV12
import Derived.Test.YtglfeocfhlmloaaV13
import Derived.Test.YtglfeocfhlmloaaV14
import Derived.Test.YtglfeocfhlmloaaV15
import Derived.Test.YtglfeocfhlmloaaV16
import Derived.Test.YtglfeocfhlmloaaV17
import Derived.Test.YtglfeocfhlmloaaV18
import Derived.Test.YtglfeocfhlmloaaV19
import Derived.Test.YtglfeocfhlmloaaV20
import Derived.Test.YtglfeocfhlmloaaV21
import Derived.Test.YtglfeocfhlmloaaV22
import Derived.Test.YtglfeocfhlmloaaV23
import Derived.Test.YtglfeocfhlmloaaV24
import Derived.Test.YtglfeocfhlmloaaV25
import Derived.Test.YtglfeocfhlmloaaV26
import Derived.Test.YtglfeocfhlmloaaV27
import Derived.Test.YtglfeocfhlmloaaV28
import Derived.Test.YtglfeocfhlmloaaV29
namespace Go.Proofs.Ytglfeocfhlmloaa.Up
open Go.RowKit
open Vp (Str B bl Val cmpL parseS showS withinS IsPath checkS)
open Nd (take_put Row wp_world post_Row post_Row2 grownBy_setCell below_of_grown)
theorem MapP.copy {w : World} {m : Nat} {L : List Spot} (h : MapP w m L) {es : Array MapEntry} {clock : Nat} (hb : w.heap[m]? = some (.map es clock)) : MapP (w.alloc (.map es clock)) w.heap.size L := by
  obtain ⟨es', clock', hb', h1⟩ := h.ex
  rw [hb] at hb'
  cases hb'
  have hB : Below w.heap.size w (w.alloc (.map es clock)) := (Below.refl _ w).alloc (Nat.le_refl _) _
  exact ⟨⟨es, clock, (MapKept.heap_alloc w _).1, h1⟩, h.good, fun s hs => (h.nms s hs).below hB, h.one⟩
set_option maxHeartbeats 2000000 in
set_option maxRecDepth 100000 in
theorem mclone_any {w : World} {m : Nat} {L : List Spot} (h : MapP w m L) :
    Calls Try.prog 44 #[.map (some m)] w fun e w' => e = .returned (.map (some w.heap.size)) ∧ MapP w' w.heap.size L ∧ Below w.heap.size w w' := by
  obtain ⟨es, clock, hb, _⟩ := h.ex
  have HC := hid_in (h.copy hb)
  have HB : Hid (Below w.heap.size w (w.alloc (.map es clock))) := hid_in ((Below.refl _ w).alloc (Nat.le_refl _) _)
  have hq := fun w => run_eql_map_nil_sl (P := Try.prog) w 56 _ _ (some m) Try.underlying56
  clear h
  go_enter Try.func44, Try.ntmps44
  go_wp2
  rw [run_callFunc_extern Try.func60 (by kernel_rfl) (by kernel_rfl) (by kernel_rfl) (e := Extern.MapsClone.clone) (by kernel_rfl), run_maps_clone_sl w 56 hb]
  simp only [Result.andThen]
  rw [Oper.upon_value]
  go_wp2
  rw [run_typeAssert_map_sl _ 56 20 _ _ _ Try.underlying56]
  simp only [Result.andThen]
  rw [Oper.upon_value]
  go_wp2
  go_ret
  exact ⟨rfl, HC.out, HB.out⟩
set_option maxHeartbeats 2000000 in
set_option maxRecDepth 100000 in
theorem clone_any {w : World} {g m : Nat} {N Z : Int} {L : List Spot} (h : Fs w g m N Z L) :
    Calls Try.prog 19 #[.pointer (some ⟨g, 0, none⟩)] w fun e w' => ∃ g2 m2, e = .returned (.pointer (some ⟨g2, 0, none⟩)) ∧ Fs w' g2 m2 N Z L ∧ Below w.heap.size w w' ∧ w.heap.size ≤ m2 ∧ w.heap.size ≤ g2 := by
  have HCL := hid_in (fun W (q : Below w.heap.size w W) => (mclone_any (h.below q).map).mono (fun e w' hh => (⟨hh.1, ⟨hh.2.1, hh.2.2.mono q.size⟩⟩ : e = .returned (.map (some W.heap.size)) ∧ MapP w' W.heap.size L ∧ Below w.heap.size W w')))
  have HK := hid_in (fun W (q : Below w.heap.size w W) => (h.below q).cell)
  clear h
  go_enter Try.func19, Try.ntmps19
  go_upto_region 3 with fail
  refine wp_region_held_drew (S := fun W => W.cell? ⟨g, 0, none⟩ = some (.int .i64 N) ∧ W.cell? ⟨g, 1, none⟩ = some (.int .i64 Z) ∧ W.cell? ⟨g, 2, none⟩ = some (.map (some m))) (by kernel_rfl) (HK.out _ (below_drew _)) (fun hHeld => ?_)
  refine take_put (i := 0) (d := 5) (v := ?_) rfl rfl (by kernel_rfl) (by kernel_rfl) (by kernel_rfl) (fun _ _ _ h => h) (Or.inl ⟨by kernel_rfl, ?_⟩) hHeld ?_
  rotate_left
  · (intro w hSw; (try dsimp only at hSw); go_simp; (try with_reducible rfl))
  simp only [Act.put, List.setIfInBounds_toArray, List.set_cons_zero, List.set_cons_succ]
  refine take_put (i := 1) (d := 6) (v := ?_) rfl rfl (by kernel_rfl) (by kernel_rfl) (by kernel_rfl) (fun _ _ _ h => h) (Or.inl ⟨by kernel_rfl, ?_⟩) hHeld ?_
  rotate_left
  · (intro w hSw; (try dsimp only at hSw); go_simp; (try with_reducible rfl))
  simp only [Act.put, List.setIfInBounds_toArray, List.set_cons_zero, List.set_cons_succ]
  refine take_put (i := 2) (d := 7) (v := ?_) rfl rfl (by kernel_rfl) (by kernel_rfl) (by kernel_rfl) (fun _ _ _ h => h) (Or.inl ⟨by kernel_rfl, ?_⟩) hHeld ?_
  rotate_left
  · (intro w hSw; (try dsimp only at hSw); go_simp; (try with_reducible rfl))
  simp only [Act.put, List.setIfInBounds_toArray, List.set_cons_zero, List.set_cons_succ]
  refine take_put (i := 3) (d := 8) (v := ?_) rfl rfl (by kernel_rfl) (by kernel_rfl) (by kernel_rfl) (fun _ _ _ h => h) (Or.inl ⟨by kernel_rfl, ?_⟩) hHeld ?_
  rotate_left
  · (intro w hSw; (try dsimp only at hSw); go_simp; (try with_reducible rfl))
  simp only [Act.put, List.setIfInBounds_toArray, List.set_cons_zero, List.set_cons_succ]
  refine take_put (i := 4) (d := 9) (v := ?_) rfl rfl (by kernel_rfl) (by kernel_rfl) (by kernel_rfl) (fun _ _ _ h => h) (Or.inl ⟨by kernel_rfl, ?_⟩) hHeld ?_
  rotate_left
  · (intro w hSw; (try dsimp only at hSw); go_simp; (try with_reducible rfl))
  simp only [Act.put, List.setIfInBounds_toArray, List.set_cons_zero, List.set_cons_succ]
  refine take_put (i := 5) (d := 10) (v := ?_) rfl rfl (by kernel_rfl) (by kernel_rfl) (by kernel_rfl) (fun _ _ _ h => h) (Or.inl ⟨by kernel_rfl, ?_⟩) hHeld ?_
  rotate_left
  · (intro w hSw; (try dsimp only at hSw); go_simp; (try with_reducible rfl))
  simp only [Act.put, List.setIfInBounds_toArray, List.set_cons_zero, List.set_cons_succ]
  refine take_put (i := 6) (d := 11) (v := ?_) rfl rfl (by kernel_rfl) (by kernel_rfl) (by kernel_rfl) (fun _ _ _ h => h) (Or.inl ⟨by kernel_rfl, ?_⟩) hHeld ?_
  rotate_left
  · (intro w hSw; (try dsimp only at hSw); go_simp; (try with_reducible rfl))
  simp only [Act.put, List.setIfInBounds_toArray, List.set_cons_zero, List.set_cons_succ]
  refine take_put (i := 7) (d := 12) (v := ?_) rfl rfl (by kernel_rfl) (by kernel_rfl) (by kernel_rfl) (fun _ _ _ h => h) (Or.inl ⟨by kernel_rfl, ?_⟩) hHeld ?_
  rotate_left
  · (intro w hSw; (try dsimp only at hSw); go_simp; (try with_reducible rfl))
  simp only [Act.put, List.setIfInBounds_toArray, List.set_cons_zero, List.set_cons_succ]
  refine take_put (i := 8) (d := 13) (v := ?_) rfl rfl (by kernel_rfl) (by kernel_rfl) (by kernel_rfl) (fun _ _ _ h => h) (Or.inl ⟨by kernel_rfl, ?_⟩) hHeld ?_
  rotate_left
  · (intro w hSw; (try dsimp only at hSw); go_simp; (try with_reducible rfl))
  simp only [Act.put, List.setIfInBounds_toArray, List.set_cons_zero, List.set_cons_succ]
  refine take_put (i := 9) (d := 14) (v := ?_) rfl rfl (by kernel_rfl) (by kernel_rfl) (by kernel_rfl) (fun _ _ _ h => h) (Or.inl ⟨by kernel_rfl, ?_⟩) hHeld ?_
  rotate_left
  · (intro w hSw; (try dsimp only at hSw); go_simp; (try with_reducible rfl))
  simp only [Act.put, List.setIfInBounds_toArray, List.set_cons_zero, List.set_cons_succ]
  refine take_put (i := 10) (d := 15) (v := ?_) rfl rfl (by kernel_rfl) (by kernel_rfl) (by kernel_rfl) (fun _ _ _ h => h) (Or.inl ⟨by kernel_rfl, ?_⟩) hHeld ?_
  rotate_left
  · (intro w hSw; (try dsimp only at hSw); go_simp; (try with_reducible rfl))
  simp only [Act.put, List.setIfInBounds_toArray, List.set_cons_zero, List.set_cons_succ]
  refine take_put (i := 11) (d := 16) (v := ?_) rfl rfl (by kernel_rfl) (by kernel_rfl) (by kernel_rfl) (fun _ _ _ h => h) (Or.inl ⟨by kernel_rfl, ?_⟩) hHeld ?_
  rotate_left
  · (intro w hSw; (try dsimp only at hSw); go_simp; (try with_reducible rfl))
  simp only [Act.put, List.setIfInBounds_toArray, List.set_cons_zero, List.set_cons_succ]
  refine wpAnyH_ready (rs := [12]) (by kernel_rfl) (by simp) ?_
  refine AllReadyH.cons rfl (fun K hK => ?_) AllReadyH.nil
  rw [if_pos (by rfl)]
  go_simp
  refine (HCL.out _ (below_drew _)).mono ?_
  rintro e w2 ⟨rfl, hm2, hb2⟩
  have HM2 := hid_in hm2
  have HB2 : Hid (Below w.heap.size w w2) := hid_in ((below_drew w).trans hb2)
  clear hm2 hb2
  go_simp
  refine hK.out _ _ (HK.out _ HB2.out) (fun hHeld => ?_)
  clear hK K
  refine take_put (i := 13) (d := 18) (v := ?_) rfl rfl (by kernel_rfl) (by kernel_rfl) (by kernel_rfl) (fun _ _ _ h => h) (Or.inl ⟨by kernel_rfl, ?_⟩) hHeld ?_
  rotate_left
  · (intro w hSw; (try dsimp only at hSw); go_simp; (try with_reducible rfl))
  simp only [Act.put, List.setIfInBounds_toArray, List.set_cons_zero, List.set_cons_succ]
  refine wpAnyH_ready (rs := [14]) (by kernel_rfl) (by simp) ?_
  refine AllReadyH.cons rfl (fun K hK => ?_) AllReadyH.nil
  rw [if_pos (by rfl)]
  go_simp
  refine hK.out _ _ (HK.out _ (HB2.out.alloc HB2.out.size _)) (fun hHeld => ?_)
  clear hK K
  refine take_put (i := 15) (d := 2) (v := ?_) rfl rfl (by kernel_rfl) (by kernel_rfl) (by kernel_rfl) (fun _ _ _ h => h) (Or.inl ⟨by kernel_rfl, ?_⟩) hHeld ?_
  rotate_left
  · (intro w hSw; (try dsimp only at hSw); go_simp; (try with_reducible rfl))
  simp only [Act.put, List.setIfInBounds_toArray, List.set_cons_zero, List.set_cons_succ]
  refine wpAnyH_done (by kernel_rfl) ?_ _
  go_wp2
  go_ret
  have hB : Below w2.heap.size w2 (w2.alloc (.cells #[.int .i64 N, .int .i64 Z, .map (some w.heap.size)] 58)) := (Below.refl _ _).alloc (Nat.le_refl _) _
  exact ⟨w2.heap.size, w.heap.size, rfl, ⟨Row.new w2 [.int .i64 N, .int .i64 Z, .map (some w.heap.size)] 58, HM2.out.grown (grown_of_below hB) (fun k e => by cases e)⟩, HB2.out.trans (hB.mono HB2.out.size), Nat.le_refl _, HB2.out.size⟩
end Go.Proofs.Ytglfeocfhlmloaa.Up
namespace Go.Proofs.Ytglfeocfhlmloaa.Up
open Go.RowKit
open Vp (Str B bl Val cmpL parseS showS withinS IsPath checkS)
open Nd (Row wp_world post_Row post_Row2 grownBy_setCell below_of_grown In Sta sNum sText sFlag Grew str)
theorem sNum_lt (s : Sta) : (sNum s).1 < 18446744073709551616 := by
  unfold sNum
  split
  · exact Nd.rnum_lt _
  · show (0 : Nat) < _
    omega
/-- a number, cut at one above the most -/
def sCut (m : Nat) (s : Sta) : Nat := min (sNum s).1 (m + 1)
set_option maxHeartbeats 1000000 in
set_option maxRecDepth 100000 in
theorem number_s (w : World) (g B : Nat) (s : Sta) (m : Nat) (hm : m ≤ 8192) (hi : In B w g s) : Calls Try.prog 68 #[.pointer (some ⟨g, 0, none⟩), .int .i64 (m : Int)] w fun r w' => r = .returned (.int .i64 (sCut m s : Nat)) ∧ In B w' g (sNum s).2 ∧ Grew w w' (· = g) := by
  have HN := hid_in (Nd.num_s w g B s hi)
  have hlt := sNum_lt s
  unfold sCut
  generalize (sNum s).1 = n at *
  generalize (sNum s).2 = s' at *
  have hm2 : (m : Int) ≤ 8192 := by omega
  have hn2 : (n : Int) < 18446744073709551616 := by omega
  clear hi
  have he : (min (n : Int) ((m : Int) + 1)) = ((min n (m + 1) : Nat) : Int) := by omega
  have HE := hid_in he
  clear hlt hm he
  go_enter Try.func68, Try.ntmps68
  go_wp2_with (go_at_call 88; refine HN.out.mono ?_; rintro e w1 ⟨rfl, hi1, hg1⟩; have HI1 := hid_in hi1; have HG1 := hid_in hg1; clear hi1 hg1)
  go_ret
  refine ⟨?_, HI1.out, HG1.out⟩
  rw [← HE.out]
  rfl
/-- an inode that is read -/
def sIno (s : Sta) : Fil × Sta :=
  let a := sText 256 s
  let b := sNum a.2
  let c := sFlag b.2
  let d := sText 1024 c.2
  (⟨str a.1, (min b.1 4 : Nat), c.1, str d.1⟩, d.2)
set_option maxHeartbeats 2000000 in
set_option maxRecDepth 100000 in
theorem readIno_s (w : World) (g B : Nat) (s : Sta) (hg : g < w.heap.size) (hB : B ≤ w.heap.size) (hi : In B w g s) : Calls Try.prog 69 #[.pointer (some ⟨g, 0, none⟩)] w fun r w' => r = .returned (.agg #[.string (sIno s).1.path, .int .i64 (sIno s).1.kind, .bool (sIno s).1.opq, .string (sIno s).1.data]) ∧ In B w' g (sIno s).2 ∧ Grew w w' (· = g) := by
  obtain ⟨w1, HW1⟩ : ∃ w1, Hid (w.alloc (.cells #[.string ⟨#[]⟩, .int .i64 0, .bool false, .string ⟨#[]⟩] 36) = w1) := ⟨_, hid_in rfl⟩
  have HB1 : Hid (Below w.heap.size w w1) := by rw [← HW1.out]; exact (Below.refl _ _).alloc (Nat.le_refl _) _
  have HR1 : Hid (Row w1 w.heap.size [.string ⟨#[]⟩, .int .i64 0, .bool false, .string ⟨#[]⟩] 36) := by rw [← HW1.out]; exact Row.new w [.string ⟨#[]⟩, .int .i64 0, .bool false, .string ⟨#[]⟩] 36
  have HI1 := hid_in (hi.below HB1.out)
  have HT1 := hid_in (fun W t (k : In B W g t) => Nd.text_s W g B t 256 (by omega) k)
  have HT2 := hid_in (fun W t (k : In B W g t) => Nd.text_s W g B t 1024 (by omega) k)
  simp only [show ((256 : Nat) : Int) = 256 from rfl] at HT1
  simp only [show ((1024 : Nat) : Int) = 1024 from rfl] at HT2
  have HN := hid_in (fun W t (k : In B W g t) => number_s W g B t 3 (by omega) k)
  simp only [show ((3 : Nat) : Int) = 3 from rfl] at HN
  have HF := hid_in (fun W t (k : In B W g t) => Nd.flag_s W g B t k)
  have HG := hid_in hg
  have HBB := hid_in hB
  have HRG := hid_in (fun (W W' : World) vs (h : Row W w.heap.size vs 36) (k : Grew W W' (· = g)) => (show Row W' w.heap.size vs 36 from by
    have hl := h.lt
    unfold Row at *
    rw [k.block _ hl (by omega)]
    exact h))
  unfold sIno
  simp only
  clear hi hg hB
  go_enter Try.func69, Try.ntmps69
  go_upto_region 1 with fail
  refine wp_world HW1.out ?_
  go_wp2_with (first | (go_at_call 89; refine (HT2.out _ _ HI4.out).mono ?_; rintro e w5 ⟨rfl, hi5, hg5⟩; have HI5 := hid_in hi5; have HG5 := hid_in hg5; have HR5 := hid_in (HRG.out _ _ _ HR4.out hg5); have r0 := HR5.out.cell 0; have r1 := HR5.out.cell 1; have r2 := HR5.out.cell 2; have r3 := HR5.out.cell 3; have z0 := HR5.out.frozen 0; have z1 := HR5.out.frozen 1; have z2 := HR5.out.frozen 2; have z3 := HR5.out.frozen 3; clear hi5 hg5) | (go_at_call 68; refine (HN.out _ _ HI2.out).mono ?_; rintro e w3 ⟨rfl, hi3, hg3⟩; have HI3 := hid_in hi3; have HG3 := hid_in hg3; have HR3 := hid_in (HRG.out _ _ _ HR2.out hg3); clear hi3 hg3) | (go_at_call 90; refine (HF.out _ _ HI3.out).mono ?_; rintro e w4 ⟨rfl, hi4, hg4⟩; have HI4 := hid_in hi4; have HG4 := hid_in hg4; have HR4 := hid_in (HRG.out _ _ _ HR3.out hg4); clear hi4 hg4) | (go_at_call 89; refine (HT1.out _ _ HI1.out).mono ?_; rintro e w2 ⟨rfl, hi2, hg2⟩; have HI2 := hid_in hi2; have HG2 := hid_in hg2; have HR2 := hid_in (HRG.out _ _ _ HR1.out hg2); clear hi2 hg2))
  have hG : Grew w w5 (· = g) := ((((⟨HB1.out.os, HB1.out.tape, HB1.out.output, HB1.out.size, fun k hk _ => HB1.out.block k hk⟩ : Grew w w1 (· = g)).trans HG2.out (fun _ _ h => h)).trans HG3.out (fun _ _ h => h)).trans HG4.out (fun _ _ h => h)).trans HG5.out (fun _ _ h => h)
  have hS : ∀ (W : World) (j : Nat) (v : Value), Grew w W (· = g) → In B W g (sText 1024 (sFlag (sNum (sText 256 s).2).2).2).2 → Grew w (W.setCell ⟨w.heap.size, j, none⟩ v) (· = g) ∧ In B (W.setCell ⟨w.heap.size, j, none⟩ v) g (sText 1024 (sFlag (sNum (sText 256 s).2).2).2).2 := fun W j v h1 h2 => by
    have hg := grownBy_setCell W ⟨w.heap.size, j, none⟩ v
    refine ⟨⟨hg.os.trans h1.os, hg.tape.trans h1.tape, hg.output.trans h1.output, Nat.le_trans h1.size hg.size, fun k hk hn => ?_⟩, h2.grown hg HBB.out (by have := HG.out; show g ≠ w.heap.size; omega)⟩
    rw [hg.block k (Nat.lt_of_lt_of_le hk h1.size) (fun e => by have e2 : k = w.heap.size := Option.some.inj e; omega)]
    exact h1.block k hk hn
  obtain ⟨s0, i0⟩ := hS _ 0 (.string (str (sText 256 s).1)) hG HI5.out
  obtain ⟨s1, i1⟩ := hS _ 1 (.int .i64 ((min (sNum (sText 256 s).2).1 4 : Nat) : Int)) s0 i0
  obtain ⟨s2, i2⟩ := hS _ 2 (.bool (sFlag (sNum (sText 256 s).2).2).1) s1 i1
  obtain ⟨s3, i3⟩ := hS _ 3 (.string (str (sText 1024 (sFlag (sNum (sText 256 s).2).2).2).1)) s2 i2
  exact post_Row 2 36 rfl w.heap.size rfl 36 [.string (str (sText 256 s).1), .int .i64 ((min (sNum (sText 256 s).2).1 4 : Nat) : Int), .bool (sFlag (sNum (sText 256 s).2).2).1, .string (str (sText 1024 (sFlag (sNum (sText 256 s).2).2).2).1)] ((((HR5.out.set_same 0 _).set_same 1 _).set_same 2 _).set_same 3 _) _ Try.underlying36 rfl 4 info36 rfl rfl ⟨rfl, i3, s3⟩
end Go.Proofs.Ytglfeocfhlmloaa.Up
