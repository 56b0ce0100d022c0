/-
  Numbers and inodes that are read.
-/
import Derived.Deep.CutRange
import Derived.Laws.CopyOwn
import Derived.Shelf.SlMaps.Clone
import Derived.Deep.RegionLaw
import Derived.Deep.DrawnRows
import Derived.Laws.Tables
import Derived.Test.YtglfeocfhlmloaaGreatY00
import Derived.Test.YtglfeocfhlmloaaGreatY01
import Derived.Test.YtglfeocfhlmloaaGreatY02
import Derived.Test.YtglfeocfhlmloaaGreatY03
import Derived.Test.YtglfeocfhlmloaaGreatY04
import Derived.Test.YtglfeocfhlmloaaGreatY05
import Derived.Test.YtglfeocfhlmloaaGreatY06
import Derived.Test.YtglfeocfhlmloaaGreatY07
import Derived.Test.YtglfeocfhlmloaaGreatY08
import Derived.Test.YtglfeocfhlmloaaGreatY09
import Derived.Test.YtglfeocfhlmloaaGreatY10
import Derived.Test.YtglfeocfhlmloaaGreatY11
import Derived.Test.YtglfeocfhlmloaaGreatY12
import Derived.Test.YtglfeocfhlmloaaGreatY13
import Derived.Test.YtglfeocfhlmloaaGreatY14
import Derived.Test.YtglfeocfhlmloaaGreatY15
import Derived.Test.YtglfeocfhlmloaaGreatY16
import Derived.Test.YtglfeocfhlmloaaGreatY17
import Derived.Test.YtglfeocfhlmloaaGreatY18
import Derived.Test.YtglfeocfhlmloaaGreatY19
import Derived.Test.YtglfeocfhlmloaaGreatY20
import Derived.Test.YtglfeocfhlmloaaGreatY21
import Derived.Test.YtglfeocfhlmloaaGreatY22
import Derived.Test.YtglfeocfhlmloaaGreatY23
import Derived.Test.YtglfeocfhlmloaaGreatY24
import Derived.Test.YtglfeocfhlmloaaGreatY25
import Derived.Test.YtglfeocfhlmloaaGreatY26
import Derived.Test.YtglfeocfhlmloaaGreatY27
import Derived.Test.YtglfeocfhlmloaaGreatY28
import Derived.Test.YtglfeocfhlmloaaGreatY29
import Derived.Test.YtglfeocfhlmloaaGreatY30
import Derived.Test.YtglfeocfhlmloaaGreatY31
import Derived.Test.YtglfeocfhlmloaaGreatY32
import Derived.Test.YtglfeocfhlmloaaGreatY33
import Derived.Test.YtglfeocfhlmloaaGreatY34
namespace Go.Proofs.YtglfeocfhlmloaaGreat.Up
open Go.RowKit
open Vp (Str B bl Val cmpL parseS showS withinS IsPath checkS)
open Nd (Row wp_world post_Row post_Row2 grownBy_setCell below_of_grown In Sta sNum sText sFlag Grew str)
theorem sNum_lt (s : Sta) : (sNum s).1 < 18446744073709551616 := by
  unfold sNum
  split
  · exact Nd.rnum_lt _
  · show (0 : Nat) < _
    omega
/-- a number, cut at one above the most -/
def sCut (m : Nat) (s : Sta) : Nat := min (sNum s).1 (m + 1)
set_option maxHeartbeats 1000000 in
set_option maxRecDepth 100000 in
theorem number_s (w : World) (g B : Nat) (s : Sta) (m : Nat) (hm : m ≤ 8192) (hi : In B w g s) : Calls Tryz.prog 56 #[.pointer (some ⟨g, 0, none⟩), .int .i64 (m : Int)] w fun r w' => r = .returned (.int .i64 (sCut m s : Nat)) ∧ In B w' g (sNum s).2 ∧ Grew w w' (· = g) := by
  have HN := hid_in (Nd.num_s w g B s hi)
  have hlt := sNum_lt s
  unfold sCut
  generalize (sNum s).1 = n at *
  generalize (sNum s).2 = s' at *
  have hm2 : (m : Int) ≤ 8192 := by omega
  have hn2 : (n : Int) < 18446744073709551616 := by omega
  clear hi
  have he : (min (n : Int) ((m : Int) + 1)) = ((min n (m + 1) : Nat) : Int) := by omega
  have HE := hid_in he
  clear hlt hm he
  go_enter Tryz.func56, Tryz.ntmps56
  go_wp2_with (go_at_call 72; refine HN.out.mono ?_; rintro e w1 ⟨rfl, hi1, hg1⟩; have HI1 := hid_in hi1; have HG1 := hid_in hg1; clear hi1 hg1)
  go_ret
  refine ⟨?_, HI1.out, HG1.out⟩
  rw [← HE.out]
  rfl
/-- an inode that is read -/
def sIno (s : Sta) : Fil × Sta :=
  let a := sText 256 s
  let b := sNum a.2
  let c := sFlag b.2
  let d := sText 1024 c.2
  (⟨str a.1, (min b.1 4 : Nat), c.1, str d.1⟩, d.2)
set_option maxHeartbeats 2000000 in
set_option maxRecDepth 100000 in
theorem readIno_s (w : World) (g B : Nat) (s : Sta) (hg : g < w.heap.size) (hB : B ≤ w.heap.size) (hi : In B w g s) : Calls Tryz.prog 57 #[.pointer (some ⟨g, 0, none⟩)] w fun r w' => r = .returned (.agg #[.string (sIno s).1.path, .int .i64 (sIno s).1.kind, .bool (sIno s).1.opq, .string (sIno s).1.data]) ∧ In B w' g (sIno s).2 ∧ Grew w w' (· = g) := by
  obtain ⟨w1, HW1⟩ : ∃ w1, Hid (w.alloc (.cells #[.string ⟨#[]⟩, .int .i64 0, .bool false, .string ⟨#[]⟩] 42) = w1) := ⟨_, hid_in rfl⟩
  have HB1 : Hid (Below w.heap.size w w1) := by rw [← HW1.out]; exact (Below.refl _ _).alloc (Nat.le_refl _) _
  have HR1 : Hid (Row w1 w.heap.size [.string ⟨#[]⟩, .int .i64 0, .bool false, .string ⟨#[]⟩] 42) := by rw [← HW1.out]; exact Row.new w [.string ⟨#[]⟩, .int .i64 0, .bool false, .string ⟨#[]⟩] 42
  have HI1 := hid_in (hi.below HB1.out)
  have HT1 := hid_in (fun W t (k : In B W g t) => Nd.text_s W g B t 256 (by omega) k)
  have HT2 := hid_in (fun W t (k : In B W g t) => Nd.text_s W g B t 1024 (by omega) k)
  simp only [show ((256 : Nat) : Int) = 256 from rfl] at HT1
  simp only [show ((1024 : Nat) : Int) = 1024 from rfl] at HT2
  have HN := hid_in (fun W t (k : In B W g t) => number_s W g B t 3 (by omega) k)
  simp only [show ((3 : Nat) : Int) = 3 from rfl] at HN
  have HF := hid_in (fun W t (k : In B W g t) => Nd.flag_s W g B t k)
  have HG := hid_in hg
  have HBB := hid_in hB
  have HRG := hid_in (fun (W W' : World) vs (h : Row W w.heap.size vs 42) (k : Grew W W' (· = g)) => (show Row W' w.heap.size vs 42 from by
    have hl := h.lt
    unfold Row at *
    rw [k.block _ hl (by omega)]
    exact h))
  unfold sIno
  simp only
  clear hi hg hB
  go_enter Tryz.func57, Tryz.ntmps57
  go_upto_region 1 with fail
  refine wp_world HW1.out ?_
  go_wp2_with (first | (go_at_call 73; refine (HT2.out _ _ HI4.out).mono ?_; rintro e w5 ⟨rfl, hi5, hg5⟩; have HI5 := hid_in hi5; have HG5 := hid_in hg5; have HR5 := hid_in (HRG.out _ _ _ HR4.out hg5); have r0 := HR5.out.cell 0; have r1 := HR5.out.cell 1; have r2 := HR5.out.cell 2; have r3 := HR5.out.cell 3; have z0 := HR5.out.frozen 0; have z1 := HR5.out.frozen 1; have z2 := HR5.out.frozen 2; have z3 := HR5.out.frozen 3; clear hi5 hg5) | (go_at_call 56; refine (HN.out _ _ HI2.out).mono ?_; rintro e w3 ⟨rfl, hi3, hg3⟩; have HI3 := hid_in hi3; have HG3 := hid_in hg3; have HR3 := hid_in (HRG.out _ _ _ HR2.out hg3); clear hi3 hg3) | (go_at_call 74; refine (HF.out _ _ HI3.out).mono ?_; rintro e w4 ⟨rfl, hi4, hg4⟩; have HI4 := hid_in hi4; have HG4 := hid_in hg4; have HR4 := hid_in (HRG.out _ _ _ HR3.out hg4); clear hi4 hg4) | (go_at_call 73; refine (HT1.out _ _ HI1.out).mono ?_; rintro e w2 ⟨rfl, hi2, hg2⟩; have HI2 := hid_in hi2; have HG2 := hid_in hg2; have HR2 := hid_in (HRG.out _ _ _ HR1.out hg2); clear hi2 hg2))
  have hG : Grew w w5 (· = g) := ((((⟨HB1.out.os, HB1.out.tape, HB1.out.output, HB1.out.size, fun k hk _ => HB1.out.block k hk⟩ : Grew w w1 (· = g)).trans HG2.out (fun _ _ h => h)).trans HG3.out (fun _ _ h => h)).trans HG4.out (fun _ _ h => h)).trans HG5.out (fun _ _ h => h)
  have hS : ∀ (W : World) (j : Nat) (v : Value), Grew w W (· = g) → In B W g (sText 1024 (sFlag (sNum (sText 256 s).2).2).2).2 → Grew w (W.setCell ⟨w.heap.size, j, none⟩ v) (· = g) ∧ In B (W.setCell ⟨w.heap.size, j, none⟩ v) g (sText 1024 (sFlag (sNum (sText 256 s).2).2).2).2 := fun W j v h1 h2 => by
    have hg := grownBy_setCell W ⟨w.heap.size, j, none⟩ v
    refine ⟨⟨hg.os.trans h1.os, hg.tape.trans h1.tape, hg.output.trans h1.output, Nat.le_trans h1.size hg.size, fun k hk hn => ?_⟩, h2.grown hg HBB.out (by have := HG.out; show g ≠ w.heap.size; omega)⟩
    rw [hg.block k (Nat.lt_of_lt_of_le hk h1.size) (fun e => by have e2 : k = w.heap.size := Option.some.inj e; omega)]
    exact h1.block k hk hn
  obtain ⟨s0, i0⟩ := hS _ 0 (.string (str (sText 256 s).1)) hG HI5.out
  obtain ⟨s1, i1⟩ := hS _ 1 (.int .i64 ((min (sNum (sText 256 s).2).1 4 : Nat) : Int)) s0 i0
  obtain ⟨s2, i2⟩ := hS _ 2 (.bool (sFlag (sNum (sText 256 s).2).2).1) s1 i1
  obtain ⟨s3, i3⟩ := hS _ 3 (.string (str (sText 1024 (sFlag (sNum (sText 256 s).2).2).2).1)) s2 i2
  exact post_Row 2 42 rfl w.heap.size rfl 42 [.string (str (sText 256 s).1), .int .i64 ((min (sNum (sText 256 s).2).1 4 : Nat) : Int), .bool (sFlag (sNum (sText 256 s).2).2).1, .string (str (sText 1024 (sFlag (sNum (sText 256 s).2).2).2).1)] ((((HR5.out.set_same 0 _).set_same 1 _).set_same 2 _).set_same 3 _) _ Tryz.underlying42 rfl 4 info36 rfl rfl ⟨rfl, i3, s3⟩
end Go.Proofs.YtglfeocfhlmloaaGreat.Up
