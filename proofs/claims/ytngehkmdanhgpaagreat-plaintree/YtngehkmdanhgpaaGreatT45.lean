/-
  A file system that New makes is a tree; what stays. The walk of shown.
-/
import Derived.Laws.Tables
import Derived.Lib.SlBytesConst
import Derived.Deep.RegionLaw
import Derived.Deep.DrawnRows
import Derived.Lib.AppendZeros
import Derived.Laws.CopyOwn
import Derived.Test.YtngehkmdanhgpaaGreatT00
import Derived.Test.YtngehkmdanhgpaaGreatT01
import Derived.Test.YtngehkmdanhgpaaGreatT02
import Derived.Test.YtngehkmdanhgpaaGreatT03
import Derived.Test.YtngehkmdanhgpaaGreatT04
import Derived.Test.YtngehkmdanhgpaaGreatT05
import Derived.Test.YtngehkmdanhgpaaGreatT06
import Derived.Test.YtngehkmdanhgpaaGreatT07
import Derived.Test.YtngehkmdanhgpaaGreatT08
import Derived.Test.YtngehkmdanhgpaaGreatT09
import Derived.Test.YtngehkmdanhgpaaGreatT10
import Derived.Test.YtngehkmdanhgpaaGreatT11
import Derived.Test.YtngehkmdanhgpaaGreatT12
import Derived.Test.YtngehkmdanhgpaaGreatT13
import Derived.Test.YtngehkmdanhgpaaGreatT14
import Derived.Test.YtngehkmdanhgpaaGreatT15
import Derived.Test.YtngehkmdanhgpaaGreatT16
import Derived.Test.YtngehkmdanhgpaaGreatT17
import Derived.Test.YtngehkmdanhgpaaGreatT18
import Derived.Test.YtngehkmdanhgpaaGreatT19
import Derived.Test.YtngehkmdanhgpaaGreatT20
import Derived.Test.YtngehkmdanhgpaaGreatT21
import Derived.Test.YtngehkmdanhgpaaGreatT22
import Derived.Test.YtngehkmdanhgpaaGreatT23
import Derived.Test.YtngehkmdanhgpaaGreatT24
import Derived.Test.YtngehkmdanhgpaaGreatT25
import Derived.Test.YtngehkmdanhgpaaGreatT26
import Derived.Test.YtngehkmdanhgpaaGreatT27
import Derived.Test.YtngehkmdanhgpaaGreatT28
import Derived.Test.YtngehkmdanhgpaaGreatT29
import Derived.Test.YtngehkmdanhgpaaGreatT30
import Derived.Test.YtngehkmdanhgpaaGreatT31
import Derived.Test.YtngehkmdanhgpaaGreatT32
import Derived.Test.YtngehkmdanhgpaaGreatT33
import Derived.Test.YtngehkmdanhgpaaGreatT34
import Derived.Test.YtngehkmdanhgpaaGreatT35
import Derived.Test.YtngehkmdanhgpaaGreatT36
import Derived.Test.YtngehkmdanhgpaaGreatT37
import Derived.Test.YtngehkmdanhgpaaGreatT38
import Derived.Test.YtngehkmdanhgpaaGreatT39
import Derived.Test.YtngehkmdanhgpaaGreatT40
import Derived.Test.YtngehkmdanhgpaaGreatT41
import Derived.Test.YtngehkmdanhgpaaGreatT42
import Derived.Test.YtngehkmdanhgpaaGreatT43
import Derived.Test.YtngehkmdanhgpaaGreatT44
namespace Go.Proofs.YtngehkmdanhgpaaGreat.Pl
open Go.RowKit
open Vp (Str B bl Val cmpL parseS showS splitS withinS IsPath)
open Nd (Row wp_world post_Row post_Row2 grownBy_setCell below_of_grown Opn checkS numsOk namedS pathsS perr)
open Rf (Fil Fls fcells)
theorem tree_new {fs : List Fil} (h : newE fs = 0) : Tree (newA fs) := by
  unfold newE at h
  split at h
  · rename_i h1
    exact absurd h h1
  split at h
  · rename_i h1
    exact absurd h h1
  split at h
  · cases h
  rename_i _ _ hnd
  unfold dirsA at h
  split at h
  · cases h
  rename_i hn1
  split at h
  · cases h
  rename_i hn2
  refine ⟨⟨rootE, rfl, rfl⟩, fun n e he hne => ?_⟩
  obtain ⟨hn, hm⟩ := at_names he
  have hm2 : e ∈ fs.map entOf := by
    rcases List.mem_cons.1 hm with rfl | hm
    · exact absurd hn.symm hne
    · exact hm
  have k1 : noneA (newA fs) e = false := by
    cases hc : noneA (newA fs) e with
    | false => rfl
    | true => exact absurd (List.any_eq_true.2 ⟨e, hm2, hc⟩) hn1
  have k2 : fileA (newA fs) e = false := by
    cases hc : fileA (newA fs) e with
    | false => rfl
    | true => exact absurd (List.any_eq_true.2 ⟨e, hm2, hc⟩) hn2
  unfold noneA at k1
  unfold fileA at k2
  rw [hn] at k1 k2
  cases hd : entAt (newA fs) n.dropLast with
  | none => rw [hd] at k1; simp at k1
  | some d =>
    rw [hd] at k2
    exact ⟨d, rfl, by simpa using k2⟩
theorem fls_map {w W : World} {g m : Nat} {A : List Ent} (h : FsA w g m A) (hg : w.grownBy W (some m)) {v : Value} {fs : List Fil} (hf : Fls w v fs) : Fls W v fs := by
  obtain ⟨L, hL, _⟩ := h
  obtain ⟨p, cap, b, o, h1, h2, h3, h4, h5, h6⟩ := hf
  exact ⟨p, cap, b, o, h1, h2, h3, fun hn => ⟨(h4 hn).1, Nat.lt_of_lt_of_le (h4 hn).2 hg.size⟩, fun j u hj => cell_map hL.map hg (h5 j u hj), h6⟩
end Go.Proofs.YtngehkmdanhgpaaGreat.Pl
namespace Go.Proofs.YtngehkmdanhgpaaGreat.Pl
open Go.RowKit
open Vp (Str B bl Val cmpL parseS showS splitS withinS IsPath)
open Nd (Row wp_world post_Row post_Row2 grownBy_setCell below_of_grown)
/-- the last name, of a directory with a stroke behind -/
def shownS (e : Ent) : Str := (e.names.getLast?.getD []) ++ (if e.dir then [47] else [])
theorem B_app (x y : Str) : B (x ++ y) = B x ++ B y := by
  apply ByteArray.ext
  simp [B, ByteArray.data_append]
set_option maxHeartbeats 2000000 in
set_option maxRecDepth 100000 in
theorem shown_any (v : Value) (xs : List Str) (t x : ByteArray) (d : Bool) (w : World) (hv : Val w v xs) (hg : Gp xs) (h0 : xs ≠ []) :
    Calls Tryz.prog 101 #[.agg #[v, .string t, .bool d, .string x]] w fun e w' => e = .returned (.string (B (shownS ⟨xs, d, x⟩))) ∧ Below w.heap.size w w' := by
  obtain ⟨p, cap, rfl, hr⟩ := hv
  have hb : Below w.heap.size w (w.alloc (.cells #[.slice p xs.length cap, .string t, .bool d, .string x] 63)) := (Below.refl _ _).alloc (Nat.le_refl _) _
  obtain ⟨b, o, hp, hc⟩ := (hr.below hb).at_
  obtain rfl := hp h0
  have hl := List.length_pos_iff.2 h0
  have hlen := hg.2
  obtain ⟨y, hy⟩ : ∃ y, xs[xs.length - 1]? = some y := ⟨_, List.getElem?_eq_getElem (by omega)⟩
  have hcell := hc (xs.length - 1) y 0 hy
  have hys : (B y).size ≤ 1000 := by
    have := (Vp.name_facts (hg.1 y (List.mem_of_getElem? hy))).2.2.2.1
    have e : (B y).size = y.length := by simp [B, ByteArray.size]
    omega
  have HB := hid_in hb
  have hrow : Row (w.alloc (.cells #[.slice (some ⟨b, o, none⟩) xs.length cap, .string t, .bool d, .string x] 63)) w.heap.size [.slice (some ⟨b, o, none⟩) xs.length cap, .string t, .bool d, .string x] 63 := Row.new w _ 63
  obtain ⟨W, HW⟩ : ∃ W, Hid (w.alloc (.cells #[.slice (some ⟨b, o, none⟩) xs.length cap, .string t, .bool d, .string x] 63) = W) := ⟨_, hid_in rfl⟩
  rw [HW.out] at hrow hcell HB
  obtain ⟨⟨c0, c1, c2, c3⟩, -⟩ := spot_cells hrow (Below.refl _ W)
  have HS : Hid (shownS ⟨xs, d, x⟩ = y ++ if d then [47] else []) := hid_in (by
    unfold shownS
    rw [List.getLast?_eq_getElem?, hy]
    rfl)
  have hlt : (xs.length : Int) - 1 < (xs.length : Int) := by omega
  have hge : ¬ (xs.length : Int) - 1 < 0 := by omega
  have hge2 : 0 ≤ (xs.length : Int) - 1 := by omega
  have hwr : IntKind.i64.wrap ((xs.length : Int) - 1) = (xs.length : Int) - 1 := by rw [IntKind.wrap_i64]; omega
  have hwr2 : wrap64 ((xs.length : Int) - 1) = (xs.length : Int) - 1 := by unfold wrap64; omega
  have hcell2 : W.cell? ⟨b, o + ((xs.length : Int) - 1).toNat, none⟩ = some (.string (B y)) := by
    have e : ((xs.length : Int) - 1).toNat = xs.length - 1 := by omega
    rw [e]
    exact hcell
  have hsum : ¬ (9223372036854775807 < ((B y).size : Int) + 1) := by omega
  have HG := hid_in hg
  clear hy hcell hc hr hp hb hg hlen hl h0
  generalize xs.length = N at *
  obtain ⟨M, HM⟩ : ∃ M, Hid ((N : Int) - 1 = M) := ⟨_, hid_in rfl⟩
  rw [HM.out] at hlt hge hge2 hwr hwr2 hcell2
  have hsub := HM.out
  go_enter Tryz.func101, Tryz.ntmps101
  go_upto_region 1 with fail
  refine wp_world HW.out ?_
  go_upto_region 2 with fail
  cases d with
  | true =>
    go_wp2
    go_ret
    exact ⟨by rw [HS.out, B_app]; rfl, HB.out⟩
  | false =>
    go_wp2
    go_ret
    exact ⟨by rw [HS.out, if_neg (by simp), List.append_nil]; rfl, HB.out⟩
end Go.Proofs.YtngehkmdanhgpaaGreat.Pl
