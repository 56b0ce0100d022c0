/-
  IndexFunc and ContainsFunc over functions that only read; checkData, checkDirs. The walks of checkData and checkDirs.
-/
import Derived.Lib.SlBytesConst
import Derived.Laws.CopyOwn
import Derived.Deep.RegionLaw
import Derived.Deep.DrawnRows
import Derived.Lib.AppendZeros
import Derived.Laws.Tables
import Derived.Test.YtngehkmdanhgpaaGreatQ00
import Derived.Test.YtngehkmdanhgpaaGreatQ01
import Derived.Test.YtngehkmdanhgpaaGreatQ02
import Derived.Test.YtngehkmdanhgpaaGreatQ03
import Derived.Test.YtngehkmdanhgpaaGreatQ04
import Derived.Test.YtngehkmdanhgpaaGreatQ05
import Derived.Test.YtngehkmdanhgpaaGreatQ06
import Derived.Test.YtngehkmdanhgpaaGreatQ07
import Derived.Test.YtngehkmdanhgpaaGreatQ08
import Derived.Test.YtngehkmdanhgpaaGreatQ09
import Derived.Test.YtngehkmdanhgpaaGreatQ10
import Derived.Test.YtngehkmdanhgpaaGreatQ11
import Derived.Test.YtngehkmdanhgpaaGreatQ12
import Derived.Test.YtngehkmdanhgpaaGreatQ13
import Derived.Test.YtngehkmdanhgpaaGreatQ14
namespace Go.Proofs.YtngehkmdanhgpaaGreat.Pl
open Go.RowKit
open Vp (Str B bl Val cmpL parseS showS splitS withinS IsPath)
open Nd (Row wp_world post_Row post_Row2 grownBy_setCell below_of_grown)
open Rf (Fil Fls fcells)
theorem any_take {α : Type} {l : List α} {p : α → Bool} {i : Nat} {x : α} (hx : l[i]? = some x) (h : (l.take i).any p = false) (hp : p x = false) : (l.take (i + 1)).any p = false := by
  rw [List.take_add_one, List.any_append, h, hx]
  simp [hp]
theorem any_hit {α : Type} {l : List α} {p : α → Bool} {i : Nat} {x : α} (hx : l[i]? = some x) (hp : p x = true) : l.any p = true := List.any_eq_true.2 ⟨x, List.mem_of_getElem? hx, hp⟩
set_option maxHeartbeats 1000000 in
set_option maxRecDepth 100000 in
theorem index_49 (xs : List Fil) (sv : Value) (w : World) (h : Fls w sv xs) (hn : xs.length ≤ 1000000) (P : Fil → Bool) (hf : ∀ x ∈ xs, ∀ W, Below w.heap.size w W → Calls Tryz.prog 49 #[x.val] W fun e w' => e = .returned (.bool (P x)) ∧ Below W.heap.size W w') :
    Calls Tryz.prog 87 #[sv, .func (.func 49) #[] #[]] w fun e w' => ∃ r : Int, e = .returned (.int .i64 r) ∧ decide (0 ≤ r) = xs.any P ∧ Below w.heap.size w w' := by
  obtain ⟨p, cap, b, o, rfl, h1, h2, h3, h4, h5⟩ := h
  have H3 := hid_in h3
  have H4 := hid_in h4
  have HF := hid_in hf
  
  clear h3 h4 h5 hf 
  go_enter Tryz.func87, Tryz.ntmps87
  go_wp2_with fail
  go_loopw [8] (fun vi W => ∃ i : Nat, i ≤ xs.length ∧ vi = .int .i64 (i : Int) ∧ Hid ((xs.take i).any P = false ∧ Below w.heap.size w W)) (fun vi _ => xs.length - (intOf vi).toNat)
  case atStart => exact ⟨0, by omega, rfl, by simp, Below.refl _ _⟩
  case round =>
    obtain ⟨i, hi, rfl, hI⟩ := hrel
    by_cases hlt : i < xs.length
    · have hg : xs[i]? = some xs[i] := List.getElem?_eq_getElem hlt
      obtain ⟨hp, hb⟩ := H3.out (by intro h; simp [h] at hlt)
      have hrg : ∀ (y : Nat) u, (xs[i]).cells[y]? = some u → wr.cell? ⟨b, o + i * 3 + y, none⟩ = some u := fun y u hy => by
        rw [hI.out.2.cell (p := ⟨b, o + i * 3 + y, none⟩) hb, Nat.add_assoc]
        exact H4.out _ _ (Rf.fcells_at hg y u hy)
      have HST := hid_in (HF.out _ (List.getElem_mem hlt) wr hI.out.2)
      
      generalize xs[i] = s at *
      have HG := hid_in hg
      clear hg
      obtain ⟨PB, HPB⟩ : ∃ PB, Hid (P s = PB) := ⟨_, hid_in rfl⟩
      rw [HPB.out] at HST
      obtain ⟨pt, d, x⟩ := s
      subst hp
      simp only [Fil.val] at HST
      have m0 : wr.cell? ⟨b, o + i * 3, none⟩ = some (.string pt) := by simpa using hrg 0 _ rfl
      have m1 : wr.cell? ⟨b, o + i * 3 + 1, none⟩ = some (.bool d) := hrg 1 _ rfl
      have m2 : wr.cell? ⟨b, o + i * 3 + 2, none⟩ = some (.string x) := hrg 2 _ rfl
      clear hrg
      cases PB with
      | false =>
        go_wp2_with (first | (go_at_call 49; refine HST.out.mono ?_; rintro e w1 ⟨rfl, hb1⟩; have HB1 := hid_in (hI.out.2.trans (hb1.mono hI.out.2.size)); clear hb1))
        exact ⟨⟨i + 1, by omega, by go_num, any_take HG.out hI.out.1 HPB.out, HB1.out⟩, by simp [intOf]; omega⟩
      | true =>
        go_wp2_with (first | (go_at_call 49; refine HST.out.mono ?_; rintro e w1 ⟨rfl, hb1⟩; have HB1 := hid_in (hI.out.2.trans (hb1.mono hI.out.2.size)); clear hb1))
        go_ret
        exact ⟨_, rfl, by rw [any_hit HG.out HPB.out]; simp, HB1.out⟩
    · obtain rfl : i = xs.length := by omega
      go_wp2
      go_ret
      refine ⟨_, rfl, ?_, hI.out.2⟩
      have := hI.out.1
      rw [List.take_length] at this
      rw [this]
      rfl
set_option maxHeartbeats 1000000 in
theorem contains_49 (xs : List Fil) (sv : Value) (w : World) (h : Fls w sv xs) (hn : xs.length ≤ 1000000) (P : Fil → Bool) (hf : ∀ x ∈ xs, ∀ W, Below w.heap.size w W → Calls Tryz.prog 49 #[x.val] W fun e w' => e = .returned (.bool (P x)) ∧ Below W.heap.size W w') :
    Calls Tryz.prog 48 #[sv, .func (.func 49) #[] #[]] w fun e w' => e = .returned (.bool (xs.any P)) ∧ Below w.heap.size w w' := by
  have HI := hid_in (index_49 xs sv w h hn P hf)
  clear h hf
  go_enter Tryz.func48, Tryz.ntmps48
  go_wp2_with (first | (go_at_call 87; refine HI.out.mono ?_; rintro e w1 ⟨r, rfl, hr, hb⟩; have HR := hid_in hr; have HB := hid_in hb; clear hr hb))
  go_ret
  exact ⟨by rw [← HR.out]; rfl, HB.out⟩
set_option maxHeartbeats 1000000 in
set_option maxRecDepth 100000 in
theorem index_50 (xs : List Fil) (sv : Value) (w : World) (h : Fls w sv xs) (hn : xs.length ≤ 1000000) (P : Fil → Bool) (hf : ∀ x ∈ xs, ∀ W, Below w.heap.size w W → Calls Tryz.prog 50 #[x.val] W fun e w' => e = .returned (.bool (P x)) ∧ Below W.heap.size W w') :
    Calls Tryz.prog 87 #[sv, .func (.func 50) #[] #[]] w fun e w' => ∃ r : Int, e = .returned (.int .i64 r) ∧ decide (0 ≤ r) = xs.any P ∧ Below w.heap.size w w' := by
  obtain ⟨p, cap, b, o, rfl, h1, h2, h3, h4, h5⟩ := h
  have H3 := hid_in h3
  have H4 := hid_in h4
  have HF := hid_in hf
  
  clear h3 h4 h5 hf 
  go_enter Tryz.func87, Tryz.ntmps87
  go_wp2_with fail
  go_loopw [8] (fun vi W => ∃ i : Nat, i ≤ xs.length ∧ vi = .int .i64 (i : Int) ∧ Hid ((xs.take i).any P = false ∧ Below w.heap.size w W)) (fun vi _ => xs.length - (intOf vi).toNat)
  case atStart => exact ⟨0, by omega, rfl, by simp, Below.refl _ _⟩
  case round =>
    obtain ⟨i, hi, rfl, hI⟩ := hrel
    by_cases hlt : i < xs.length
    · have hg : xs[i]? = some xs[i] := List.getElem?_eq_getElem hlt
      obtain ⟨hp, hb⟩ := H3.out (by intro h; simp [h] at hlt)
      have hrg : ∀ (y : Nat) u, (xs[i]).cells[y]? = some u → wr.cell? ⟨b, o + i * 3 + y, none⟩ = some u := fun y u hy => by
        rw [hI.out.2.cell (p := ⟨b, o + i * 3 + y, none⟩) hb, Nat.add_assoc]
        exact H4.out _ _ (Rf.fcells_at hg y u hy)
      have HST := hid_in (HF.out _ (List.getElem_mem hlt) wr hI.out.2)
      
      generalize xs[i] = s at *
      have HG := hid_in hg
      clear hg
      obtain ⟨PB, HPB⟩ : ∃ PB, Hid (P s = PB) := ⟨_, hid_in rfl⟩
      rw [HPB.out] at HST
      obtain ⟨pt, d, x⟩ := s
      subst hp
      simp only [Fil.val] at HST
      have m0 : wr.cell? ⟨b, o + i * 3, none⟩ = some (.string pt) := by simpa using hrg 0 _ rfl
      have m1 : wr.cell? ⟨b, o + i * 3 + 1, none⟩ = some (.bool d) := hrg 1 _ rfl
      have m2 : wr.cell? ⟨b, o + i * 3 + 2, none⟩ = some (.string x) := hrg 2 _ rfl
      clear hrg
      cases PB with
      | false =>
        go_wp2_with (first | (go_at_call 50; refine HST.out.mono ?_; rintro e w1 ⟨rfl, hb1⟩; have HB1 := hid_in (hI.out.2.trans (hb1.mono hI.out.2.size)); clear hb1))
        exact ⟨⟨i + 1, by omega, by go_num, any_take HG.out hI.out.1 HPB.out, HB1.out⟩, by simp [intOf]; omega⟩
      | true =>
        go_wp2_with (first | (go_at_call 50; refine HST.out.mono ?_; rintro e w1 ⟨rfl, hb1⟩; have HB1 := hid_in (hI.out.2.trans (hb1.mono hI.out.2.size)); clear hb1))
        go_ret
        exact ⟨_, rfl, by rw [any_hit HG.out HPB.out]; simp, HB1.out⟩
    · obtain rfl : i = xs.length := by omega
      go_wp2
      go_ret
      refine ⟨_, rfl, ?_, hI.out.2⟩
      have := hI.out.1
      rw [List.take_length] at this
      rw [this]
      rfl
set_option maxHeartbeats 1000000 in
theorem contains_50 (xs : List Fil) (sv : Value) (w : World) (h : Fls w sv xs) (hn : xs.length ≤ 1000000) (P : Fil → Bool) (hf : ∀ x ∈ xs, ∀ W, Below w.heap.size w W → Calls Tryz.prog 50 #[x.val] W fun e w' => e = .returned (.bool (P x)) ∧ Below W.heap.size W w') :
    Calls Tryz.prog 48 #[sv, .func (.func 50) #[] #[]] w fun e w' => e = .returned (.bool (xs.any P)) ∧ Below w.heap.size w w' := by
  have HI := hid_in (index_50 xs sv w h hn P hf)
  clear h hf
  go_enter Tryz.func48, Tryz.ntmps48
  go_wp2_with (first | (go_at_call 87; refine HI.out.mono ?_; rintro e w1 ⟨r, rfl, hr, hb⟩; have HR := hid_in hr; have HB := hid_in hb; clear hr hb))
  go_ret
  exact ⟨by rw [← HR.out]; rfl, HB.out⟩
set_option maxHeartbeats 1000000 in
set_option maxRecDepth 100000 in
theorem index_53 (cb : Nat) (xs : List Spot) (sv : Value) (w : World) (h : Sps w sv xs) (hn : xs.length ≤ 1000000) (hsf : ∀ s ∈ xs, Sf s) (P : Spot → Bool) (hf : ∀ x ∈ xs, ∀ W, Below w.heap.size w W → Calls Tryz.prog 53 #[x.val, .pointer (some ⟨cb, 0, none⟩)] W fun e w' => e = .returned (.bool (P x)) ∧ Below W.heap.size W w') :
    Calls Tryz.prog 89 #[sv, .func (.func 53) #[] #[.pointer (some ⟨cb, 0, none⟩)]] w fun e w' => ∃ r : Int, e = .returned (.int .i64 r) ∧ decide (0 ≤ r) = xs.any P ∧ Below w.heap.size w w' := by
  obtain ⟨p, cap, b, o, rfl, h1, h2, h3, h4, h5⟩ := h
  have H3 := hid_in h3
  have H4 := hid_in h4
  have HF := hid_in hf
  have HSF := hid_in hsf
  clear h3 h4 h5 hf hsf
  go_enter Tryz.func89, Tryz.ntmps89
  go_wp2_with fail
  go_loopw [8] (fun vi W => ∃ i : Nat, i ≤ xs.length ∧ vi = .int .i64 (i : Int) ∧ Hid ((xs.take i).any P = false ∧ Below w.heap.size w W)) (fun vi _ => xs.length - (intOf vi).toNat)
  case atStart => exact ⟨0, by omega, rfl, by simp, Below.refl _ _⟩
  case round =>
    obtain ⟨i, hi, rfl, hI⟩ := hrel
    by_cases hlt : i < xs.length
    · have hg : xs[i]? = some xs[i] := List.getElem?_eq_getElem hlt
      obtain ⟨hp, hb⟩ := H3.out (by intro h; simp [h] at hlt)
      have hrg : ∀ (y : Nat) u, (xs[i]).cells[y]? = some u → wr.cell? ⟨b, o + i * 4 + y, none⟩ = some u := fun y u hy => by
        rw [hI.out.2.cell (p := ⟨b, o + i * 4 + y, none⟩) hb, Nat.add_assoc]
        exact H4.out _ _ (scells_at hg y u hy)
      have HST := hid_in (HF.out _ (List.getElem_mem hlt) wr hI.out.2)
      have hsv := HSF.out _ (List.getElem_mem hlt)
      generalize xs[i] = s at *
      have HG := hid_in hg
      clear hg
      obtain ⟨PB, HPB⟩ : ∃ PB, Hid (P s = PB) := ⟨_, hid_in rfl⟩
      rw [HPB.out] at HST
      obtain ⟨v, ns, pt, d, x⟩ := s
      obtain ⟨nq, nl, nc, hv⟩ := hsv
      simp only at hv
      subst hv hp
      simp only [Spot.val] at HST
      have m0 : wr.cell? ⟨b, o + i * 4, none⟩ = some (.slice nq nl nc) := by simpa using hrg 0 _ rfl
      have m1 : wr.cell? ⟨b, o + i * 4 + 1, none⟩ = some (.string pt) := hrg 1 _ rfl
      have m2 : wr.cell? ⟨b, o + i * 4 + 2, none⟩ = some (.bool d) := hrg 2 _ rfl
      have m3 : wr.cell? ⟨b, o + i * 4 + 3, none⟩ = some (.string x) := hrg 3 _ rfl
      clear hrg
      cases PB with
      | false =>
        go_wp2_with (first | (go_at_call 53; refine HST.out.mono ?_; rintro e w1 ⟨rfl, hb1⟩; have HB1 := hid_in (hI.out.2.trans (hb1.mono hI.out.2.size)); clear hb1))
        exact ⟨⟨i + 1, by omega, by go_num, any_take HG.out hI.out.1 HPB.out, HB1.out⟩, by simp [intOf]; omega⟩
      | true =>
        go_wp2_with (first | (go_at_call 53; refine HST.out.mono ?_; rintro e w1 ⟨rfl, hb1⟩; have HB1 := hid_in (hI.out.2.trans (hb1.mono hI.out.2.size)); clear hb1))
        go_ret
        exact ⟨_, rfl, by rw [any_hit HG.out HPB.out]; simp, HB1.out⟩
    · obtain rfl : i = xs.length := by omega
      go_wp2
      go_ret
      refine ⟨_, rfl, ?_, hI.out.2⟩
      have := hI.out.1
      rw [List.take_length] at this
      rw [this]
      rfl
set_option maxHeartbeats 1000000 in
theorem contains_53 (cb : Nat) (xs : List Spot) (sv : Value) (w : World) (h : Sps w sv xs) (hn : xs.length ≤ 1000000) (hsf : ∀ s ∈ xs, Sf s) (P : Spot → Bool) (hf : ∀ x ∈ xs, ∀ W, Below w.heap.size w W → Calls Tryz.prog 53 #[x.val, .pointer (some ⟨cb, 0, none⟩)] W fun e w' => e = .returned (.bool (P x)) ∧ Below W.heap.size W w') :
    Calls Tryz.prog 52 #[sv, .func (.func 53) #[] #[.pointer (some ⟨cb, 0, none⟩)]] w fun e w' => e = .returned (.bool (xs.any P)) ∧ Below w.heap.size w w' := by
  have HI := hid_in (index_53 cb xs sv w h hn hsf P hf)
  clear h hf
  go_enter Tryz.func52, Tryz.ntmps52
  go_wp2_with (first | (go_at_call 89; refine HI.out.mono ?_; rintro e w1 ⟨r, rfl, hr, hb⟩; have HR := hid_in hr; have HB := hid_in hb; clear hr hb))
  go_ret
  exact ⟨by rw [← HR.out]; rfl, HB.out⟩
set_option maxHeartbeats 1000000 in
set_option maxRecDepth 100000 in
theorem index_55 (cb : Nat) (xs : List Spot) (sv : Value) (w : World) (h : Sps w sv xs) (hn : xs.length ≤ 1000000) (hsf : ∀ s ∈ xs, Sf s) (P : Spot → Bool) (hf : ∀ x ∈ xs, ∀ W, Below w.heap.size w W → Calls Tryz.prog 55 #[x.val, .pointer (some ⟨cb, 0, none⟩)] W fun e w' => e = .returned (.bool (P x)) ∧ Below W.heap.size W w') :
    Calls Tryz.prog 89 #[sv, .func (.func 55) #[] #[.pointer (some ⟨cb, 0, none⟩)]] w fun e w' => ∃ r : Int, e = .returned (.int .i64 r) ∧ decide (0 ≤ r) = xs.any P ∧ Below w.heap.size w w' := by
  obtain ⟨p, cap, b, o, rfl, h1, h2, h3, h4, h5⟩ := h
  have H3 := hid_in h3
  have H4 := hid_in h4
  have HF := hid_in hf
  have HSF := hid_in hsf
  clear h3 h4 h5 hf hsf
  go_enter Tryz.func89, Tryz.ntmps89
  go_wp2_with fail
  go_loopw [8] (fun vi W => ∃ i : Nat, i ≤ xs.length ∧ vi = .int .i64 (i : Int) ∧ Hid ((xs.take i).any P = false ∧ Below w.heap.size w W)) (fun vi _ => xs.length - (intOf vi).toNat)
  case atStart => exact ⟨0, by omega, rfl, by simp, Below.refl _ _⟩
  case round =>
    obtain ⟨i, hi, rfl, hI⟩ := hrel
    by_cases hlt : i < xs.length
    · have hg : xs[i]? = some xs[i] := List.getElem?_eq_getElem hlt
      obtain ⟨hp, hb⟩ := H3.out (by intro h; simp [h] at hlt)
      have hrg : ∀ (y : Nat) u, (xs[i]).cells[y]? = some u → wr.cell? ⟨b, o + i * 4 + y, none⟩ = some u := fun y u hy => by
        rw [hI.out.2.cell (p := ⟨b, o + i * 4 + y, none⟩) hb, Nat.add_assoc]
        exact H4.out _ _ (scells_at hg y u hy)
      have HST := hid_in (HF.out _ (List.getElem_mem hlt) wr hI.out.2)
      have hsv := HSF.out _ (List.getElem_mem hlt)
      generalize xs[i] = s at *
      have HG := hid_in hg
      clear hg
      obtain ⟨PB, HPB⟩ : ∃ PB, Hid (P s = PB) := ⟨_, hid_in rfl⟩
      rw [HPB.out] at HST
      obtain ⟨v, ns, pt, d, x⟩ := s
      obtain ⟨nq, nl, nc, hv⟩ := hsv
      simp only at hv
      subst hv hp
      simp only [Spot.val] at HST
      have m0 : wr.cell? ⟨b, o + i * 4, none⟩ = some (.slice nq nl nc) := by simpa using hrg 0 _ rfl
      have m1 : wr.cell? ⟨b, o + i * 4 + 1, none⟩ = some (.string pt) := hrg 1 _ rfl
      have m2 : wr.cell? ⟨b, o + i * 4 + 2, none⟩ = some (.bool d) := hrg 2 _ rfl
      have m3 : wr.cell? ⟨b, o + i * 4 + 3, none⟩ = some (.string x) := hrg 3 _ rfl
      clear hrg
      cases PB with
      | false =>
        go_wp2_with (first | (go_at_call 55; refine HST.out.mono ?_; rintro e w1 ⟨rfl, hb1⟩; have HB1 := hid_in (hI.out.2.trans (hb1.mono hI.out.2.size)); clear hb1))
        exact ⟨⟨i + 1, by omega, by go_num, any_take HG.out hI.out.1 HPB.out, HB1.out⟩, by simp [intOf]; omega⟩
      | true =>
        go_wp2_with (first | (go_at_call 55; refine HST.out.mono ?_; rintro e w1 ⟨rfl, hb1⟩; have HB1 := hid_in (hI.out.2.trans (hb1.mono hI.out.2.size)); clear hb1))
        go_ret
        exact ⟨_, rfl, by rw [any_hit HG.out HPB.out]; simp, HB1.out⟩
    · obtain rfl : i = xs.length := by omega
      go_wp2
      go_ret
      refine ⟨_, rfl, ?_, hI.out.2⟩
      have := hI.out.1
      rw [List.take_length] at this
      rw [this]
      rfl
set_option maxHeartbeats 1000000 in
theorem contains_55 (cb : Nat) (xs : List Spot) (sv : Value) (w : World) (h : Sps w sv xs) (hn : xs.length ≤ 1000000) (hsf : ∀ s ∈ xs, Sf s) (P : Spot → Bool) (hf : ∀ x ∈ xs, ∀ W, Below w.heap.size w W → Calls Tryz.prog 55 #[x.val, .pointer (some ⟨cb, 0, none⟩)] W fun e w' => e = .returned (.bool (P x)) ∧ Below W.heap.size W w') :
    Calls Tryz.prog 52 #[sv, .func (.func 55) #[] #[.pointer (some ⟨cb, 0, none⟩)]] w fun e w' => e = .returned (.bool (xs.any P)) ∧ Below w.heap.size w w' := by
  have HI := hid_in (index_55 cb xs sv w h hn hsf P hf)
  clear h hf
  go_enter Tryz.func52, Tryz.ntmps52
  go_wp2_with (first | (go_at_call 89; refine HI.out.mono ?_; rintro e w1 ⟨r, rfl, hr, hb⟩; have HR := hid_in hr; have HB := hid_in hb; clear hr hb))
  go_ret
  exact ⟨by rw [← HR.out]; rfl, HB.out⟩
end Go.Proofs.YtngehkmdanhgpaaGreat.Pl
namespace Go.Proofs.YtngehkmdanhgpaaGreat.Pl
open Go.RowKit
open Vp (Str B bl Val cmpL parseS showS splitS withinS IsPath)
open Nd (Row wp_world post_Row post_Row2 grownBy_setCell below_of_grown)
open Rf (Fil Fls fcells)
theorem lit_ne (x : ByteArray) : x.toList = [] ↔ x.size = 0 := by
  obtain ⟨d⟩ := x
  simp [ByteArray.toList_eq, ByteArray.size]
theorem sf_getD {w : World} {m : Nat} {L : List Spot} (h : MapP w m L) (xs : List Str) : Sf ((spotAt L xs).getD Spot.zero) := by
  cases hs : spotAt L xs with
  | none => exact ⟨_, _, _, rfl⟩
  | some s => exact h.sf hs
theorem field63 (p : Option Addr) (n c : Nat) (t x : ByteArray) (d : Bool) (w : World) : (Instr.field 63 (.agg #[.slice p n c, .string t, .bool d, .string x]) 1).run Tryz.prog w = .ok (.agg #[.string t, .bool d, .string x]) w := by kernel_rfl
theorem field48 (t x : ByteArray) (d : Bool) (w : World) : (Instr.field 48 (.agg #[.string t, .bool d, .string x]) 1).run Tryz.prog w = .ok (.bool d) w := by kernel_rfl
def argP (f : Fil) : Bool := f.dir && !decide (f.data.size = 0)
def bigP (f : Fil) : Bool := decide (1024 < f.data.size)
set_option maxHeartbeats 1000000 in
theorem data1_any (f : Fil) (w : World) : Calls Tryz.prog 49 #[f.val] w fun e w' => e = .returned (.bool (argP f)) ∧ Below w.heap.size w w' := by
  obtain ⟨p, d, x⟩ := f
  simp only [Fil.val, argP]
  cases hd : decide (x.size = 0) <;> cases d
  all_goals
    go_enter Tryz.func49, Tryz.ntmps49
    go_wp2
    go_ret
    refine ⟨?_, (Below.refl _ _).alloc (Nat.le_refl _) _⟩
    simp [lit_ne] at hd ⊢
    try exact hd
set_option maxHeartbeats 1000000 in
theorem data2_any (f : Fil) (w : World) : Calls Tryz.prog 50 #[f.val] w fun e w' => e = .returned (.bool (bigP f)) ∧ Below w.heap.size w w' := by
  obtain ⟨p, d, x⟩ := f
  simp only [Fil.val, bigP]
  go_enter Tryz.func50, Tryz.ntmps50
  go_wp2
  go_ret
  refine ⟨?_, (Below.refl _ _).alloc (Nat.le_refl _) _⟩
  simp; omega
def dataE (fs : List Fil) : Int := if fs.any argP then 1 else if fs.any bigP then 134 else 0
set_option maxHeartbeats 1000000 in
set_option maxRecDepth 100000 in
theorem checkData_any (fs : List Fil) (v : Value) (w : World) (h : Fls w v fs) (hn : fs.length ≤ 1000000) : Calls Tryz.prog 24 #[v] w fun e w' => e = .returned (.int .i64 (dataE fs)) ∧ Below w.heap.size w w' := by
  have H1 := hid_in (contains_49 fs v w h hn argP (fun x _ W _ => data1_any x W))
  have H2 := hid_in (fun W (k : Below w.heap.size w W) => contains_50 fs v W (h.below k) hn bigP (fun x _ W _ => data2_any x W))
  have HE : Hid (dataE fs = if fs.any argP then 1 else if fs.any bigP then 134 else 0) := rfl
  obtain ⟨p, cap, rfl⟩ := h.form
  generalize dataE fs = R at *
  generalize fs.any argP = A at *
  generalize fs.any bigP = G at *
  generalize fs.length = nl at *
  clear h
  cases A <;> cases G
  all_goals
    go_enter Tryz.func24, Tryz.ntmps24
    go_wp2_with (first | (go_at_call 48; refine H1.out.mono ?_; rintro e w1 ⟨rfl, hb1⟩; have HB1 := hid_in hb1; clear hb1) | (go_at_call 48; refine (H2.out _ HB1.out).mono ?_; rintro e w2 ⟨rfl, hb2⟩; have HB2 := hid_in (HB1.out.trans (hb2.mono HB1.out.size)); clear hb2))
    go_ret
    first | exact ⟨by rw [HE.out]; rfl, HB2.out⟩ | exact ⟨by rw [HE.out]; rfl, HB1.out⟩
def noneP (L : List Spot) (s : Spot) : Bool := !(spotAt L s.names.dropLast).isSome
def fileP (L : List Spot) (s : Spot) : Bool := !((spotAt L s.names.dropLast).getD Spot.zero).dir
set_option maxHeartbeats 1000000 in
set_option maxRecDepth 100000 in
theorem dirs1_any {w : World} {g m : Nat} {L : List Spot} (h : Fs w g m L) (s : Spot) (hv : Val w s.v s.names) (hx : Gp s.names) (cb : Nat) (hb : w.cell? ⟨cb, 0, none⟩ = some (.pointer (some ⟨g, 0, none⟩))) :
    Calls Tryz.prog 53 #[s.val, .pointer (some ⟨cb, 0, none⟩)] w fun e w' => e = .returned (.bool (noneP L s)) ∧ Below w.heap.size w w' := by
  obtain ⟨sv, sn, sp, sd, sx⟩ := s
  simp only at hv hx
  obtain ⟨np, nc, rfl⟩ : ∃ p c, sv = .slice p sn.length c := by obtain ⟨p, c, e, _⟩ := hv; exact ⟨p, c, e⟩
  simp only [Spot.val, noneP]
  have hcb := World.block_lt_of_cell? w _ hb
  obtain ⟨WA, HWA⟩ : ∃ WA, Hid (w.alloc (.cells #[.slice np sn.length nc, .string sp, .bool sd, .string sx] 63) = WA) := ⟨_, hid_in rfl⟩
  have HBA : Hid (Below w.heap.size w WA) := by rw [← HWA.out]; exact (Below.refl _ _).alloc (Nat.le_refl _) _
  have HRA : Hid (Row WA w.heap.size [.slice np sn.length nc, .string sp, .bool sd, .string sx] 63) := by rw [← HWA.out]; exact Row.new w [.slice np sn.length nc, .string sp, .bool sd, .string sx] 63
  have HD := hid_in (fun W (k : Below w.heap.size w W) => dirOf_any (hv.below k) hx)
  have HH := hid_in (fun W (k : Below w.heap.size w W) v (kv : Val W v sn.dropLast) => has_any (h.below k) kv hx.dropLast)
  have HK := hid_in (fun W (k : Below WA.heap.size WA W) => And.intro (show W.cell? ⟨cb, 0, none⟩ = some (.pointer (some ⟨g, 0, none⟩)) by rw [k.cell (p := ⟨cb, 0, none⟩) (Nat.lt_of_lt_of_le hcb HBA.out.size), HBA.out.cell (p := ⟨cb, 0, none⟩) hcb, hb]) ((HRA.out.below k HRA.out.lt).cell 0))
  obtain ⟨SB, HSB⟩ : ∃ SB, Hid ((spotAt L sn.dropLast).isSome = SB) := ⟨_, hid_in rfl⟩
  rw [HSB.out] at HH ⊢
  generalize sn.length = nl at *
  generalize sn.dropLast = dn at *
  clear h hv hx hb hcb
  go_enter Tryz.func53, Tryz.ntmps53
  go_upto_region 1 with fail
  refine wp_world HWA.out ?_
  have HKA : Hid (WA.cell? ⟨cb, 0, none⟩ = some (.pointer (some ⟨g, 0, none⟩)) ∧ WA.cell? ⟨w.heap.size, 0, none⟩ = some (.slice np nl nc)) := HK.out WA (Below.refl _ _)
  go_region_held3 (fun W => W.cell? ⟨cb, 0, none⟩ = some (.pointer (some ⟨g, 0, none⟩)) ∧ W.cell? ⟨w.heap.size, 0, none⟩ = some (.slice np nl nc)) (first | (exact HK.out _ HB3.out) | (exact HK.out _ HB2.out) | (exact HK.out _ (Below.refl _ _)) | (exact HK.out _ (below_drew WA))) (first | (go_at_call 54; refine (HD.out _ (below_drewN HBA.out 1)).mono ?_; rintro e w2 ⟨v2, rfl, hv2, hb2⟩; have HV2 := hid_in hv2; have HB2 := hid_in ((below_drew WA).trans (hb2.mono (below_drew WA).size)); clear hv2 hb2) | (go_at_call 26; refine (HH.out _ (HBA.out.trans (HB2.out.mono HBA.out.size)) _ HV2.out).mono ?_; rintro e w3 ⟨rfl, hb3⟩; have HB3 := hid_in (HB2.out.trans (hb3.mono HB2.out.size)); clear hb3))
  all_goals
    go_wp2
    go_ret
    exact ⟨rfl, HBA.out.trans (HB3.out.mono HBA.out.size)⟩
set_option maxHeartbeats 1000000 in
set_option maxRecDepth 100000 in
theorem dirs2_any {w : World} {g m : Nat} {L : List Spot} (h : Fs w g m L) (s : Spot) (hv : Val w s.v s.names) (hx : Gp s.names) (cb : Nat) (hb : w.cell? ⟨cb, 0, none⟩ = some (.pointer (some ⟨g, 0, none⟩))) :
    Calls Tryz.prog 55 #[s.val, .pointer (some ⟨cb, 0, none⟩)] w fun e w' => e = .returned (.bool (fileP L s)) ∧ Below w.heap.size w w' := by
  obtain ⟨sv, sn, sp, sd, sx⟩ := s
  simp only at hv hx
  obtain ⟨np, nc, rfl⟩ : ∃ p c, sv = .slice p sn.length c := by obtain ⟨p, c, e, _⟩ := hv; exact ⟨p, c, e⟩
  simp only [Spot.val, fileP]
  have hcb := World.block_lt_of_cell? w _ hb
  obtain ⟨WA, HWA⟩ : ∃ WA, Hid (w.alloc (.cells #[.slice np sn.length nc, .string sp, .bool sd, .string sx] 63) = WA) := ⟨_, hid_in rfl⟩
  have HBA : Hid (Below w.heap.size w WA) := by rw [← HWA.out]; exact (Below.refl _ _).alloc (Nat.le_refl _) _
  have HRA : Hid (Row WA w.heap.size [.slice np sn.length nc, .string sp, .bool sd, .string sx] 63) := by rw [← HWA.out]; exact Row.new w [.slice np sn.length nc, .string sp, .bool sd, .string sx] 63
  have HD := hid_in (fun W (k : Below w.heap.size w W) => dirOf_any (hv.below k) hx)
  have HH := hid_in (fun W (k : Below w.heap.size w W) v (kv : Val W v sn.dropLast) => get_any (h.below k) kv hx.dropLast)
  have HK := hid_in (fun W (k : Below WA.heap.size WA W) => And.intro (show W.cell? ⟨cb, 0, none⟩ = some (.pointer (some ⟨g, 0, none⟩)) by rw [k.cell (p := ⟨cb, 0, none⟩) (Nat.lt_of_lt_of_le hcb HBA.out.size), HBA.out.cell (p := ⟨cb, 0, none⟩) hcb, hb]) ((HRA.out.below k HRA.out.lt).cell 0))
  obtain ⟨zq, zl, zc, hzv⟩ : Sf ((spotAt L sn.dropLast).getD Spot.zero) := sf_getD h.map _
  generalize (spotAt L sn.dropLast).getD Spot.zero = z at *
  obtain ⟨zv, zn, zp, zd, zx⟩ := z
  simp only at hzv
  subst hzv
  simp only [Spot.val] at HH ⊢
  generalize sn.length = nl at *
  generalize sn.dropLast = dn at *
  clear h hv hx hb hcb
  have hf1 := field63 zq zl zc zp zx zd
  have hf2 := field48 zp zx zd
  go_enter Tryz.func55, Tryz.ntmps55
  go_upto_region 1 with fail
  refine wp_world HWA.out ?_
  have HKA : Hid (WA.cell? ⟨cb, 0, none⟩ = some (.pointer (some ⟨g, 0, none⟩)) ∧ WA.cell? ⟨w.heap.size, 0, none⟩ = some (.slice np nl nc)) := HK.out WA (Below.refl _ _)
  go_region_held3 (fun W => W.cell? ⟨cb, 0, none⟩ = some (.pointer (some ⟨g, 0, none⟩)) ∧ W.cell? ⟨w.heap.size, 0, none⟩ = some (.slice np nl nc)) (first | (exact HK.out _ HB3.out) | (exact HK.out _ HB2.out) | (exact HK.out _ (Below.refl _ _)) | (exact HK.out _ (below_drew WA))) (first | (go_at_call 54; refine (HD.out _ (below_drewN HBA.out 1)).mono ?_; rintro e w2 ⟨v2, rfl, hv2, hb2⟩; have HV2 := hid_in hv2; have HB2 := hid_in ((below_drew WA).trans (hb2.mono (below_drew WA).size)); clear hv2 hb2) | (go_at_call 56; refine (HH.out _ (HBA.out.trans (HB2.out.mono HBA.out.size)) _ HV2.out).mono ?_; rintro e w3 ⟨rfl, hb3⟩; have HB3 := hid_in (HB2.out.trans (hb3.mono HB2.out.size)); clear hb3))
  all_goals
    go_wp2
    go_ret
    exact ⟨rfl, HBA.out.trans (HB3.out.mono HBA.out.size)⟩
def dirsE (L sp : List Spot) : Int := if sp.any (noneP L) then 4 else if sp.any (fileP L) then 70 else 0
set_option maxHeartbeats 1000000 in
set_option maxRecDepth 100000 in
theorem checkDirs_any {w : World} {g m : Nat} {L : List Spot} (h : Fs w g m L) (sp : List Spot) (v : Value) (hs : Sps w v sp) (hn : sp.length ≤ 1000000) (hv : ∀ s ∈ sp, Val w s.v s.names) (hx : ∀ s ∈ sp, Gp s.names) :
    Calls Tryz.prog 27 #[.pointer (some ⟨g, 0, none⟩), v] w fun e w' => e = .returned (.int .i64 (dirsE L sp)) ∧ Below w.heap.size w w' := by
  have hsf : ∀ s ∈ sp, Sf s := fun s hs => by obtain ⟨p, c, e, _⟩ := hv s hs; exact ⟨p, _, c, e⟩
  obtain ⟨WA, HWA⟩ : ∃ WA, Hid (w.alloc (.cells #[.pointer (some ⟨g, 0, none⟩)] 26) = WA) := ⟨_, hid_in rfl⟩
  have HBA : Hid (Below w.heap.size w WA) := by rw [← HWA.out]; exact (Below.refl _ _).alloc (Nat.le_refl _) _
  have HRA : Hid (Row WA w.heap.size [.pointer (some ⟨g, 0, none⟩)] 26) := by rw [← HWA.out]; exact Row.new w [.pointer (some ⟨g, 0, none⟩)] 26
  have HCB := hid_in (fun W (k : Below WA.heap.size WA W) => show W.cell? ⟨w.heap.size, 0, none⟩ = some (.pointer (some ⟨g, 0, none⟩)) from (HRA.out.below k HRA.out.lt).cell 0)
  have H1 := hid_in (contains_53 w.heap.size sp v WA (hs.below HBA.out) hn hsf (noneP L) (fun s hs W k => dirs1_any ((h.below HBA.out).below k) s (((hv s hs).below HBA.out).below k) (hx s hs) _ (HCB.out W k)))
  have H2 := hid_in (fun W1 (k1 : Below WA.heap.size WA W1) => contains_55 w.heap.size sp v W1 ((hs.below HBA.out).below k1) hn hsf (fileP L) (fun s hs W k => dirs2_any (((h.below HBA.out).below k1).below k) s ((((hv s hs).below HBA.out).below k1).below k) (hx s hs) _ (HCB.out W (k1.trans (k.mono k1.size)))))
  have HE : Hid (dirsE L sp = if sp.any (noneP L) then 4 else if sp.any (fileP L) then 70 else 0) := rfl
  obtain ⟨p, cap, rfl⟩ : ∃ p cap, v = .slice p sp.length cap := by obtain ⟨p, cap, _, _, e, _⟩ := hs; exact ⟨p, cap, e⟩
  generalize dirsE L sp = R at *
  generalize sp.any (noneP L) = A at *
  generalize sp.any (fileP L) = G at *
  generalize sp.length = nl at *
  clear h hs hv hx hsf
  cases A <;> cases G
  all_goals
    go_enter Tryz.func27, Tryz.ntmps27
    go_upto_region 1 with fail
    refine wp_world HWA.out ?_
    go_wp2_with (first | (go_at_call 52; refine H1.out.mono ?_; rintro e w1 ⟨rfl, hb1⟩; have HB1 := hid_in hb1; clear hb1) | (go_at_call 52; refine (H2.out _ HB1.out).mono ?_; rintro e w2 ⟨rfl, hb2⟩; have HB2 := hid_in (HB1.out.trans (hb2.mono HB1.out.size)); clear hb2))
    go_ret
    first | exact ⟨by rw [HE.out]; rfl, HBA.out.trans (HB2.out.mono HBA.out.size)⟩ | exact ⟨by rw [HE.out]; rfl, HBA.out.trans (HB1.out.mono HBA.out.size)⟩
end Go.Proofs.YtngehkmdanhgpaaGreat.Pl
