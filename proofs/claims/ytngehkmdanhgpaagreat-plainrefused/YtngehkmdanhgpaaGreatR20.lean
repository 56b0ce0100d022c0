/-
  IndexFunc and ContainsFunc over functions that only read; checkData, checkDirs.
-/
import Derived.Deep.RegionLaw
import Derived.Deep.DrawnRows
import Derived.Lib.SlBytesConst
import Derived.Laws.CopyOwn
import Derived.Lib.AppendZeros
import Derived.Laws.Tables
import Derived.Test.YtngehkmdanhgpaaGreatR00
import Derived.Test.YtngehkmdanhgpaaGreatR01
import Derived.Test.YtngehkmdanhgpaaGreatR02
import Derived.Test.YtngehkmdanhgpaaGreatR03
import Derived.Test.YtngehkmdanhgpaaGreatR04
import Derived.Test.YtngehkmdanhgpaaGreatR05
import Derived.Test.YtngehkmdanhgpaaGreatR06
import Derived.Test.YtngehkmdanhgpaaGreatR07
import Derived.Test.YtngehkmdanhgpaaGreatR08
import Derived.Test.YtngehkmdanhgpaaGreatR09
import Derived.Test.YtngehkmdanhgpaaGreatR10
import Derived.Test.YtngehkmdanhgpaaGreatR11
import Derived.Test.YtngehkmdanhgpaaGreatR12
import Derived.Test.YtngehkmdanhgpaaGreatR13
import Derived.Test.YtngehkmdanhgpaaGreatR14
import Derived.Test.YtngehkmdanhgpaaGreatR15
import Derived.Test.YtngehkmdanhgpaaGreatR16
import Derived.Test.YtngehkmdanhgpaaGreatR17
import Derived.Test.YtngehkmdanhgpaaGreatR18
namespace Go.Proofs.YtngehkmdanhgpaaGreat.Pl
open Go.RowKit
open Vp (Str B bl Val cmpL parseS showS splitS withinS IsPath)
open Nd (Row wp_world post_Row post_Row2 grownBy_setCell below_of_grown)
open Rf (Fil Fls fcells)
theorem any_take {α : Type} {l : List α} {p : α → Bool} {i : Nat} {x : α} (hx : l[i]? = some x) (h : (l.take i).any p = false) (hp : p x = false) : (l.take (i + 1)).any p = false := by
  rw [List.take_add_one, List.any_append, h, hx]
  simp [hp]
theorem any_hit {α : Type} {l : List α} {p : α → Bool} {i : Nat} {x : α} (hx : l[i]? = some x) (hp : p x = true) : l.any p = true := List.any_eq_true.2 ⟨x, List.mem_of_getElem? hx, hp⟩
set_option maxHeartbeats 1000000 in
set_option maxRecDepth 100000 in
theorem index_49 (xs : List Fil) (sv : Value) (w : World) (h : Fls w sv xs) (hn : xs.length ≤ 1000000) (P : Fil → Bool) (hf : ∀ x ∈ xs, ∀ W, Below w.heap.size w W → Calls Tryz.prog 49 #[x.val] W fun e w' => e = .returned (.bool (P x)) ∧ Below W.heap.size W w') :
    Calls Tryz.prog 87 #[sv, .func (.func 49) #[] #[]] w fun e w' => ∃ r : Int, e = .returned (.int .i64 r) ∧ decide (0 ≤ r) = xs.any P ∧ Below w.heap.size w w' := by
  obtain ⟨p, cap, b, o, rfl, h1, h2, h3, h4, h5⟩ := h
  have H3 := hid_in h3
  have H4 := hid_in h4
  have HF := hid_in hf
  
  clear h3 h4 h5 hf 
  go_enter Tryz.func87, Tryz.ntmps87
  go_wp2_with fail
  go_loopw [8] (fun vi W => ∃ i : Nat, i ≤ xs.length ∧ vi = .int .i64 (i : Int) ∧ Hid ((xs.take i).any P = false ∧ Below w.heap.size w W)) (fun vi _ => xs.length - (intOf vi).toNat)
  case atStart => exact ⟨0, by omega, rfl, by simp, Below.refl _ _⟩
  case round =>
    obtain ⟨i, hi, rfl, hI⟩ := hrel
    by_cases hlt : i < xs.length
    · have hg : xs[i]? = some xs[i] := List.getElem?_eq_getElem hlt
      obtain ⟨hp, hb⟩ := H3.out (by intro h; simp [h] at hlt)
      have hrg : ∀ (y : Nat) u, (xs[i]).cells[y]? = some u → wr.cell? ⟨b, o + i * 3 + y, none⟩ = some u := fun y u hy => by
        rw [hI.out.2.cell (p := ⟨b, o + i * 3 + y, none⟩) hb, Nat.add_assoc]
        exact H4.out _ _ (Rf.fcells_at hg y u hy)
      have HST := hid_in (HF.out _ (List.getElem_mem hlt) wr hI.out.2)
      
      generalize xs[i] = s at *
      have HG := hid_in hg
      clear hg
      obtain ⟨PB, HPB⟩ : ∃ PB, Hid (P s = PB) := ⟨_, hid_in rfl⟩
      rw [HPB.out] at HST
      obtain ⟨pt, d, x⟩ := s
      subst hp
      simp only [Fil.val] at HST
      have m0 : wr.cell? ⟨b, o + i * 3, none⟩ = some (.string pt) := by simpa using hrg 0 _ rfl
      have m1 : wr.cell? ⟨b, o + i * 3 + 1, none⟩ = some (.bool d) := hrg 1 _ rfl
      have m2 : wr.cell? ⟨b, o + i * 3 + 2, none⟩ = some (.string x) := hrg 2 _ rfl
      clear hrg
      cases PB with
      | false =>
        go_wp2_with (first | (go_at_call 49; refine HST.out.mono ?_; rintro e w1 ⟨rfl, hb1⟩; have HB1 := hid_in (hI.out.2.trans (hb1.mono hI.out.2.size)); clear hb1))
        exact ⟨⟨i + 1, by omega, by go_num, any_take HG.out hI.out.1 HPB.out, HB1.out⟩, by simp [intOf]; omega⟩
      | true =>
        go_wp2_with (first | (go_at_call 49; refine HST.out.mono ?_; rintro e w1 ⟨rfl, hb1⟩; have HB1 := hid_in (hI.out.2.trans (hb1.mono hI.out.2.size)); clear hb1))
        go_ret
        exact ⟨_, rfl, by rw [any_hit HG.out HPB.out]; simp, HB1.out⟩
    · obtain rfl : i = xs.length := by omega
      go_wp2
      go_ret
      refine ⟨_, rfl, ?_, hI.out.2⟩
      have := hI.out.1
      rw [List.take_length] at this
      rw [this]
      rfl
set_option maxHeartbeats 1000000 in
theorem contains_49 (xs : List Fil) (sv : Value) (w : World) (h : Fls w sv xs) (hn : xs.length ≤ 1000000) (P : Fil → Bool) (hf : ∀ x ∈ xs, ∀ W, Below w.heap.size w W → Calls Tryz.prog 49 #[x.val] W fun e w' => e = .returned (.bool (P x)) ∧ Below W.heap.size W w') :
    Calls Tryz.prog 48 #[sv, .func (.func 49) #[] #[]] w fun e w' => e = .returned (.bool (xs.any P)) ∧ Below w.heap.size w w' := by
  have HI := hid_in (index_49 xs sv w h hn P hf)
  clear h hf
  go_enter Tryz.func48, Tryz.ntmps48
  go_wp2_with (first | (go_at_call 87; refine HI.out.mono ?_; rintro e w1 ⟨r, rfl, hr, hb⟩; have HR := hid_in hr; have HB := hid_in hb; clear hr hb))
  go_ret
  exact ⟨by rw [← HR.out]; rfl, HB.out⟩
set_option maxHeartbeats 1000000 in
set_option maxRecDepth 100000 in
theorem index_50 (xs : List Fil) (sv : Value) (w : World) (h : Fls w sv xs) (hn : xs.length ≤ 1000000) (P : Fil → Bool) (hf : ∀ x ∈ xs, ∀ W, Below w.heap.size w W → Calls Tryz.prog 50 #[x.val] W fun e w' => e = .returned (.bool (P x)) ∧ Below W.heap.size W w') :
    Calls Tryz.prog 87 #[sv, .func (.func 50) #[] #[]] w fun e w' => ∃ r : Int, e = .returned (.int .i64 r) ∧ decide (0 ≤ r) = xs.any P ∧ Below w.heap.size w w' := by
  obtain ⟨p, cap, b, o, rfl, h1, h2, h3, h4, h5⟩ := h
  have H3 := hid_in h3
  have H4 := hid_in h4
  have HF := hid_in hf
  
  clear h3 h4 h5 hf 
  go_enter Tryz.func87, Tryz.ntmps87
  go_wp2_with fail
  go_loopw [8] (fun vi W => ∃ i : Nat, i ≤ xs.length ∧ vi = .int .i64 (i : Int) ∧ Hid ((xs.take i).any P = false ∧ Below w.heap.size w W)) (fun vi _ => xs.length - (intOf vi).toNat)
  case atStart => exact ⟨0, by omega, rfl, by simp, Below.refl _ _⟩
  case round =>
    obtain ⟨i, hi, rfl, hI⟩ := hrel
    by_cases hlt : i < xs.length
    · have hg : xs[i]? = some xs[i] := List.getElem?_eq_getElem hlt
      obtain ⟨hp, hb⟩ := H3.out (by intro h; simp [h] at hlt)
      have hrg : ∀ (y : Nat) u, (xs[i]).cells[y]? = some u → wr.cell? ⟨b, o + i * 3 + y, none⟩ = some u := fun y u hy => by
        rw [hI.out.2.cell (p := ⟨b, o + i * 3 + y, none⟩) hb, Nat.add_assoc]
        exact H4.out _ _ (Rf.fcells_at hg y u hy)
      have HST := hid_in (HF.out _ (List.getElem_mem hlt) wr hI.out.2)
      
      generalize xs[i] = s at *
      have HG := hid_in hg
      clear hg
      obtain ⟨PB, HPB⟩ : ∃ PB, Hid (P s = PB) := ⟨_, hid_in rfl⟩
      rw [HPB.out] at HST
      obtain ⟨pt, d, x⟩ := s
      subst hp
      simp only [Fil.val] at HST
      have m0 : wr.cell? ⟨b, o + i * 3, none⟩ = some (.string pt) := by simpa using hrg 0 _ rfl
      have m1 : wr.cell? ⟨b, o + i * 3 + 1, none⟩ = some (.bool d) := hrg 1 _ rfl
      have m2 : wr.cell? ⟨b, o + i * 3 + 2, none⟩ = some (.string x) := hrg 2 _ rfl
      clear hrg
      cases PB with
      | false =>
        go_wp2_with (first | (go_at_call 50; refine HST.out.mono ?_; rintro e w1 ⟨rfl, hb1⟩; have HB1 := hid_in (hI.out.2.trans (hb1.mono hI.out.2.size)); clear hb1))
        exact ⟨⟨i + 1, by omega, by go_num, any_take HG.out hI.out.1 HPB.out, HB1.out⟩, by simp [intOf]; omega⟩
      | true =>
        go_wp2_with (first | (go_at_call 50; refine HST.out.mono ?_; rintro e w1 ⟨rfl, hb1⟩; have HB1 := hid_in (hI.out.2.trans (hb1.mono hI.out.2.size)); clear hb1))
        go_ret
        exact ⟨_, rfl, by rw [any_hit HG.out HPB.out]; simp, HB1.out⟩
    · obtain rfl : i = xs.length := by omega
      go_wp2
      go_ret
      refine ⟨_, rfl, ?_, hI.out.2⟩
      have := hI.out.1
      rw [List.take_length] at this
      rw [this]
      rfl
set_option maxHeartbeats 1000000 in
theorem contains_50 (xs : List Fil) (sv : Value) (w : World) (h : Fls w sv xs) (hn : xs.length ≤ 1000000) (P : Fil → Bool) (hf : ∀ x ∈ xs, ∀ W, Below w.heap.size w W → Calls Tryz.prog 50 #[x.val] W fun e w' => e = .returned (.bool (P x)) ∧ Below W.heap.size W w') :
    Calls Tryz.prog 48 #[sv, .func (.func 50) #[] #[]] w fun e w' => e = .returned (.bool (xs.any P)) ∧ Below w.heap.size w w' := by
  have HI := hid_in (index_50 xs sv w h hn P hf)
  clear h hf
  go_enter Tryz.func48, Tryz.ntmps48
  go_wp2_with (first | (go_at_call 87; refine HI.out.mono ?_; rintro e w1 ⟨r, rfl, hr, hb⟩; have HR := hid_in hr; have HB := hid_in hb; clear hr hb))
  go_ret
  exact ⟨by rw [← HR.out]; rfl, HB.out⟩
set_option maxHeartbeats 1000000 in
set_option maxRecDepth 100000 in
theorem index_53 (cb : Nat) (xs : List Spot) (sv : Value) (w : World) (h : Sps w sv xs) (hn : xs.length ≤ 1000000) (hsf : ∀ s ∈ xs, Sf s) (P : Spot → Bool) (hf : ∀ x ∈ xs, ∀ W, Below w.heap.size w W → Calls Tryz.prog 53 #[x.val, .pointer (some ⟨cb, 0, none⟩)] W fun e w' => e = .returned (.bool (P x)) ∧ Below W.heap.size W w') :
    Calls Tryz.prog 89 #[sv, .func (.func 53) #[] #[.pointer (some ⟨cb, 0, none⟩)]] w fun e w' => ∃ r : Int, e = .returned (.int .i64 r) ∧ decide (0 ≤ r) = xs.any P ∧ Below w.heap.size w w' := by
  obtain ⟨p, cap, b, o, rfl, h1, h2, h3, h4, h5⟩ := h
  have H3 := hid_in h3
  have H4 := hid_in h4
  have HF := hid_in hf
  have HSF := hid_in hsf
  clear h3 h4 h5 hf hsf
  go_enter Tryz.func89, Tryz.ntmps89
  go_wp2_with fail
  go_loopw [8] (fun vi W => ∃ i : Nat, i ≤ xs.length ∧ vi = .int .i64 (i : Int) ∧ Hid ((xs.take i).any P = false ∧ Below w.heap.size w W)) (fun vi _ => xs.length - (intOf vi).toNat)
  case atStart => exact ⟨0, by omega, rfl, by simp, Below.refl _ _⟩
  case round =>
    obtain ⟨i, hi, rfl, hI⟩ := hrel
    by_cases hlt : i < xs.length
    · have hg : xs[i]? = some xs[i] := List.getElem?_eq_getElem hlt
      obtain ⟨hp, hb⟩ := H3.out (by intro h; simp [h] at hlt)
      have hrg : ∀ (y : Nat) u, (xs[i]).cells[y]? = some u → wr.cell? ⟨b, o + i * 4 + y, none⟩ = some u := fun y u hy => by
        rw [hI.out.2.cell (p := ⟨b, o + i * 4 + y, none⟩) hb, Nat.add_assoc]
        exact H4.out _ _ (scells_at hg y u hy)
      have HST := hid_in (HF.out _ (List.getElem_mem hlt) wr hI.out.2)
      have hsv := HSF.out _ (List.getElem_mem hlt)
      generalize xs[i] = s at *
      have HG := hid_in hg
      clear hg
      obtain ⟨PB, HPB⟩ : ∃ PB, Hid (P s = PB) := ⟨_, hid_in rfl⟩
      rw [HPB.out] at HST
      obtain ⟨v, ns, pt, d, x⟩ := s
      obtain ⟨nq, nl, nc, hv⟩ := hsv
      simp only at hv
      subst hv hp
      simp only [Spot.val] at HST
      have m0 : wr.cell? ⟨b, o + i * 4, none⟩ = some (.slice nq nl nc) := by simpa using hrg 0 _ rfl
      have m1 : wr.cell? ⟨b, o + i * 4 + 1, none⟩ = some (.string pt) := hrg 1 _ rfl
      have m2 : wr.cell? ⟨b, o + i * 4 + 2, none⟩ = some (.bool d) := hrg 2 _ rfl
      have m3 : wr.cell? ⟨b, o + i * 4 + 3, none⟩ = some (.string x) := hrg 3 _ rfl
      clear hrg
      cases PB with
      | false =>
        go_wp2_with (first | (go_at_call 53; refine HST.out.mono ?_; rintro e w1 ⟨rfl, hb1⟩; have HB1 := hid_in (hI.out.2.trans (hb1.mono hI.out.2.size)); clear hb1))
        exact ⟨⟨i + 1, by omega, by go_num, any_take HG.out hI.out.1 HPB.out, HB1.out⟩, by simp [intOf]; omega⟩
      | true =>
        go_wp2_with (first | (go_at_call 53; refine HST.out.mono ?_; rintro e w1 ⟨rfl, hb1⟩; have HB1 := hid_in (hI.out.2.trans (hb1.mono hI.out.2.size)); clear hb1))
        go_ret
        exact ⟨_, rfl, by rw [any_hit HG.out HPB.out]; simp, HB1.out⟩
    · obtain rfl : i = xs.length := by omega
      go_wp2
      go_ret
      refine ⟨_, rfl, ?_, hI.out.2⟩
      have := hI.out.1
      rw [List.take_length] at this
      rw [this]
      rfl
set_option maxHeartbeats 1000000 in
theorem contains_53 (cb : Nat) (xs : List Spot) (sv : Value) (w : World) (h : Sps w sv xs) (hn : xs.length ≤ 1000000) (hsf : ∀ s ∈ xs, Sf s) (P : Spot → Bool) (hf : ∀ x ∈ xs, ∀ W, Below w.heap.size w W → Calls Tryz.prog 53 #[x.val, .pointer (some ⟨cb, 0, none⟩)] W fun e w' => e = .returned (.bool (P x)) ∧ Below W.heap.size W w') :
    Calls Tryz.prog 52 #[sv, .func (.func 53) #[] #[.pointer (some ⟨cb, 0, none⟩)]] w fun e w' => e = .returned (.bool (xs.any P)) ∧ Below w.heap.size w w' := by
  have HI := hid_in (index_53 cb xs sv w h hn hsf P hf)
  clear h hf
  go_enter Tryz.func52, Tryz.ntmps52
  go_wp2_with (first | (go_at_call 89; refine HI.out.mono ?_; rintro e w1 ⟨r, rfl, hr, hb⟩; have HR := hid_in hr; have HB := hid_in hb; clear hr hb))
  go_ret
  exact ⟨by rw [← HR.out]; rfl, HB.out⟩
set_option maxHeartbeats 1000000 in
set_option maxRecDepth 100000 in
theorem index_55 (cb : Nat) (xs : List Spot) (sv : Value) (w : World) (h : Sps w sv xs) (hn : xs.length ≤ 1000000) (hsf : ∀ s ∈ xs, Sf s) (P : Spot → Bool) (hf : ∀ x ∈ xs, ∀ W, Below w.heap.size w W → Calls Tryz.prog 55 #[x.val, .pointer (some ⟨cb, 0, none⟩)] W fun e w' => e = .returned (.bool (P x)) ∧ Below W.heap.size W w') :
    Calls Tryz.prog 89 #[sv, .func (.func 55) #[] #[.pointer (some ⟨cb, 0, none⟩)]] w fun e w' => ∃ r : Int, e = .returned (.int .i64 r) ∧ decide (0 ≤ r) = xs.any P ∧ Below w.heap.size w w' := by
  obtain ⟨p, cap, b, o, rfl, h1, h2, h3, h4, h5⟩ := h
  have H3 := hid_in h3
  have H4 := hid_in h4
  have HF := hid_in hf
  have HSF := hid_in hsf
  clear h3 h4 h5 hf hsf
  go_enter Tryz.func89, Tryz.ntmps89
  go_wp2_with fail
  go_loopw [8] (fun vi W => ∃ i : Nat, i ≤ xs.length ∧ vi = .int .i64 (i : Int) ∧ Hid ((xs.take i).any P = false ∧ Below w.heap.size w W)) (fun vi _ => xs.length - (intOf vi).toNat)
  case atStart => exact ⟨0, by omega, rfl, by simp, Below.refl _ _⟩
  case round =>
    obtain ⟨i, hi, rfl, hI⟩ := hrel
    by_cases hlt : i < xs.length
    · have hg : xs[i]? = some xs[i] := List.getElem?_eq_getElem hlt
      obtain ⟨hp, hb⟩ := H3.out (by intro h; simp [h] at hlt)
      have hrg : ∀ (y : Nat) u, (xs[i]).cells[y]? = some u → wr.cell? ⟨b, o + i * 4 + y, none⟩ = some u := fun y u hy => by
        rw [hI.out.2.cell (p := ⟨b, o + i * 4 + y, none⟩) hb, Nat.add_assoc]
        exact H4.out _ _ (scells_at hg y u hy)
      have HST := hid_in (HF.out _ (List.getElem_mem hlt) wr hI.out.2)
      have hsv := HSF.out _ (List.getElem_mem hlt)
      generalize xs[i] = s at *
      have HG := hid_in hg
      clear hg
      obtain ⟨PB, HPB⟩ : ∃ PB, Hid (P s = PB) := ⟨_, hid_in rfl⟩
      rw [HPB.out] at HST
      obtain ⟨v, ns, pt, d, x⟩ := s
      obtain ⟨nq, nl, nc, hv⟩ := hsv
      simp only at hv
      subst hv hp
      simp only [Spot.val] at HST
      have m0 : wr.cell? ⟨b, o + i * 4, none⟩ = some (.slice nq nl nc) := by simpa using hrg 0 _ rfl
      have m1 : wr.cell? ⟨b, o + i * 4 + 1, none⟩ = some (.string pt) := hrg 1 _ rfl
      have m2 : wr.cell? ⟨b, o + i * 4 + 2, none⟩ = some (.bool d) := hrg 2 _ rfl
      have m3 : wr.cell? ⟨b, o + i * 4 + 3, none⟩ = some (.string x) := hrg 3 _ rfl
      clear hrg
      cases PB with
      | false =>
        go_wp2_with (first | (go_at_call 55; refine HST.out.mono ?_; rintro e w1 ⟨rfl, hb1⟩; have HB1 := hid_in (hI.out.2.trans (hb1.mono hI.out.2.size)); clear hb1))
        exact ⟨⟨i + 1, by omega, by go_num, any_take HG.out hI.out.1 HPB.out, HB1.out⟩, by simp [intOf]; omega⟩
      | true =>
        go_wp2_with (first | (go_at_call 55; refine HST.out.mono ?_; rintro e w1 ⟨rfl, hb1⟩; have HB1 := hid_in (hI.out.2.trans (hb1.mono hI.out.2.size)); clear hb1))
        go_ret
        exact ⟨_, rfl, by rw [any_hit HG.out HPB.out]; simp, HB1.out⟩
    · obtain rfl : i = xs.length := by omega
      go_wp2
      go_ret
      refine ⟨_, rfl, ?_, hI.out.2⟩
      have := hI.out.1
      rw [List.take_length] at this
      rw [this]
      rfl
set_option maxHeartbeats 1000000 in
theorem contains_55 (cb : Nat) (xs : List Spot) (sv : Value) (w : World) (h : Sps w sv xs) (hn : xs.length ≤ 1000000) (hsf : ∀ s ∈ xs, Sf s) (P : Spot → Bool) (hf : ∀ x ∈ xs, ∀ W, Below w.heap.size w W → Calls Tryz.prog 55 #[x.val, .pointer (some ⟨cb, 0, none⟩)] W fun e w' => e = .returned (.bool (P x)) ∧ Below W.heap.size W w') :
    Calls Tryz.prog 52 #[sv, .func (.func 55) #[] #[.pointer (some ⟨cb, 0, none⟩)]] w fun e w' => e = .returned (.bool (xs.any P)) ∧ Below w.heap.size w w' := by
  have HI := hid_in (index_55 cb xs sv w h hn hsf P hf)
  clear h hf
  go_enter Tryz.func52, Tryz.ntmps52
  go_wp2_with (first | (go_at_call 89; refine HI.out.mono ?_; rintro e w1 ⟨r, rfl, hr, hb⟩; have HR := hid_in hr; have HB := hid_in hb; clear hr hb))
  go_ret
  exact ⟨by rw [← HR.out]; rfl, HB.out⟩
end Go.Proofs.YtngehkmdanhgpaaGreat.Pl
