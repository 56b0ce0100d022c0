/-
  Every kind keeps the tree. The walk of shown. . The words of the kinds: the walks of Word, the program's and the reference's, Reads and Kind.
-/
import Derived.Laws.CopyOwn
import Derived.Deep.RegionLaw
import Derived.Deep.DrawnRows
import Derived.Lib.SlBytesConst
import Derived.Lib.AppendZeros
import Derived.Laws.Tables
import Derived.Test.YtngehkmdanhgpaaGreatR00
import Derived.Test.YtngehkmdanhgpaaGreatR01
import Derived.Test.YtngehkmdanhgpaaGreatR02
import Derived.Test.YtngehkmdanhgpaaGreatR03
import Derived.Test.YtngehkmdanhgpaaGreatR04
import Derived.Test.YtngehkmdanhgpaaGreatR05
import Derived.Test.YtngehkmdanhgpaaGreatR06
import Derived.Test.YtngehkmdanhgpaaGreatR07
import Derived.Test.YtngehkmdanhgpaaGreatR08
import Derived.Test.YtngehkmdanhgpaaGreatR09
import Derived.Test.YtngehkmdanhgpaaGreatR10
import Derived.Test.YtngehkmdanhgpaaGreatR11
import Derived.Test.YtngehkmdanhgpaaGreatR12
import Derived.Test.YtngehkmdanhgpaaGreatR13
import Derived.Test.YtngehkmdanhgpaaGreatR14
import Derived.Test.YtngehkmdanhgpaaGreatR15
import Derived.Test.YtngehkmdanhgpaaGreatR16
import Derived.Test.YtngehkmdanhgpaaGreatR17
import Derived.Test.YtngehkmdanhgpaaGreatR18
import Derived.Test.YtngehkmdanhgpaaGreatR19
import Derived.Test.YtngehkmdanhgpaaGreatR20
import Derived.Test.YtngehkmdanhgpaaGreatR21
import Derived.Test.YtngehkmdanhgpaaGreatR22
import Derived.Test.YtngehkmdanhgpaaGreatR23
import Derived.Test.YtngehkmdanhgpaaGreatR24
import Derived.Test.YtngehkmdanhgpaaGreatR25
import Derived.Test.YtngehkmdanhgpaaGreatR26
import Derived.Test.YtngehkmdanhgpaaGreatR27
import Derived.Test.YtngehkmdanhgpaaGreatR28
import Derived.Test.YtngehkmdanhgpaaGreatR29
import Derived.Test.YtngehkmdanhgpaaGreatR30
import Derived.Test.YtngehkmdanhgpaaGreatR31
import Derived.Test.YtngehkmdanhgpaaGreatR32
import Derived.Test.YtngehkmdanhgpaaGreatR33
import Derived.Test.YtngehkmdanhgpaaGreatR34
namespace Go.Proofs.YtngehkmdanhgpaaGreat.Pl
open Vp (Str B bl Val cmpL parseS showS splitS withinS IsPath)
theorem dropLast_ne {n : List Str} (h : n ≠ []) : n.dropLast ≠ n := fun e => by
  have := congrArg List.length e
  have h0 := List.length_pos_iff.2 h
  rw [List.length_dropLast] at this
  omega
theorem tree_put {A : List Ent} {e : Ent} (hT : Tree A) (hn : e.names ≠ []) (hd : ∃ d, entAt A e.names.dropLast = some d ∧ d.dir = true) (hk : ∀ x, entAt A e.names = some x → x.dir = true → e.dir = true) : Tree (putA A e) := by
  refine ⟨?_, fun n x hx h0 => ?_⟩
  · rw [at_put, if_neg fun h => hn h.symm]
    exact hT.root
  · rw [at_put] at hx ⊢
    by_cases h1 : n = e.names
    · rw [h1, if_neg (dropLast_ne hn)]
      exact hd
    · rw [if_neg h1] at hx
      obtain ⟨d, d1, d2⟩ := hT.up n x hx h0
      by_cases h2 : n.dropLast = e.names
      · rw [if_pos h2]
        exact ⟨e, rfl, hk d (h2 ▸ d1) d2⟩
      · rw [if_neg h2]
        exact ⟨d, d1, d2⟩
theorem tree_cut {A : List Ent} {xs : List Str} (hT : Tree A) (hx : xs ≠ []) (hk : ∀ n x, entAt A n = some x → n ≠ [] → n.dropLast ≠ xs) : Tree (cutA A xs) := by
  refine ⟨?_, fun n x h h0 => ?_⟩
  · rw [at_cut, if_neg fun h => hx h.symm]
    exact hT.root
  · rw [at_cut] at h ⊢
    by_cases h1 : n = xs
    · rw [if_pos h1] at h
      cases h
    · rw [if_neg h1] at h
      rw [if_neg (hk n x h h0)]
      exact hT.up n x h h0
theorem findFA_at {A : List Ent} {xs : List Str} (h : (findFA A xs).2 = 0) : ∃ f, entAt A xs = some f ∧ f.dir = false := by
  unfold findFA at h
  split at h
  · cases h
  · rename_i hn
    refine ⟨_, findA_at h, ?_⟩
    cases hd : (findA A xs).1.dir with
    | false => rfl
    | true => exact absurd ⟨h, hd⟩ hn
/-- nothing lies below a file -/
theorem Tree.file {A : List Ent} (hT : Tree A) {xs : List Str} {f : Ent} (h : entAt A xs = some f) (hd : f.dir = false) : ∀ n x, entAt A n = some x → n ≠ [] → n.dropLast ≠ xs := fun n x hx h0 e => by
  obtain ⟨d, d1, d2⟩ := hT.up n x hx h0
  rw [e, h] at d1
  cases d1
  rw [hd] at d2
  cases d2
theorem Tree.file_ne {A : List Ent} (hT : Tree A) {xs : List Str} {f : Ent} (h : entAt A xs = some f) (hd : f.dir = false) : xs ≠ [] := fun e => by
  obtain ⟨r, r1, r2⟩ := hT.root
  rw [e, r1] at h
  cases h
  rw [hd] at r2
  cases r2
theorem tree_add {A : List Ent} (hT : Tree A) (xs : List Str) (d : Bool) : Tree (addA A xs d) := by
  unfold addA
  split
  · rename_i h
    unfold addE at h
    split at h
    · cases h
    rename_i h0
    split at h
    · rename_i h1
      exact absurd h h1
    rename_i h1
    split at h
    · cases h
    rename_i h2
    refine tree_put hT h0 (findDA_at (Classical.byContradiction h1)) fun x hx _ => ?_
    exact absurd (by rw [hx]; rfl) h2
  · exact hT
theorem tree_over {A : List Ent} (hT : Tree A) {xs : List Str} (h : (findFA A xs).2 = 0) (y : ByteArray) : Tree (putA A ⟨xs, false, y⟩) := by
  obtain ⟨f, h1, h2⟩ := findFA_at h
  have hn := hT.file_ne h1 h2
  refine tree_put hT hn (hT.up xs f h1 hn) fun x hx hd => ?_
  have hx' : entAt A xs = some x := hx
  rw [h1] at hx'
  cases hx'
  rw [h2] at hd
  cases hd
theorem tree_wr {A : List Ent} (hT : Tree A) (xs : List Str) (a : Nat) (d : ByteArray) : Tree (wrA A xs a d) := by
  unfold wrA
  split
  · rename_i h
    unfold wrE at h
    split at h
    · rename_i h1
      exact absurd h h1
    · rename_i h1
      exact tree_over hT (Classical.byContradiction h1) _
  · exact hT
theorem tree_tr {A : List Ent} (hT : Tree A) (xs : List Str) (z : Nat) : Tree (trA A xs z) := by
  unfold trA
  split
  · rename_i h
    exact tree_over hT h _
  · exact hT
theorem tree_ul {A : List Ent} (hT : Tree A) (xs : List Str) : Tree (ulA A xs) := by
  unfold ulA
  split
  · rename_i h
    obtain ⟨f, h1, h2⟩ := findFA_at h
    exact tree_cut hT (hT.file_ne h1 h2) (hT.file h1 h2)
  · exact hT
theorem none_below {A : List Ent} {xs : List Str} (h : ¬ 0 < (A.filter (belowE xs)).length) : ∀ s, s ≠ [] → entAt A (xs ++ s) = none := fun s hs => by
  cases hc : entAt A (xs ++ s) with
  | none => rfl
  | some e =>
    obtain ⟨hn, hm⟩ := at_names hc
    exact absurd (List.length_pos_of_mem (List.mem_filter.2 ⟨hm, below_iff.2 ⟨s, hs, hn⟩⟩)) h
theorem tree_rm {A : List Ent} (hT : Tree A) (xs : List Str) : Tree (rmA A xs) := by
  unfold rmA
  split
  · rename_i h
    unfold rmE at h
    split at h
    · cases h
    rename_i h0
    split at h
    · rename_i h1
      exact absurd h h1
    split at h
    · cases h
    rename_i h2
    refine tree_cut hT h0 fun n x hx hn e => ?_
    have := none_below h2 [n.getLast hn] (by simp)
    rw [← e, List.dropLast_concat_getLast, hx] at this
    cases this
  · exact hT
/-- what is where behind a rename onto what may be there -/
theorem at_moved2 {A es : List Ent} {p q : List Str} {x : Ent} (hA : (A.map (·.names)).Nodup) (hx : entAt A p = some x) (hp : es.Perm (A.filter (belowE p))) (hpq : Apart p q) (hq : ∀ s, s ≠ [] → entAt A (q ++ s) = none) :
    (∀ s, entAt (movesA p q (es ++ [x]) A) (q ++ s) = (entAt A (p ++ s)).map (renE (q ++ s))) ∧ (∀ s, entAt (movesA p q (es ++ [x]) A) (p ++ s) = none) ∧
      ∀ n, withinS n p = false → withinS n q = false → entAt (movesA p q (es ++ [x]) A) n = entAt A n := by
  obtain ⟨h1, h2, h3⟩ := moved_names hA hx hp
  have H := at_moves p q hpq (es ++ [x]) A (fun e he => (h1 e he).2) h2
  revert H h1 h2 h3
  generalize es ++ [x] = fs
  intro h1 h2 h3 H
  refine ⟨fun s => ?_, fun s => ?_, fun n hn1 hn2 => ?_⟩
  · rw [H]
    have hf : (fs.find? (fun e => decide (q ++ s = q ++ e.names.drop p.length))) = entAt A (p ++ s) := by
      cases hf : fs.find? (fun e => decide (q ++ s = q ++ e.names.drop p.length)) with
      | some e =>
        have he := List.mem_of_find?_eq_some hf
        have hs0 := List.find?_some hf
        have hs := List.append_cancel_left (of_decide_eq_true hs0)
        obtain ⟨u, hu⟩ := within_iff.1 (h1 e he).2
        rw [hu, List.drop_left] at hs
        rw [hs, ← hu]
        exact (at_mem hA (h1 e he).1).symm
      | none =>
        cases hc : entAt A (p ++ s) with
        | none => rfl
        | some e =>
          obtain ⟨hn, hm⟩ := at_names hc
          have he := h3 e hm (within_iff.2 ⟨s, hn⟩)
          have := List.find?_eq_none.1 hf e he
          rw [hn, List.drop_left] at this
          simp at this
    rw [hf]
    cases hc : entAt A (p ++ s) with
    | some e => rfl
    | none =>
      simp only [Option.map_none]
      split
      · rfl
      · exact hq s fun h0 => by
          rw [h0, List.append_nil, hx] at hc
          cases hc
  · rw [H]
    have hf : (fs.find? (fun e => decide (p ++ s = q ++ e.names.drop p.length))) = none := by
      rw [List.find?_eq_none]
      intro e _ he
      exact not_both hpq (within_iff.2 ⟨s, rfl⟩) (within_iff.2 ⟨_, of_decide_eq_true he⟩)
    rw [hf]
    simp only
    split
    · rfl
    · rename_i hn
      cases hc : entAt A (p ++ s) with
      | none => rfl
      | some e =>
        obtain ⟨hn2, hm⟩ := at_names hc
        exact absurd (List.mem_map.2 ⟨e, h3 e hm (within_iff.2 ⟨s, hn2⟩), hn2⟩) hn
  · rw [H]
    have hf : (fs.find? (fun e => decide (n = q ++ e.names.drop p.length))) = none := by
      rw [List.find?_eq_none]
      intro e _ he
      rw [within_iff.2 ⟨_, of_decide_eq_true he⟩] at hn2
      cases hn2
    rw [hf]
    simp only
    rw [if_neg]
    intro hm
    obtain ⟨e, he, rfl⟩ := List.mem_map.1 hm
    rw [(h1 e he).2] at hn1
    cases hn1
theorem tree_rn {A A' : List Ent} {p q : List Str} (hT : Tree A) (hA : (A.map (·.names)).Nodup) (h : Moved A p q A') : Tree A' := by
  by_cases hc : rnE A p q = 0 ∧ p ≠ q
  · obtain ⟨x, es, hx, hp, e⟩ := h.2 hc
    obtain ⟨hp0, hq0, _, hd, hw⟩ := rn_ok hc.1
    have hw := hw hc.2
    have hqs : ∀ s, s ≠ [] → entAt A (q ++ s) = none := by
      cases hq : entAt A q with
      | none => exact fun s _ => hT.none hq _ s rfl
      | some o =>
        have hcv : cvE A p q = 0 := by
          have h1 := hc.1
          unfold rnE at h1
          split at h1
          · rename_i h2
            exact absurd h1 h2
          rw [if_neg hc.2] at h1
          unfold mvE at h1
          split at h1
          · cases h1
          split at h1
          · rename_i h2
            exact absurd h1 h2
          · rename_i h2
            exact Classical.byContradiction h2
        unfold cvE at hcv
        rw [hq] at hcv
        simp only at hcv
        unfold covE at hcv
        split at hcv
        · cases hcv
        split at hcv
        · cases hcv
        split at hcv
        · cases hcv
        rename_i h3
        exact none_below h3
    have hwp : withinS p q = false := by
      cases hcc : withinS p q with
      | false => rfl
      | true =>
        obtain ⟨s, hs⟩ := within_iff.1 hcc
        by_cases h0 : s = []
        · rw [h0, List.append_nil] at hs
          exact absurd hs hc.2
        · rw [hs, hqs s h0] at hx
          cases hx
    obtain ⟨h1, h2, h3⟩ := at_moved2 hA hx hp ⟨hwp, hw⟩ hqs
    rw [← e] at h1 h2 h3
    exact tree_moved hT ⟨hwp, hw⟩ hp0 hq0 hd h1 h2 h3
  · rw [h.1 (by
      by_cases h0 : rnE A p q = 0
      · exact .inr (Classical.byContradiction fun hh => hc ⟨h0, hh⟩)
      · exact .inl h0)]
    exact hT
end Go.Proofs.YtngehkmdanhgpaaGreat.Pl
namespace Go.Proofs.YtngehkmdanhgpaaGreat.Pl
open Go.RowKit
open Vp (Str B bl Val cmpL parseS showS splitS withinS IsPath)
open Nd (Row wp_world post_Row post_Row2 grownBy_setCell below_of_grown)
/-- the last name, of a directory with a stroke behind -/
def shownS (e : Ent) : Str := (e.names.getLast?.getD []) ++ (if e.dir then [47] else [])
theorem B_app (x y : Str) : B (x ++ y) = B x ++ B y := by
  apply ByteArray.ext
  simp [B, ByteArray.data_append]
set_option maxHeartbeats 2000000 in
set_option maxRecDepth 100000 in
theorem shown_any (v : Value) (xs : List Str) (t x : ByteArray) (d : Bool) (w : World) (hv : Val w v xs) (hg : Gp xs) (h0 : xs ≠ []) :
    Calls Tryz.prog 101 #[.agg #[v, .string t, .bool d, .string x]] w fun e w' => e = .returned (.string (B (shownS ⟨xs, d, x⟩))) ∧ Below w.heap.size w w' := by
  obtain ⟨p, cap, rfl, hr⟩ := hv
  have hb : Below w.heap.size w (w.alloc (.cells #[.slice p xs.length cap, .string t, .bool d, .string x] 63)) := (Below.refl _ _).alloc (Nat.le_refl _) _
  obtain ⟨b, o, hp, hc⟩ := (hr.below hb).at_
  obtain rfl := hp h0
  have hl := List.length_pos_iff.2 h0
  have hlen := hg.2
  obtain ⟨y, hy⟩ : ∃ y, xs[xs.length - 1]? = some y := ⟨_, List.getElem?_eq_getElem (by omega)⟩
  have hcell := hc (xs.length - 1) y 0 hy
  have hys : (B y).size ≤ 1000 := by
    have := (Vp.name_facts (hg.1 y (List.mem_of_getElem? hy))).2.2.2.1
    have e : (B y).size = y.length := by simp [B, ByteArray.size]
    omega
  have HB := hid_in hb
  have hrow : Row (w.alloc (.cells #[.slice (some ⟨b, o, none⟩) xs.length cap, .string t, .bool d, .string x] 63)) w.heap.size [.slice (some ⟨b, o, none⟩) xs.length cap, .string t, .bool d, .string x] 63 := Row.new w _ 63
  obtain ⟨W, HW⟩ : ∃ W, Hid (w.alloc (.cells #[.slice (some ⟨b, o, none⟩) xs.length cap, .string t, .bool d, .string x] 63) = W) := ⟨_, hid_in rfl⟩
  rw [HW.out] at hrow hcell HB
  obtain ⟨⟨c0, c1, c2, c3⟩, -⟩ := spot_cells hrow (Below.refl _ W)
  have HS : Hid (shownS ⟨xs, d, x⟩ = y ++ if d then [47] else []) := hid_in (by
    unfold shownS
    rw [List.getLast?_eq_getElem?, hy]
    rfl)
  have hlt : (xs.length : Int) - 1 < (xs.length : Int) := by omega
  have hge : ¬ (xs.length : Int) - 1 < 0 := by omega
  have hge2 : 0 ≤ (xs.length : Int) - 1 := by omega
  have hwr : IntKind.i64.wrap ((xs.length : Int) - 1) = (xs.length : Int) - 1 := by rw [IntKind.wrap_i64]; omega
  have hwr2 : wrap64 ((xs.length : Int) - 1) = (xs.length : Int) - 1 := by unfold wrap64; omega
  have hcell2 : W.cell? ⟨b, o + ((xs.length : Int) - 1).toNat, none⟩ = some (.string (B y)) := by
    have e : ((xs.length : Int) - 1).toNat = xs.length - 1 := by omega
    rw [e]
    exact hcell
  have hsum : ¬ (9223372036854775807 < ((B y).size : Int) + 1) := by omega
  have HG := hid_in hg
  clear hy hcell hc hr hp hb hg hlen hl h0
  generalize xs.length = N at *
  obtain ⟨M, HM⟩ : ∃ M, Hid ((N : Int) - 1 = M) := ⟨_, hid_in rfl⟩
  rw [HM.out] at hlt hge hge2 hwr hwr2 hcell2
  have hsub := HM.out
  go_enter Tryz.func101, Tryz.ntmps101
  go_upto_region 1 with fail
  refine wp_world HW.out ?_
  go_upto_region 2 with fail
  cases d with
  | true =>
    go_wp2
    go_ret
    exact ⟨by rw [HS.out, B_app]; rfl, HB.out⟩
  | false =>
    go_wp2
    go_ret
    exact ⟨by rw [HS.out, if_neg (by simp), List.append_nil]; rfl, HB.out⟩
end Go.Proofs.YtngehkmdanhgpaaGreat.Pl
namespace Go.Proofs.YtngehkmdanhgpaaGreat.Nd
open Go.RowKit
def zs : List Value := [.int .i64 0, .string ⟨#[]⟩, .int .i64 0, .slice none 0 0, .slice none 0 0]
end Go.Proofs.YtngehkmdanhgpaaGreat.Nd
namespace Go.Proofs.YtngehkmdanhgpaaGreat.Nd
open Go.RowKit
/-- the word of a kind -/
def wordOf (k : Int) : ByteArray :=
  if k = 1 then ⟨#[109, 107, 100, 105, 114]⟩ else if k = 2 then ⟨#[99, 114, 101, 97, 116, 101]⟩ else if k = 3 then ⟨#[119, 114, 105, 116, 101]⟩ else
  if k = 4 then ⟨#[116, 114, 117, 110, 99, 97, 116, 101]⟩ else if k = 5 then ⟨#[117, 110, 108, 105, 110, 107]⟩ else if k = 6 then ⟨#[114, 109, 100, 105, 114]⟩ else
  if k = 7 then ⟨#[114, 101, 110, 97, 109, 101]⟩ else if k = 8 then ⟨#[114, 101, 97, 100]⟩ else if k = 9 then ⟨#[108, 105, 115, 116]⟩ else
  if k = 10 then ⟨#[115, 116, 97, 116]⟩ else if k = 11 then ⟨#[102, 111, 114, 103, 101, 116]⟩ else ⟨#[]⟩
theorem kinds_split (k : Int) : k = 1 ∨ k = 2 ∨ k = 3 ∨ k = 4 ∨ k = 5 ∨ k = 6 ∨ k = 7 ∨ k = 8 ∨ k = 9 ∨ k = 10 ∨ k = 11 ∨ (k ≠ 1 ∧ k ≠ 2 ∧ k ≠ 3 ∧ k ≠ 4 ∧ k ≠ 5 ∧ k ≠ 6 ∧ k ≠ 7 ∧ k ≠ 8 ∧ k ≠ 9 ∧ k ≠ 10 ∧ k ≠ 11) := by omega
set_option maxHeartbeats 1000000 in
set_option maxRecDepth 100000 in
theorem word_any (k : Int) (w : World) : Calls Tryz.prog 59 #[.int .i64 k] w fun e w' => e = .returned (.string (wordOf k)) ∧ w' = w := by
  rcases kinds_split k with rfl | rfl | rfl | rfl | rfl | rfl | rfl | rfl | rfl | rfl | rfl | ⟨h1, h2, h3, h4, h5, h6, h7, h8, h9, h10, h11⟩
  case inr.inr.inr.inr.inr.inr.inr.inr.inr.inr.inr =>
    have HV : Hid (wordOf k = ⟨#[]⟩) := by show _ = _; simp [wordOf, h1, h2, h3, h4, h5, h6, h7, h8, h9, h10, h11]
    go_enter Tryz.func59, Tryz.ntmps59
    go_wp2
    go_ret
    rw [HV.out]
    exact ⟨rfl, rfl⟩
  all_goals
    go_enter Tryz.func59, Tryz.ntmps59
    go_wp2
    go_ret
    exact ⟨rfl, rfl⟩
/-- does a kind only read? -/
def readsK (k : Int) : Bool := k == 8 || (k == 9 || k == 10)
theorem four_split (k : Int) : k = 8 ∨ k = 9 ∨ k = 10 ∨ (k ≠ 8 ∧ k ≠ 9 ∧ k ≠ 10) := by omega
theorem reads_any (k : Int) (w : World) : Calls Tryz.prog 18 #[.int .i64 k] w fun e w' => e = .returned (.bool (readsK k)) ∧ w' = w := by
  rcases four_split k with rfl | rfl | rfl | ⟨h1, h2, h3⟩
  case inr.inr.inr =>
    have HV : Hid (readsK k = false) := by show _ = _; simp [readsK, h1, h2, h3]
    have k1 : (k == 8) = false := by rw [beq_eq_false_iff_ne]; exact h1
    have k2 : (k == 9) = false := by rw [beq_eq_false_iff_ne]; exact h2
    have k3 : (k == 10) = false := by rw [beq_eq_false_iff_ne]; exact h3
    go_enter Tryz.func18, Tryz.ntmps18
    go_wp2
    go_ret
    rw [HV.out]
    exact ⟨rfl, rfl⟩
  all_goals
    go_enter Tryz.func18, Tryz.ntmps18
    go_wp2
    go_ret
    exact ⟨rfl, rfl⟩
theorem toL_inj {a b : ByteArray} (h : a.toList = b.toList) : a = b := by
  rw [Lib.toList_data, Lib.toList_data] at h
  exact ByteArray.ext (Array.toList_inj.1 h)
end Go.Proofs.YtngehkmdanhgpaaGreat.Nd
