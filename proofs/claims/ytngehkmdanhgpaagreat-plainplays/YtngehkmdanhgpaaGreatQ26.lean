/-
  Plain facts: what is at a path behind moves; lists that hold the same. The paths are a tree: what that gives for a rename there and back. A rename to where nothing was, and back. Renamed there and back, all is as it was. The library's contract of strings.Repeat, laid at this program.
-/
import Derived.Lib.SlBytesConst
import Derived.Laws.CopyOwn
import Derived.Deep.RegionLaw
import Derived.Deep.DrawnRows
import Derived.Lib.AppendZeros
import Derived.Laws.Tables
import Derived.Shelf.Strings.Repeat
import Derived.Test.YtngehkmdanhgpaaGreatRows
import Derived.Test.YtngehkmdanhgpaaGreatQ00
import Derived.Test.YtngehkmdanhgpaaGreatQ01
import Derived.Test.YtngehkmdanhgpaaGreatQ02
import Derived.Test.YtngehkmdanhgpaaGreatQ03
import Derived.Test.YtngehkmdanhgpaaGreatQ04
import Derived.Test.YtngehkmdanhgpaaGreatQ05
import Derived.Test.YtngehkmdanhgpaaGreatQ06
import Derived.Test.YtngehkmdanhgpaaGreatQ07
import Derived.Test.YtngehkmdanhgpaaGreatQ08
import Derived.Test.YtngehkmdanhgpaaGreatQ09
import Derived.Test.YtngehkmdanhgpaaGreatQ10
import Derived.Test.YtngehkmdanhgpaaGreatQ11
import Derived.Test.YtngehkmdanhgpaaGreatQ12
import Derived.Test.YtngehkmdanhgpaaGreatQ13
import Derived.Test.YtngehkmdanhgpaaGreatQ14
import Derived.Test.YtngehkmdanhgpaaGreatQ15
import Derived.Test.YtngehkmdanhgpaaGreatQ16
import Derived.Test.YtngehkmdanhgpaaGreatQ17
import Derived.Test.YtngehkmdanhgpaaGreatQ18
import Derived.Test.YtngehkmdanhgpaaGreatQ19
import Derived.Test.YtngehkmdanhgpaaGreatQ21
import Derived.Test.YtngehkmdanhgpaaGreatQ22
import Derived.Test.YtngehkmdanhgpaaGreatQ23
import Derived.Test.YtngehkmdanhgpaaGreatQ24
import Derived.Test.YtngehkmdanhgpaaGreatQ25
namespace Go.Proofs.YtngehkmdanhgpaaGreat.Pl
open Vp (Str B bl Val cmpL parseS showS splitS withinS IsPath)
theorem at_put : ∀ (A : List Ent) (e : Ent) (n : List Str), entAt (putA A e) n = if n = e.names then some e else entAt A n
  | [], e, n => by
    simp only [putA, entAt, List.find?_cons, List.find?_nil]
    by_cases h : n = e.names
    · simp [h]
    · rw [if_neg h, decide_eq_false (fun x => h x.symm)]
  | t :: r, e, n => by
    have ih := at_put r e n
    unfold entAt at ih ⊢
    simp only [putA]
    by_cases h : t.names = e.names
    · rw [if_pos h, List.find?_cons, List.find?_cons, h]
      by_cases hn : n = e.names
      · simp [hn]
      · rw [if_neg hn, decide_eq_false (fun x => hn x.symm)]
    · rw [if_neg h, List.find?_cons, List.find?_cons]
      by_cases ht : t.names = n
      · have hn : ¬ n = e.names := fun x => h (ht.trans x)
        rw [if_neg hn, decide_eq_true ht]
      · rw [decide_eq_false ht]
        exact ih
theorem at_cut (A : List Ent) (m n : List Str) : entAt (cutA A m) n = if n = m then none else entAt A n := by
  unfold entAt cutA
  rw [List.find?_filter]
  by_cases h : n = m
  · rw [if_pos h, List.find?_eq_none]
    intro e _ he
    simp only [decide_eq_true_eq] at he
    exact he.1 (he.2.trans h)
  · rw [if_neg h]
    congr 1
    funext e
    by_cases he : e.names = n
    · simp [he, h]
    · simp [he]
theorem at_step (p q : List Str) (A : List Ent) (e : Ent) (n : List Str) : entAt (stepA p q A e) n = if n = q ++ e.names.drop p.length then some ⟨n, e.dir, e.data⟩ else if n = e.names then none else entAt A n := by
  unfold stepA
  rw [at_put, at_cut]
  by_cases h : n = q ++ e.names.drop p.length
  · rw [if_pos h, if_pos h, h]
  · rw [if_neg h, if_neg h]
/-- neither lies within the other -/
def Apart (p q : List Str) : Prop := withinS p q = false ∧ withinS q p = false
theorem within_iff {n p : List Str} : withinS n p = true ↔ ∃ s, n = p ++ s := by
  unfold withinS
  rw [decide_eq_true_eq]
  constructor
  · rintro ⟨_, h⟩
    exact ⟨n.drop p.length, by
      conv => lhs; rw [← List.take_append_drop p.length n, h]⟩
  · rintro ⟨s, rfl⟩
    simp
theorem not_both {n p q : List Str} (h : Apart p q) (h1 : withinS n p = true) (h2 : withinS n q = true) : False := by
  obtain ⟨s, rfl⟩ := within_iff.1 h1
  obtain ⟨u, hu⟩ := within_iff.1 h2
  rcases List.append_eq_append_iff.1 hu with ⟨a, rfl, _⟩ | ⟨a, rfl, _⟩
  · have := within_iff.2 ⟨a, (rfl : p ++ a = p ++ a)⟩
    rw [h.2] at this
    cases this
  · have := within_iff.2 ⟨a, (rfl : q ++ a = q ++ a)⟩
    rw [h.1] at this
    cases this
/-- what is at a path behind the moves of some that lie within p -/
theorem at_moves (p q : List Str) (hpq : Apart p q) : ∀ (es : List Ent) (A : List Ent), (∀ e ∈ es, withinS e.names p = true) → (es.map (·.names)).Nodup → ∀ n,
    entAt (movesA p q es A) n = match es.find? (fun e => decide (n = q ++ e.names.drop p.length)) with
      | some e => some ⟨n, e.dir, e.data⟩
      | none => if n ∈ es.map (·.names) then none else entAt A n
  | [], A, _, _, n => by simp [movesA]
  | e :: es, A, hw, hd, n => by
    have hwe := hw e (by simp)
    simp only [List.map_cons, List.nodup_cons] at hd
    have ih := at_moves p q hpq es (stepA p q A e) (fun x hx => hw x (by simp [hx])) hd.2 n
    have hm : movesA p q (e :: es) A = movesA p q es (stepA p q A e) := rfl
    rw [hm, ih, List.find?_cons]
    by_cases h1 : n = q ++ e.names.drop p.length
    · rw [decide_eq_true h1]
      have hno : es.find? (fun x => decide (n = q ++ x.names.drop p.length)) = none := by
        rw [List.find?_eq_none]
        intro x hx hh
        have hh := of_decide_eq_true hh
        rw [h1] at hh
        have h2 := List.append_cancel_left hh
        obtain ⟨s1, e1⟩ := within_iff.1 hwe
        obtain ⟨s2, e2⟩ := within_iff.1 (hw x (by simp [hx]))
        rw [e1, e2] at h2
        simp at h2
        exact hd.1 (List.mem_map.2 ⟨x, hx, by rw [e1, e2, h2]⟩)
      rw [hno]
      have hnn : n ∉ es.map (·.names) := fun hmem => by
        obtain ⟨x, hx, rfl⟩ := List.mem_map.1 hmem
        exact not_both hpq (hw x (by simp [hx])) (within_iff.2 ⟨_, h1⟩)
      simp only
      rw [if_neg hnn, at_step, if_pos h1]
    · rw [decide_eq_false h1]
      cases hf : es.find? (fun x => decide (n = q ++ x.names.drop p.length)) with
      | some x => rfl
      | none =>
        simp only [List.map_cons, List.mem_cons]
        rw [at_step, if_neg h1]
        by_cases h2 : n = e.names
        · simp [h2]
        · by_cases h3 : n ∈ es.map (·.names)
          · simp [h3]
          · simp [h2, h3]
end Go.Proofs.YtngehkmdanhgpaaGreat.Pl
namespace Go.Proofs.YtngehkmdanhgpaaGreat.Pl
open Vp (Str B bl Val cmpL parseS showS splitS withinS IsPath)
/-- the root is a directory, and what is there lies in a directory that is there -/
structure Tree (A : List Ent) : Prop where
  root : ∃ r, entAt A [] = some r ∧ r.dir = true
  up : ∀ n e, entAt A n = some e → n ≠ [] → ∃ d, entAt A n.dropLast = some d ∧ d.dir = true
theorem take_dropLast (xs : List Str) (i : Nat) (h : i + 1 ≤ xs.length) : (xs.take (i + 1)).dropLast = xs.take i := by
  rw [List.dropLast_eq_take, List.take_take, List.length_take]
  congr 1
  omega
theorem Tree.pre {A : List Ent} (h : Tree A) {xs : List Str} {e : Ent} (hx : entAt A xs = some e) : ∀ k, k < xs.length → ∃ d, entAt A (xs.take (xs.length - 1 - k)) = some d ∧ d.dir = true
  | 0, hk => by
    have hn : xs ≠ [] := fun e => by simp [e] at hk
    obtain ⟨d, h1, h2⟩ := h.up xs e hx hn
    rw [List.dropLast_eq_take] at h1
    exact ⟨d, h1, h2⟩
  | k + 1, hk => by
    obtain ⟨d, h1, _⟩ := h.pre hx k (by omega)
    have hn : xs.take (xs.length - 1 - k) ≠ [] := fun e => by
      have := congrArg List.length e
      rw [List.length_take, List.length_nil] at this
      omega
    obtain ⟨d2, h3, h4⟩ := h.up _ d h1 hn
    have e1 : xs.length - 1 - k = (xs.length - 1 - (k + 1)) + 1 := by omega
    rw [e1, take_dropLast _ _ (by omega)] at h3
    exact ⟨d2, h3, h4⟩
theorem Tree.take {A : List Ent} (h : Tree A) {xs : List Str} {e : Ent} (hx : entAt A xs = some e) (i : Nat) (hi : i < xs.length) : ∃ d, entAt A (xs.take i) = some d ∧ d.dir = true := by
  have := h.pre hx (xs.length - 1 - i) (by omega)
  have e1 : xs.length - 1 - (xs.length - 1 - i) = i := by omega
  rw [e1] at this
  exact this
theorem goA_ok {A : List Ent} {xs : List Str} {e : Ent} (hx : entAt A xs = some e) (hd : ∀ i, i < xs.length → ∃ d, entAt A (xs.take i) = some d ∧ d.dir = true) :
    ∀ (k : Nat) (s : Ent), k ≤ xs.length → s.dir = true → goA A s ((inits xs).drop (xs.length - k)) = (e, 0)
  | 0, s, _, hs => by
    rw [Nat.sub_zero, inits_drop (Nat.le_refl _), inits_end, List.take_length]
    simp [goA, hs, hx]
  | k + 1, s, hk, hs => by
    rw [inits_drop (by omega)]
    obtain ⟨d, h1, h2⟩ := hd (xs.length - (k + 1)) (by omega)
    have ih := goA_ok hx hd k d (by omega) h2
    have e1 : xs.length - (k + 1) + 1 = xs.length - k := by omega
    rw [e1]
    simp only [goA, hs, h1]
    rw [ih]
    simp
theorem Tree.find {A : List Ent} (h : Tree A) {xs : List Str} {e : Ent} (hx : entAt A xs = some e) : findA A xs = (e, 0) := by
  have := goA_ok hx (fun i hi => h.take hx i hi) xs.length rootE (Nat.le_refl _) rfl
  rw [Nat.sub_self, List.drop_zero] at this
  exact this
theorem goA_last (A : List Ent) : ∀ (ps : List (List Str)) (s t : Ent) (x : List Str), goA A s (ps ++ [x]) = (t, 0) → entAt A x = some t
  | [], s, t, x, h => by
    simp only [List.nil_append, goA] at h
    split at h
    · cases h
    · split at h
      · cases h
      · rename_i hq
        cases h
        exact hq
  | p :: ps, s, t, x, h => by
    simp only [List.cons_append, goA] at h
    split at h
    · cases h
    · split at h
      · cases h
      · exact goA_last A ps _ t x h
theorem findA_at {A : List Ent} {xs : List Str} (h : (findA A xs).2 = 0) : entAt A xs = some (findA A xs).1 := by
  have h2 : findA A xs = ((findA A xs).1, 0) := by rw [← h]
  revert h2
  generalize (findA A xs).1 = t
  intro h2
  unfold findA inits at h2
  rw [List.range_succ, List.map_append, List.map_cons, List.map_nil, List.take_length] at h2
  exact goA_last A _ _ t xs h2
theorem findDA_at {A : List Ent} {xs : List Str} (h : (findDA A xs).2 = 0) : ∃ d, entAt A xs = some d ∧ d.dir = true := by
  unfold findDA at h
  split at h
  · cases h
  · rename_i hn
    refine ⟨_, findA_at h, ?_⟩
    cases hd : (findA A xs).1.dir with
    | true => rfl
    | false => exact absurd ⟨h, hd⟩ hn
theorem Tree.findD {A : List Ent} (h : Tree A) {xs : List Str} {d : Ent} (hx : entAt A xs = some d) (hd : d.dir = true) : (findDA A xs).2 = 0 := by
  unfold findDA
  rw [h.find hx]
  simp [hd]
/-- nothing lies within what is not there -/
theorem Tree.none {A : List Ent} (h : Tree A) {q : List Str} (hq : entAt A q = none) : ∀ (k : Nat) (s : List Str), s.length = k → entAt A (q ++ s) = none
  | 0, s, hs => by
    rw [List.length_eq_zero_iff.1 hs, List.append_nil]
    exact hq
  | k + 1, s, hs => by
    cases he : entAt A (q ++ s) with
    | none => rfl
    | some e =>
      have hs0 : s ≠ [] := fun e => by simp [e] at hs
      obtain ⟨d, h1, _⟩ := h.up _ e he (by simp [hs0])
      rw [List.dropLast_append_of_ne_nil hs0, h.none hq k s.dropLast (by simp [hs])] at h1
      cases h1
theorem at_names {A : List Ent} {n : List Str} {e : Ent} (h : entAt A n = some e) : e.names = n ∧ e ∈ A :=
  ⟨by have := List.find?_some h; simpa using this, List.mem_of_find?_eq_some h⟩
theorem at_mem : ∀ {A : List Ent}, (A.map (·.names)).Nodup → ∀ {e : Ent}, e ∈ A → entAt A e.names = some e
  | [], _, e, he => by simp at he
  | t :: r, hd, e, he => by
    simp only [List.map_cons, List.nodup_cons] at hd
    unfold entAt
    rw [List.find?_cons]
    rcases List.mem_cons.1 he with rfl | hr
    · simp
    · have hne : t.names ≠ e.names := fun x => hd.1 (List.mem_map.2 ⟨e, hr, x.symm⟩)
      rw [decide_eq_false hne]
      exact at_mem hd.2 hr
/-- lists that hold the same, each name once, are permutations -/
theorem perm_at {A C : List Ent} (ha : (A.map (·.names)).Nodup) (hc : (C.map (·.names)).Nodup) (h : ∀ n, entAt A n = entAt C n) : A.Perm C := by
  refine (List.perm_ext_iff_of_nodup ?_ ?_).2 fun e => ⟨fun he => ?_, fun he => ?_⟩
  · exact (List.pairwise_map.1 ha).imp fun hn x => hn (congrArg _ x)
  · exact (List.pairwise_map.1 hc).imp fun hn x => hn (congrArg _ x)
  · exact (at_names ((h e.names) ▸ at_mem ha he)).2
  · exact (at_names ((h e.names).symm ▸ at_mem hc he)).2
end Go.Proofs.YtngehkmdanhgpaaGreat.Pl
namespace Go.Proofs.YtngehkmdanhgpaaGreat.Pl
open Vp (Str B bl Val cmpL parseS showS splitS withinS IsPath)
def renE (n : List Str) (e : Ent) : Ent := ⟨n, e.dir, e.data⟩
theorem below_iff {p : List Str} {e : Ent} : belowE p e = true ↔ ∃ s, s ≠ [] ∧ e.names = p ++ s := by
  unfold belowE
  rw [Bool.and_eq_true, decide_eq_true_eq, within_iff]
  constructor
  · rintro ⟨h, s, hs⟩
    refine ⟨s, fun e0 => ?_, hs⟩
    rw [hs, e0] at h
    simp at h
  · rintro ⟨s, h0, hs⟩
    refine ⟨?_, s, hs⟩
    rw [hs, List.length_append]
    have := List.length_pos_iff.2 h0
    omega
/-- the names of what is moved -/
theorem moved_names {A es : List Ent} {p : List Str} {x : Ent} (hA : (A.map (·.names)).Nodup) (hx : entAt A p = some x) (hp : es.Perm (A.filter (belowE p))) :
    (∀ e ∈ es ++ [x], e ∈ A ∧ withinS e.names p = true) ∧ ((es ++ [x]).map (·.names)).Nodup ∧ ∀ e ∈ A, withinS e.names p = true → e ∈ es ++ [x] := by
  obtain ⟨hxn, hxm⟩ := at_names hx
  have hmem : ∀ e, e ∈ es ↔ e ∈ A ∧ belowE p e = true := fun e => by rw [hp.mem_iff, List.mem_filter]
  refine ⟨fun e he => ?_, ?_, fun e he hw => ?_⟩
  · rcases List.mem_append.1 he with h | h
    · obtain ⟨h1, h2⟩ := (hmem e).1 h
      obtain ⟨s, _, hs⟩ := below_iff.1 h2
      exact ⟨h1, within_iff.2 ⟨s, hs⟩⟩
    · rw [List.mem_singleton.1 h]
      exact ⟨hxm, within_iff.2 ⟨[], by rw [hxn]; simp⟩⟩
  · rw [List.map_append, List.nodup_append]
    refine ⟨?_, by simp, ?_⟩
    · rw [(hp.map _).nodup_iff]
      exact hA.sublist ((List.filter_sublist).map _)
    · intro a ha b hb hab
      obtain ⟨e, he, rfl⟩ := List.mem_map.1 ha
      simp only [List.map_cons, List.map_nil, List.mem_singleton] at hb
      obtain ⟨s, h0, hs⟩ := below_iff.1 ((hmem e).1 he).2
      rw [hab, hb, hxn] at hs
      exact h0 (List.append_right_eq_self.1 hs.symm)
  · obtain ⟨s, hs⟩ := within_iff.1 hw
    by_cases h0 : s = []
    · have hn : e.names = p := by rw [hs, h0, List.append_nil]
      have h1 := at_mem hA he
      rw [hn, hx] at h1
      cases h1
      simp
    · exact List.mem_append_left _ ((hmem e).2 ⟨he, below_iff.2 ⟨s, h0, hs⟩⟩)
/-- no step makes more of them -/
theorem len_put : ∀ (A : List Ent) (e : Ent), (putA A e).length ≤ A.length + 1
  | [], e => by simp [putA]
  | t :: r, e => by
    simp only [putA]
    split
    · simp
    · have := len_put r e
      simp only [List.length_cons]
      omega
theorem len_step {p q : List Str} {A : List Ent} {e : Ent} (h : (entAt A e.names).isSome = true) : (stepA p q A e).length ≤ A.length := by
  obtain ⟨t, ht⟩ := Option.isSome_iff_exists.1 h
  obtain ⟨hn, hm⟩ := at_names ht
  have h1 : (cutA A e.names).length < A.length := by
    unfold cutA
    rw [List.length_filter_lt_length_iff_exists]
    exact ⟨t, hm, by simp [hn]⟩
  have h2 := len_put (cutA A e.names) ⟨q ++ e.names.drop p.length, e.dir, e.data⟩
  unfold stepA
  omega
theorem len_moves {p q : List Str} : ∀ (es A : List Ent), (es.map (·.names)).Nodup → (∀ e ∈ es, (entAt A e.names).isSome = true) → (movesA p q es A).length ≤ A.length
  | [], A, _, _ => Nat.le_refl _
  | e :: es, A, hd, h => by
    simp only [List.map_cons, List.nodup_cons] at hd
    have hs := len_step (p := p) (q := q) (h e (by simp))
    have ih := len_moves (p := p) (q := q) es (stepA p q A e) hd.2 fun x hx => by
      rw [at_step]
      split
      · rfl
      · rw [if_neg fun hh => hd.1 (List.mem_map.2 ⟨x, hx, hh⟩)]
        exact h x (by simp [hx])
    exact Nat.le_trans ih hs
theorem len_moved {A A' : List Ent} {p q : List Str} (hA : (A.map (·.names)).Nodup) (h : Moved A p q A') : A'.length ≤ A.length := by
  by_cases hc : rnE A p q = 0 ∧ p ≠ q
  · obtain ⟨x, es, hx, hp, e⟩ := h.2 hc
    obtain ⟨h1, h2, _⟩ := moved_names hA hx hp
    rw [e]
    exact len_moves _ A h2 fun e he => by rw [at_mem hA (h1 e he).1]; rfl
  · rw [h.1 (by
      by_cases h0 : rnE A p q = 0
      · exact .inr (Classical.byContradiction fun hh => hc ⟨h0, hh⟩)
      · exact .inl h0)]
    exact Nat.le_refl _
end Go.Proofs.YtngehkmdanhgpaaGreat.Pl
namespace Go.Proofs.YtngehkmdanhgpaaGreat.Pl
open Vp (Str B bl Val cmpL parseS showS splitS withinS IsPath)
theorem mem_putA : ∀ (A : List Ent) (e t : Ent), t ∈ putA A e → t = e ∨ t ∈ A
  | [], e, t, h => by simpa [putA] using h
  | a :: r, e, t, h => by
    simp only [putA] at h
    split at h
    · rcases List.mem_cons.1 h with h | h
      · exact .inl h
      · exact .inr (List.mem_cons_of_mem _ h)
    · rcases List.mem_cons.1 h with h | h
      · exact .inr (by simp [h])
      · rcases mem_putA r e t h with h | h
        · exact .inl h
        · exact .inr (List.mem_cons_of_mem _ h)
theorem nodup_putA : ∀ (A : List Ent) (e : Ent), (A.map (·.names)).Nodup → ((putA A e).map (·.names)).Nodup
  | [], e, _ => by simp [putA]
  | a :: r, e, h => by
    simp only [List.map_cons, List.nodup_cons] at h
    simp only [putA]
    split
    · rename_i he
      simp only [List.map_cons, List.nodup_cons]
      exact ⟨he ▸ h.1, h.2⟩
    · rename_i he
      simp only [List.map_cons, List.nodup_cons]
      refine ⟨fun hm => ?_, nodup_putA r e h.2⟩
      obtain ⟨t, ht, hn⟩ := List.mem_map.1 hm
      rcases mem_putA r e t ht with rfl | ht
      · exact he hn.symm
      · exact h.1 (List.mem_map.2 ⟨t, ht, hn⟩)
theorem nodup_moves {p q : List Str} : ∀ (es A : List Ent), (A.map (·.names)).Nodup → ((movesA p q es A).map (·.names)).Nodup
  | [], _, h => h
  | e :: es, A, h => nodup_moves es (stepA p q A e) (nodup_putA _ _ (h.sublist (List.filter_sublist.map _)))
theorem rn_ok {A : List Ent} {p q : List Str} (h : rnE A p q = 0) : p ≠ [] ∧ q ≠ [] ∧ (∃ x, entAt A p = some x) ∧ (∃ d, entAt A q.dropLast = some d ∧ d.dir = true) ∧ (p ≠ q → withinS q p = false) := by
  unfold rnE at h
  split at h
  · rename_i hn
    exact absurd h hn
  · rename_i hn
    have he : endsE A p q = 0 := Classical.byContradiction hn
    unfold endsE at he
    split at he
    · cases he
    · rename_i h0
      split at he
      · rename_i h1
        exact absurd he h1
      · rename_i h1
        have h1 : (findA A p).2 = 0 := Classical.byContradiction h1
        refine ⟨fun e => h0 (.inl e), fun e => h0 (.inr e), ⟨_, findA_at h1⟩, findDA_at he, fun hpq => ?_⟩
        rw [if_neg hpq] at h
        unfold mvE at h
        split at h
        · cases h
        · rename_i hw
          simpa using hw
theorem tree_moved {A A' : List Ent} {p q : List Str} (hT : Tree A) (hpq : Apart p q) (hp0 : p ≠ []) (hq0 : q ≠ [])
    (hd : ∃ d, entAt A q.dropLast = some d ∧ d.dir = true)
    (h1 : ∀ s, entAt A' (q ++ s) = (entAt A (p ++ s)).map (renE (q ++ s))) (h2 : ∀ s, entAt A' (p ++ s) = none)
    (h3 : ∀ n, withinS n p = false → withinS n q = false → entAt A' n = entAt A n) : Tree A' := by
  have up : ∀ (n p : List Str), withinS n.dropLast p = true → withinS n p = true := fun n p h => by
    obtain ⟨s, hs⟩ := within_iff.1 h
    by_cases hn : n = []
    · rw [hn] at h ⊢
      exact h
    · exact within_iff.2 ⟨s ++ [n.getLast hn], by rw [← List.append_assoc, ← hs, List.dropLast_concat_getLast]⟩
  have self : ∀ n : List Str, n ≠ [] → withinS n.dropLast n = false := fun n hn => by
    cases h : withinS n.dropLast n with
    | false => rfl
    | true =>
      obtain ⟨s, hs⟩ := within_iff.1 h
      have := congrArg List.length hs
      have h0 := List.length_pos_iff.2 hn
      simp only [List.length_dropLast, List.length_append] at this
      omega
  have nf : ∀ {n p : List Str}, withinS n p = false → withinS n.dropLast p = false := fun {n p} h => by
    cases hc : withinS n.dropLast p with
    | false => rfl
    | true =>
      rw [up n p hc] at h
      cases h
  have nilF : ∀ p : List Str, p ≠ [] → withinS [] p = false := fun p hp => by
    cases h : withinS [] p with
    | false => rfl
    | true =>
      obtain ⟨s, hs⟩ := within_iff.1 h
      exact absurd (List.append_eq_nil_iff.1 hs.symm).1 hp
  refine ⟨?_, fun n e he hn => ?_⟩
  · rw [h3 [] (nilF p hp0) (nilF q hq0)]
    exact hT.root
  · by_cases hq : withinS n q = true
    · obtain ⟨s, rfl⟩ := within_iff.1 hq
      by_cases hs : s = []
      · rw [hs, List.append_nil]
        rw [h3 q.dropLast (nf hpq.2) (self q hq0)]
        exact hd
      · rw [List.dropLast_append_of_ne_nil hs, h1]
        rw [h1] at he
        obtain ⟨t, ht, _⟩ := Option.map_eq_some_iff.1 he
        obtain ⟨d, hd1, hd2⟩ := hT.up _ t ht (by simp [hs])
        rw [List.dropLast_append_of_ne_nil hs] at hd1
        rw [hd1]
        exact ⟨_, rfl, hd2⟩
    · have hq := Bool.eq_false_iff.2 hq
      by_cases hp : withinS n p = true
      · obtain ⟨s, rfl⟩ := within_iff.1 hp
        rw [h2] at he
        cases he
      · have hp := Bool.eq_false_iff.2 hp
        rw [h3 n hp hq] at he
        rw [h3 _ (nf hp) (nf hq)]
        exact hT.up n e he hn
end Go.Proofs.YtngehkmdanhgpaaGreat.Pl
namespace Go.Proofs
open Go.Shelf
def Tryz.lays105_ren : Go.Shelf.Ren := ⟨fun | 105 => 94 | 212 => 123 | 99 => 124 | 165 => 118 | 166 => 119 | 170 => 125 | 169 => 120 | 263 => 138 | 264 => 139 | 206 => 140 | 240 => 135 | 241 => 136 | 276 => 145 | 277 => 146 | n => n, fun | 9 => 9 | 3 => 3 | 4 => 4 | 20 => 20 | 0 => 0 | 46 => 102 | 109 => 149 | 5 => 5 | 72 => 142 | 76 => 146 | 51 => 133 | 146 => 163 | 53 => 135 | 148 => 165 | 70 => 139 | 37 => 140 | 75 => 145 | 127 => 162 | 164 => 171 | 80 => 148 | n => n, fun | n => n⟩
theorem Tryz.lays105 : Go.Proofs.Lays.n105 Tryz.prog Tryz.lays105_ren := {
  mixed := by kernel_rfl
  f99 := Tryz.func124.trans (congrArg some (by kernel_rfl))
  f105 := Tryz.func94.trans (congrArg some (by kernel_rfl))
  f165 := Tryz.func118.trans (congrArg some (by kernel_rfl))
  f166 := Tryz.func119.trans (congrArg some (by kernel_rfl))
  f169 := Tryz.func120.trans (congrArg some (by kernel_rfl))
  f170 := Tryz.func125.trans (congrArg some (by kernel_rfl))
  f206 := Tryz.func140.trans (congrArg some (by kernel_rfl))
  f212 := Tryz.func123.trans (congrArg some (by kernel_rfl))
  f240 := Tryz.func135.trans (congrArg some (by kernel_rfl))
  f241 := Tryz.func136.trans (congrArg some (by kernel_rfl))
  f263 := Tryz.func138.trans (congrArg some (by kernel_rfl))
  f264 := Tryz.func139.trans (congrArg some (by kernel_rfl))
  f276 := Tryz.func145.trans (congrArg some (by kernel_rfl))
  f277 := Tryz.func146.trans (congrArg some (by kernel_rfl))
  t0 := Tryz.underlying0
  a0 := Tryz.isAgg0
  z0 := Tryz.sizeOf0
  v0 := Tryz.zeroValue0
  t3 := Tryz.underlying3
  a3 := Tryz.isAgg3
  z3 := Tryz.sizeOf3
  v3 := Tryz.zeroValue3
  t4 := Tryz.underlying4
  a4 := Tryz.isAgg4
  z4 := Tryz.sizeOf4
  v4 := Tryz.zeroValue4
  t5 := Tryz.underlying5
  a5 := Tryz.isAgg5
  z5 := Tryz.sizeOf5
  v5 := Tryz.zeroValue5
  t9 := Tryz.underlying9
  a9 := Tryz.isAgg9
  z9 := Tryz.sizeOf9
  v9 := Tryz.zeroValue9
  t20 := Tryz.underlying20
  a20 := Tryz.isAgg20
  z20 := Tryz.sizeOf20
  v20 := Tryz.zeroValue20
  t37 := Tryz.underlying140
  a37 := Tryz.isAgg140
  z37 := Tryz.sizeOf140
  v37 := Tryz.zeroValue140
  t46 := Tryz.underlying102
  a46 := Tryz.isAgg102
  z46 := Tryz.sizeOf102
  v46 := Tryz.zeroValue102
  t51 := Tryz.underlying133
  a51 := Tryz.isAgg133
  z51 := Tryz.sizeOf133
  v51 := Tryz.zeroValue133
  t53 := Tryz.underlying135
  a53 := Tryz.isAgg135
  z53 := Tryz.sizeOf135
  v53 := Tryz.zeroValue135
  t70 := Tryz.underlying139
  a70 := Tryz.isAgg139
  z70 := Tryz.sizeOf139
  v70 := Tryz.zeroValue139
  t72 := Tryz.underlying142
  a72 := Tryz.isAgg142
  z72 := Tryz.sizeOf142
  v72 := Tryz.zeroValue142
  t75 := Tryz.underlying145
  a75 := Tryz.isAgg145
  z75 := Tryz.sizeOf145
  v75 := Tryz.zeroValue145
  t76 := Tryz.underlying146
  a76 := Tryz.isAgg146
  z76 := Tryz.sizeOf146
  v76 := Tryz.zeroValue146
  t109 := Tryz.underlying149
  a109 := Tryz.isAgg149
  z109 := Tryz.sizeOf149
  v109 := Tryz.zeroValue149
  t127 := Tryz.underlying162
  a127 := Tryz.isAgg162
  z127 := Tryz.sizeOf162
  v127 := Tryz.zeroValue162
  t146 := Tryz.underlying163
  a146 := Tryz.isAgg163
  z146 := Tryz.sizeOf163
  v146 := Tryz.zeroValue163
  t148 := Tryz.underlying165
  a148 := Tryz.isAgg165
  z148 := Tryz.sizeOf165
  v148 := Tryz.zeroValue165
  t164 := Tryz.underlying171
  a164 := Tryz.isAgg171
  z164 := Tryz.sizeOf171
  v164 := Tryz.zeroValue171 }
theorem Tryz.Builder_Extra_105 : Builder.Extra Tryz.prog Tryz.lays105_ren := {
  sizeBuilder := by kernel_rfl
  liesBuilder := by kernel_rfl
  t5 := Tryz.underlying5
  a5 := Tryz.isAgg5
  z5 := Tryz.sizeOf5
  v5 := Tryz.zeroValue5
  infoByte := by kernel_rfl
  cellsByte := by kernel_rfl
  sizeByte := by kernel_rfl
  neB5 := by decide }
open Go.RowKit Go.Lib in
theorem Tryz.strings_Repeat (s : ByteArray) (c : Nat) (w : World) (hc : c ≤ 9223372036854775807) (hlen : s.size * c ≤ 140737488355328) :
    Calls Tryz.prog 94 #[.string s, .int .i64 c] w fun e w' => e = .returned (.string ⟨(Lib.repeatL s.data.toList c).toArray⟩) ∧ Below w.heap.size w w' := Any.strings_Repeat Tryz.lays105 Tryz.Builder_Extra_105 s c w hc hlen
end Go.Proofs
