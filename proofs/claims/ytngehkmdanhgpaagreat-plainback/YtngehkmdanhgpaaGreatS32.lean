/-
  The paths are a tree: what that gives for a rename there and back. A rename to where nothing was, and back.
-/
import Derived.Lib.SlBytesConst
import Derived.Lib.AppendZeros
import Derived.Deep.DrawnRows
import Derived.Laws.Tables
import Derived.Laws.CopyOwn
import Derived.Deep.RegionLaw
import Derived.Test.YtngehkmdanhgpaaGreatS00
import Derived.Test.YtngehkmdanhgpaaGreatS01
import Derived.Test.YtngehkmdanhgpaaGreatS02
import Derived.Test.YtngehkmdanhgpaaGreatS03
import Derived.Test.YtngehkmdanhgpaaGreatS04
import Derived.Test.YtngehkmdanhgpaaGreatS05
import Derived.Test.YtngehkmdanhgpaaGreatS06
import Derived.Test.YtngehkmdanhgpaaGreatS07
import Derived.Test.YtngehkmdanhgpaaGreatS08
import Derived.Test.YtngehkmdanhgpaaGreatS09
import Derived.Test.YtngehkmdanhgpaaGreatS10
import Derived.Test.YtngehkmdanhgpaaGreatS11
import Derived.Test.YtngehkmdanhgpaaGreatS12
import Derived.Test.YtngehkmdanhgpaaGreatS13
import Derived.Test.YtngehkmdanhgpaaGreatS14
import Derived.Test.YtngehkmdanhgpaaGreatS15
import Derived.Test.YtngehkmdanhgpaaGreatS16
import Derived.Test.YtngehkmdanhgpaaGreatS17
import Derived.Test.YtngehkmdanhgpaaGreatS18
import Derived.Test.YtngehkmdanhgpaaGreatS19
import Derived.Test.YtngehkmdanhgpaaGreatS20
import Derived.Test.YtngehkmdanhgpaaGreatS21
import Derived.Test.YtngehkmdanhgpaaGreatS22
import Derived.Test.YtngehkmdanhgpaaGreatS23
import Derived.Test.YtngehkmdanhgpaaGreatS24
import Derived.Test.YtngehkmdanhgpaaGreatS25
import Derived.Test.YtngehkmdanhgpaaGreatS26
import Derived.Test.YtngehkmdanhgpaaGreatS27
import Derived.Test.YtngehkmdanhgpaaGreatS28
import Derived.Test.YtngehkmdanhgpaaGreatS29
import Derived.Test.YtngehkmdanhgpaaGreatS30
import Derived.Test.YtngehkmdanhgpaaGreatS31
namespace Go.Proofs.YtngehkmdanhgpaaGreat.Pl
open Vp (Str B bl Val cmpL parseS showS splitS withinS IsPath)
/-- the root is a directory, and what is there lies in a directory that is there -/
structure Tree (A : List Ent) : Prop where
  root : ∃ r, entAt A [] = some r ∧ r.dir = true
  up : ∀ n e, entAt A n = some e → n ≠ [] → ∃ d, entAt A n.dropLast = some d ∧ d.dir = true
theorem take_dropLast (xs : List Str) (i : Nat) (h : i + 1 ≤ xs.length) : (xs.take (i + 1)).dropLast = xs.take i := by
  rw [List.dropLast_eq_take, List.take_take, List.length_take]
  congr 1
  omega
theorem Tree.pre {A : List Ent} (h : Tree A) {xs : List Str} {e : Ent} (hx : entAt A xs = some e) : ∀ k, k < xs.length → ∃ d, entAt A (xs.take (xs.length - 1 - k)) = some d ∧ d.dir = true
  | 0, hk => by
    have hn : xs ≠ [] := fun e => by simp [e] at hk
    obtain ⟨d, h1, h2⟩ := h.up xs e hx hn
    rw [List.dropLast_eq_take] at h1
    exact ⟨d, h1, h2⟩
  | k + 1, hk => by
    obtain ⟨d, h1, _⟩ := h.pre hx k (by omega)
    have hn : xs.take (xs.length - 1 - k) ≠ [] := fun e => by
      have := congrArg List.length e
      rw [List.length_take, List.length_nil] at this
      omega
    obtain ⟨d2, h3, h4⟩ := h.up _ d h1 hn
    have e1 : xs.length - 1 - k = (xs.length - 1 - (k + 1)) + 1 := by omega
    rw [e1, take_dropLast _ _ (by omega)] at h3
    exact ⟨d2, h3, h4⟩
theorem Tree.take {A : List Ent} (h : Tree A) {xs : List Str} {e : Ent} (hx : entAt A xs = some e) (i : Nat) (hi : i < xs.length) : ∃ d, entAt A (xs.take i) = some d ∧ d.dir = true := by
  have := h.pre hx (xs.length - 1 - i) (by omega)
  have e1 : xs.length - 1 - (xs.length - 1 - i) = i := by omega
  rw [e1] at this
  exact this
theorem goA_ok {A : List Ent} {xs : List Str} {e : Ent} (hx : entAt A xs = some e) (hd : ∀ i, i < xs.length → ∃ d, entAt A (xs.take i) = some d ∧ d.dir = true) :
    ∀ (k : Nat) (s : Ent), k ≤ xs.length → s.dir = true → goA A s ((inits xs).drop (xs.length - k)) = (e, 0)
  | 0, s, _, hs => by
    rw [Nat.sub_zero, inits_drop (Nat.le_refl _), inits_end, List.take_length]
    simp [goA, hs, hx]
  | k + 1, s, hk, hs => by
    rw [inits_drop (by omega)]
    obtain ⟨d, h1, h2⟩ := hd (xs.length - (k + 1)) (by omega)
    have ih := goA_ok hx hd k d (by omega) h2
    have e1 : xs.length - (k + 1) + 1 = xs.length - k := by omega
    rw [e1]
    simp only [goA, hs, h1]
    rw [ih]
    simp
theorem Tree.find {A : List Ent} (h : Tree A) {xs : List Str} {e : Ent} (hx : entAt A xs = some e) : findA A xs = (e, 0) := by
  have := goA_ok hx (fun i hi => h.take hx i hi) xs.length rootE (Nat.le_refl _) rfl
  rw [Nat.sub_self, List.drop_zero] at this
  exact this
theorem goA_last (A : List Ent) : ∀ (ps : List (List Str)) (s t : Ent) (x : List Str), goA A s (ps ++ [x]) = (t, 0) → entAt A x = some t
  | [], s, t, x, h => by
    simp only [List.nil_append, goA] at h
    split at h
    · cases h
    · split at h
      · cases h
      · rename_i hq
        cases h
        exact hq
  | p :: ps, s, t, x, h => by
    simp only [List.cons_append, goA] at h
    split at h
    · cases h
    · split at h
      · cases h
      · exact goA_last A ps _ t x h
theorem findA_at {A : List Ent} {xs : List Str} (h : (findA A xs).2 = 0) : entAt A xs = some (findA A xs).1 := by
  have h2 : findA A xs = ((findA A xs).1, 0) := by rw [← h]
  revert h2
  generalize (findA A xs).1 = t
  intro h2
  unfold findA inits at h2
  rw [List.range_succ, List.map_append, List.map_cons, List.map_nil, List.take_length] at h2
  exact goA_last A _ _ t xs h2
theorem findDA_at {A : List Ent} {xs : List Str} (h : (findDA A xs).2 = 0) : ∃ d, entAt A xs = some d ∧ d.dir = true := by
  unfold findDA at h
  split at h
  · cases h
  · rename_i hn
    refine ⟨_, findA_at h, ?_⟩
    cases hd : (findA A xs).1.dir with
    | true => rfl
    | false => exact absurd ⟨h, hd⟩ hn
theorem Tree.findD {A : List Ent} (h : Tree A) {xs : List Str} {d : Ent} (hx : entAt A xs = some d) (hd : d.dir = true) : (findDA A xs).2 = 0 := by
  unfold findDA
  rw [h.find hx]
  simp [hd]
/-- nothing lies within what is not there -/
theorem Tree.none {A : List Ent} (h : Tree A) {q : List Str} (hq : entAt A q = none) : ∀ (k : Nat) (s : List Str), s.length = k → entAt A (q ++ s) = none
  | 0, s, hs => by
    rw [List.length_eq_zero_iff.1 hs, List.append_nil]
    exact hq
  | k + 1, s, hs => by
    cases he : entAt A (q ++ s) with
    | none => rfl
    | some e =>
      have hs0 : s ≠ [] := fun e => by simp [e] at hs
      obtain ⟨d, h1, _⟩ := h.up _ e he (by simp [hs0])
      rw [List.dropLast_append_of_ne_nil hs0, h.none hq k s.dropLast (by simp [hs])] at h1
      cases h1
theorem at_names {A : List Ent} {n : List Str} {e : Ent} (h : entAt A n = some e) : e.names = n ∧ e ∈ A :=
  ⟨by have := List.find?_some h; simpa using this, List.mem_of_find?_eq_some h⟩
theorem at_mem : ∀ {A : List Ent}, (A.map (·.names)).Nodup → ∀ {e : Ent}, e ∈ A → entAt A e.names = some e
  | [], _, e, he => by simp at he
  | t :: r, hd, e, he => by
    simp only [List.map_cons, List.nodup_cons] at hd
    unfold entAt
    rw [List.find?_cons]
    rcases List.mem_cons.1 he with rfl | hr
    · simp
    · have hne : t.names ≠ e.names := fun x => hd.1 (List.mem_map.2 ⟨e, hr, x.symm⟩)
      rw [decide_eq_false hne]
      exact at_mem hd.2 hr
/-- lists that hold the same, each name once, are permutations -/
theorem perm_at {A C : List Ent} (ha : (A.map (·.names)).Nodup) (hc : (C.map (·.names)).Nodup) (h : ∀ n, entAt A n = entAt C n) : A.Perm C := by
  refine (List.perm_ext_iff_of_nodup ?_ ?_).2 fun e => ⟨fun he => ?_, fun he => ?_⟩
  · exact (List.pairwise_map.1 ha).imp fun hn x => hn (congrArg _ x)
  · exact (List.pairwise_map.1 hc).imp fun hn x => hn (congrArg _ x)
  · exact (at_names ((h e.names) ▸ at_mem ha he)).2
  · exact (at_names ((h e.names).symm ▸ at_mem hc he)).2
end Go.Proofs.YtngehkmdanhgpaaGreat.Pl
namespace Go.Proofs.YtngehkmdanhgpaaGreat.Pl
open Vp (Str B bl Val cmpL parseS showS splitS withinS IsPath)
def renE (n : List Str) (e : Ent) : Ent := ⟨n, e.dir, e.data⟩
theorem below_iff {p : List Str} {e : Ent} : belowE p e = true ↔ ∃ s, s ≠ [] ∧ e.names = p ++ s := by
  unfold belowE
  rw [Bool.and_eq_true, decide_eq_true_eq, within_iff]
  constructor
  · rintro ⟨h, s, hs⟩
    refine ⟨s, fun e0 => ?_, hs⟩
    rw [hs, e0] at h
    simp at h
  · rintro ⟨s, h0, hs⟩
    refine ⟨?_, s, hs⟩
    rw [hs, List.length_append]
    have := List.length_pos_iff.2 h0
    omega
/-- the names of what is moved -/
theorem moved_names {A es : List Ent} {p : List Str} {x : Ent} (hA : (A.map (·.names)).Nodup) (hx : entAt A p = some x) (hp : es.Perm (A.filter (belowE p))) :
    (∀ e ∈ es ++ [x], e ∈ A ∧ withinS e.names p = true) ∧ ((es ++ [x]).map (·.names)).Nodup ∧ ∀ e ∈ A, withinS e.names p = true → e ∈ es ++ [x] := by
  obtain ⟨hxn, hxm⟩ := at_names hx
  have hmem : ∀ e, e ∈ es ↔ e ∈ A ∧ belowE p e = true := fun e => by rw [hp.mem_iff, List.mem_filter]
  refine ⟨fun e he => ?_, ?_, fun e he hw => ?_⟩
  · rcases List.mem_append.1 he with h | h
    · obtain ⟨h1, h2⟩ := (hmem e).1 h
      obtain ⟨s, _, hs⟩ := below_iff.1 h2
      exact ⟨h1, within_iff.2 ⟨s, hs⟩⟩
    · rw [List.mem_singleton.1 h]
      exact ⟨hxm, within_iff.2 ⟨[], by rw [hxn]; simp⟩⟩
  · rw [List.map_append, List.nodup_append]
    refine ⟨?_, by simp, ?_⟩
    · rw [(hp.map _).nodup_iff]
      exact hA.sublist ((List.filter_sublist).map _)
    · intro a ha b hb hab
      obtain ⟨e, he, rfl⟩ := List.mem_map.1 ha
      simp only [List.map_cons, List.map_nil, List.mem_singleton] at hb
      obtain ⟨s, h0, hs⟩ := below_iff.1 ((hmem e).1 he).2
      rw [hab, hb, hxn] at hs
      exact h0 (List.append_right_eq_self.1 hs.symm)
  · obtain ⟨s, hs⟩ := within_iff.1 hw
    by_cases h0 : s = []
    · have hn : e.names = p := by rw [hs, h0, List.append_nil]
      have h1 := at_mem hA he
      rw [hn, hx] at h1
      cases h1
      simp
    · exact List.mem_append_left _ ((hmem e).2 ⟨he, below_iff.2 ⟨s, h0, hs⟩⟩)
/-- what is where behind a rename -/
theorem at_moved {A es : List Ent} {p q : List Str} {x : Ent} (hA : (A.map (·.names)).Nodup) (hx : entAt A p = some x) (hp : es.Perm (A.filter (belowE p))) (hpq : Apart p q) (hq : ∀ s, entAt A (q ++ s) = none) :
    (∀ s, entAt (movesA p q (es ++ [x]) A) (q ++ s) = (entAt A (p ++ s)).map (renE (q ++ s))) ∧ (∀ s, entAt (movesA p q (es ++ [x]) A) (p ++ s) = none) ∧
      ∀ n, withinS n p = false → withinS n q = false → entAt (movesA p q (es ++ [x]) A) n = entAt A n := by
  obtain ⟨h1, h2, h3⟩ := moved_names hA hx hp
  have H := at_moves p q hpq (es ++ [x]) A (fun e he => (h1 e he).2) h2
  revert H h1 h2 h3
  generalize es ++ [x] = fs
  intro h1 h2 h3 H
  refine ⟨fun s => ?_, fun s => ?_, fun n hn1 hn2 => ?_⟩
  · rw [H]
    have hf : (fs.find? (fun e => decide (q ++ s = q ++ e.names.drop p.length))) = entAt A (p ++ s) := by
      cases hf : fs.find? (fun e => decide (q ++ s = q ++ e.names.drop p.length)) with
      | some e =>
        have he := List.mem_of_find?_eq_some hf
        have hs0 := List.find?_some hf
        have hs := List.append_cancel_left (of_decide_eq_true hs0)
        obtain ⟨u, hu⟩ := within_iff.1 (h1 e he).2
        rw [hu, List.drop_left] at hs
        rw [hs, ← hu]
        exact (at_mem hA (h1 e he).1).symm
      | none =>
        cases hc : entAt A (p ++ s) with
        | none => rfl
        | some e =>
          obtain ⟨hn, hm⟩ := at_names hc
          have he := h3 e hm (within_iff.2 ⟨s, hn⟩)
          have := List.find?_eq_none.1 hf e he
          rw [hn, List.drop_left] at this
          simp at this
    rw [hf]
    cases hc : entAt A (p ++ s) with
    | some e => rfl
    | none =>
      simp only [Option.map_none]
      split
      · rfl
      · exact hq s
  · rw [H]
    have hf : (fs.find? (fun e => decide (p ++ s = q ++ e.names.drop p.length))) = none := by
      rw [List.find?_eq_none]
      intro e _ he
      exact not_both hpq (within_iff.2 ⟨s, rfl⟩) (within_iff.2 ⟨_, of_decide_eq_true he⟩)
    rw [hf]
    simp only
    split
    · rfl
    · rename_i hn
      cases hc : entAt A (p ++ s) with
      | none => rfl
      | some e =>
        obtain ⟨hn2, hm⟩ := at_names hc
        exact absurd (List.mem_map.2 ⟨e, h3 e hm (within_iff.2 ⟨s, hn2⟩), hn2⟩) hn
  · rw [H]
    have hf : (fs.find? (fun e => decide (n = q ++ e.names.drop p.length))) = none := by
      rw [List.find?_eq_none]
      intro e _ he
      rw [within_iff.2 ⟨_, of_decide_eq_true he⟩] at hn2
      cases hn2
    rw [hf]
    simp only
    rw [if_neg]
    intro hm
    obtain ⟨e, he, rfl⟩ := List.mem_map.1 hm
    rw [(h1 e he).2] at hn1
    cases hn1
/-- no step makes more of them -/
theorem len_put : ∀ (A : List Ent) (e : Ent), (putA A e).length ≤ A.length + 1
  | [], e => by simp [putA]
  | t :: r, e => by
    simp only [putA]
    split
    · simp
    · have := len_put r e
      simp only [List.length_cons]
      omega
theorem len_step {p q : List Str} {A : List Ent} {e : Ent} (h : (entAt A e.names).isSome = true) : (stepA p q A e).length ≤ A.length := by
  obtain ⟨t, ht⟩ := Option.isSome_iff_exists.1 h
  obtain ⟨hn, hm⟩ := at_names ht
  have h1 : (cutA A e.names).length < A.length := by
    unfold cutA
    rw [List.length_filter_lt_length_iff_exists]
    exact ⟨t, hm, by simp [hn]⟩
  have h2 := len_put (cutA A e.names) ⟨q ++ e.names.drop p.length, e.dir, e.data⟩
  unfold stepA
  omega
theorem len_moves {p q : List Str} : ∀ (es A : List Ent), (es.map (·.names)).Nodup → (∀ e ∈ es, (entAt A e.names).isSome = true) → (movesA p q es A).length ≤ A.length
  | [], A, _, _ => Nat.le_refl _
  | e :: es, A, hd, h => by
    simp only [List.map_cons, List.nodup_cons] at hd
    have hs := len_step (p := p) (q := q) (h e (by simp))
    have ih := len_moves (p := p) (q := q) es (stepA p q A e) hd.2 fun x hx => by
      rw [at_step]
      split
      · rfl
      · rw [if_neg fun hh => hd.1 (List.mem_map.2 ⟨x, hx, hh⟩)]
        exact h x (by simp [hx])
    exact Nat.le_trans ih hs
theorem len_moved {A A' : List Ent} {p q : List Str} (hA : (A.map (·.names)).Nodup) (h : Moved A p q A') : A'.length ≤ A.length := by
  by_cases hc : rnE A p q = 0 ∧ p ≠ q
  · obtain ⟨x, es, hx, hp, e⟩ := h.2 hc
    obtain ⟨h1, h2, _⟩ := moved_names hA hx hp
    rw [e]
    exact len_moves _ A h2 fun e he => by rw [at_mem hA (h1 e he).1]; rfl
  · rw [h.1 (by
      by_cases h0 : rnE A p q = 0
      · exact .inr (Classical.byContradiction fun hh => hc ⟨h0, hh⟩)
      · exact .inl h0)]
    exact Nat.le_refl _
end Go.Proofs.YtngehkmdanhgpaaGreat.Pl
