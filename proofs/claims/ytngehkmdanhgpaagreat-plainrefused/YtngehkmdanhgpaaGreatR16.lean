/-
  What lies below a path: the map's entries, in whatever order they come.
-/
import Derived.Maps.Range
import Derived.Deep.RegionLaw
import Derived.Deep.DrawnRows
import Derived.Laws.Tables
import Derived.Lib.SlBytesConst
import Derived.Laws.CopyOwn
import Derived.Lib.AppendZeros
import Derived.Test.YtngehkmdanhgpaaGreatR00
import Derived.Test.YtngehkmdanhgpaaGreatR01
import Derived.Test.YtngehkmdanhgpaaGreatR02
import Derived.Test.YtngehkmdanhgpaaGreatR03
import Derived.Test.YtngehkmdanhgpaaGreatR04
import Derived.Test.YtngehkmdanhgpaaGreatR05
import Derived.Test.YtngehkmdanhgpaaGreatR06
import Derived.Test.YtngehkmdanhgpaaGreatR07
import Derived.Test.YtngehkmdanhgpaaGreatR08
import Derived.Test.YtngehkmdanhgpaaGreatR09
import Derived.Test.YtngehkmdanhgpaaGreatR10
import Derived.Test.YtngehkmdanhgpaaGreatR11
import Derived.Test.YtngehkmdanhgpaaGreatR12
import Derived.Test.YtngehkmdanhgpaaGreatR13
import Derived.Test.YtngehkmdanhgpaaGreatR14
import Derived.Test.YtngehkmdanhgpaaGreatR15
namespace Go.Proofs.YtngehkmdanhgpaaGreat.Pl
open Go.RowKit
open Go.ChangeMaps (setBlock heap_setBlock_same heap_setBlock_other)
open Vp (Str B bl Val cmpL parseS showS splitS withinS IsPath)
open Nd (Row wp_world post_Row post_Row2)
def belowB (xs : List Str) (s : Spot) : Bool := decide (xs.length < s.names.length) && withinS s.names xs
theorem zip_fst {es : List MapEntry} {L : List Spot} (h : es.length = L.length) : (es.zip L).map (·.1) = es := by
  rw [List.map_fst_zip (by omega)]
theorem zip_snd {es : List MapEntry} {L : List Spot} (h : es.length = L.length) : (es.zip L).map (·.2) = L := by
  rw [List.map_snd_zip (by omega)]
/-- all entries have come: in whatever order, they are all -/
theorem done_perm {es : Array MapEntry} {L : List Spot} {done : List (MapEntry × Spot)} (hl : es.toList.length = L.length) (hb : (es.toList.map (·.born)).Nodup) (h1 : (done.map (·.1.born)).Nodup) (h2 : ∀ d ∈ done, d ∈ es.toList.zip L) (h3 : ∀ e ∈ es.toList, e.born ∈ done.map (·.1.born)) : (done.map (·.2)).Perm L := by
  have hz : ((es.toList.zip L).map (·.1.born)).Nodup := by
    have : (es.toList.zip L).map (·.1.born) = ((es.toList.zip L).map (·.1)).map (·.born) := by rw [List.map_map]; rfl
    rw [this, zip_fst hl]; exact hb
  have key : ∀ (l : List (MapEntry × Spot)), (l.map (·.1.born)).Nodup → ∀ a ∈ l, ∀ b ∈ l, a.1.born = b.1.born → a = b := by
    intro l hn a ha b hb2 he
    obtain ⟨i, hi⟩ := List.getElem?_of_mem ha
    obtain ⟨j, hj⟩ := List.getElem?_of_mem hb2
    have h1 := List.pairwise_iff_getElem.1 hn
    obtain ⟨hil, rfl⟩ := List.getElem?_eq_some_iff.1 hi
    obtain ⟨hjl, rfl⟩ := List.getElem?_eq_some_iff.1 hj
    rcases Nat.lt_trichotomy i j with h7 | h7 | h7
    · exact absurd (by rw [List.getElem_map, List.getElem_map]; exact he) (h1 i j (by simpa using hil) (by simpa using hjl) h7)
    · subst h7; rfl
    · exact absurd (by rw [List.getElem_map, List.getElem_map]; exact he.symm) (h1 j i (by simpa using hjl) (by simpa using hil) h7)
  have nd : ∀ (l : List (MapEntry × Spot)), (l.map (·.1.born)).Nodup → l.Nodup := by
    intro l
    induction l with
    | nil => simp
    | cons a r ih =>
      intro h
      simp only [List.map_cons, List.nodup_cons] at h ⊢
      exact ⟨fun hm => h.1 (List.mem_map.2 ⟨a, hm, rfl⟩), ih h.2⟩
  have hp : done.Perm (es.toList.zip L) := by
    rw [List.perm_ext_iff_of_nodup (nd _ h1) (nd _ hz)]
    refine fun a => ⟨h2 a, fun ha => ?_⟩
    have he : a.1 ∈ es.toList := by rw [← zip_fst hl]; exact List.mem_map.2 ⟨a, ha, rfl⟩
    obtain ⟨d, hd, hdb⟩ := List.mem_map.1 (h3 a.1 he)
    rw [← key _ hz d (h2 d hd) a ha hdb]
    exact hd
  have := hp.map (·.2)
  rwa [zip_snd hl] at this
/-- between two rounds -/
structure BL (w : World) (m : Nat) (L : List Spot) (xs : List Str) (es : Array MapEntry) (clock : Nat) (v : Value) (W : World) (done : List (MapEntry × Spot)) : Prop where
  it : ∃ c0, W.heap[w.heap.size]? = some (.mapIter (some m) clock (done.map (·.1.born)).toArray c0) ∧ clock ≤ c0
  nd : (done.map (·.1.born)).Nodup
  sub : ∀ d ∈ done, d ∈ es.toList.zip L
  row : SO W (w.heap.size + 1) v ((done.map (·.2)).filter (belowB xs))
  bel : Below w.heap.size w W
  sz : w.heap.size + 1 ≤ W.heap.size
theorem BL.len {w : World} {m : Nat} {L : List Spot} {xs : List Str} {es : Array MapEntry} {clock : Nat} {v : Value} {W : World} {done : List (MapEntry × Spot)} (h : BL w m L xs es clock v W done) : done.length ≤ L.length := by
  have hs : done.length ≤ (es.toList.zip L).length := by
    have hn : done.Nodup := by
      have := h.nd
      clear h
      induction done with
      | nil => simp
      | cons a r ih =>
        simp only [List.map_cons, List.nodup_cons] at this ⊢
        exact ⟨fun hm => this.1 (List.mem_map.2 ⟨a, hm, rfl⟩), ih this.2⟩
    exact List.Nodup.length_le_of_subset hn h.sub
  have : (es.toList.zip L).length ≤ L.length := by simp; omega
  omega
end Go.Proofs.YtngehkmdanhgpaaGreat.Pl
