/-
  What is told of inodes that are a tree.
-/
import Derived.Test.YtglfeocfhlmloaaW40
namespace Go.Proofs.Ytglfeocfhlmloaa.Up
open Go.RowKit
open Vp (Str B Val cmpL showS withinS)
open Nd (Row)
/-- nothing lies below what is no directory -/
theorem none_below {A : List Ent} (h : TreeA A) {e : Ent} (he : e ∈ A) (hk : e.kind ≠ 2) : A.filter (belowE e.names) = [] := by
  refine List.filter_eq_nil_iff.2 fun x hx hb => ?_
  unfold belowE at hb
  simp only [Bool.and_eq_true, decide_eq_true_eq] at hb
  obtain ⟨s, hs⟩ := within_iff.1 hb.2
  cases s with
  | nil => rw [List.append_nil] at hs; have := hb.1; rw [hs] at this; omega
  | cons a r =>
    have h1 := tree_prefix h (e.names ++ [a]) (by simp) r.length x r rfl hx (by rw [hs]; simp)
    cases h2 : entAt A (e.names ++ [a]) with
    | none => rw [h2] at h1; cases h1
    | some y =>
      obtain ⟨h3, h4⟩ := at_some h2
      rcases dir_zero.1 (h.dir y h3) with h5 | ⟨d, h5, h6⟩
      · rw [h4, List.dropLast_concat] at h5
        exact (h.good e he).2.1 h5
      · rw [h4, List.dropLast_concat, at_mem h.nd he] at h5
        obtain rfl := Option.some.inj h5
        exact hk h6
/-- the order is strict -/
theorem strict_at {A es : List Ent} (hT : TreeA A) (ho : OrdA A es) {j : Nat} {a e : Ent} (hj : es[j]? = some a) (hi : es[j + 1]? = some e) : cmpL a.names e.names < 0 := by
  obtain ⟨hjl, rfl⟩ := List.getElem?_eq_some_iff.1 hj
  obtain ⟨hil, rfl⟩ := List.getElem?_eq_some_iff.1 hi
  have h1 := List.pairwise_iff_getElem.1 ho.2 j (j + 1) hjl hil (by omega)
  have hnd : (es.map (·.names)).Nodup := (ho.1.map _).nodup_iff.2 hT.nd
  have h2 := List.pairwise_iff_getElem.1 hnd j (j + 1) (by simpa using hjl) (by simpa using hil) (by omega)
  simp only [List.getElem_map] at h2
  have t := Vp.cmpL_is.turn es[j].names es[j + 1].names
  have t3 := Vp.cmpL_is.three es[j].names es[j + 1].names
  have h0 : cmpL es[j].names es[j + 1].names ≠ 0 := fun hh => h2 ((Vp.cmpL_is.zero _ _).1 hh)
  omega
theorem drop_all (A : List Ent) : A.filter (outE []) = [] := by
  refine List.filter_eq_nil_iff.2 fun x _ hb => ?_
  unfold outE at hb
  simp [withinS] at hb
/-- cells of inodes in memory -/
theorem fls_cells {w : World} {v : Value} {es : List Ent} (h : Fls w v (es.map Ent.fil)) : ∃ p cap b o, v = .slice p es.length cap ∧ es.length ≤ cap ∧ cap ≤ 9223372036854775807 ∧ ∀ W, Below w.heap.size w W → ∀ (i : Nat) e, es[i]? = some e → p = some ⟨b, o, none⟩ ∧ W.cell? ⟨b, o + i * 4, none⟩ = some (.string (B (showS e.names))) ∧ W.cell? ⟨b, o + i * 4 + 1, none⟩ = some (.int .i64 e.kind) ∧ W.cell? ⟨b, o + i * 4 + 2, none⟩ = some (.bool e.opq) ∧ W.cell? ⟨b, o + i * 4 + 3, none⟩ = some (.string e.data) := by
  obtain ⟨p, cap, b, o, hv, h3, h4, h5, h6, _⟩ := h
  rw [List.length_map] at hv h3
  refine ⟨p, cap, b, o, hv, h3, h4, fun W hW i e hi => ?_⟩
  have hne : es.map Ent.fil ≠ [] := by
    intro hh
    rw [List.map_eq_nil_iff] at hh
    rw [hh] at hi
    simp at hi
  obtain ⟨hp, hb⟩ := h5 hne
  have hf : (es.map Ent.fil)[i]? = some e.fil := by rw [List.getElem?_map, hi]; rfl
  have hc : ∀ j u, e.fil.cells[j]? = some u → W.cell? ⟨b, o + i * 4 + j, none⟩ = some u := fun j u hj => by
    rw [hW.cell (p := ⟨b, o + i * 4 + j, none⟩) hb, Nat.add_assoc]
    exact h6 _ _ (fcells_at hf j u hj)
  exact ⟨hp, hc 0 _ rfl, hc 1 _ rfl, hc 2 _ rfl, hc 3 _ rfl⟩
end Go.Proofs.Ytglfeocfhlmloaa.Up
