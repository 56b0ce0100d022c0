/-
  Slices of bytes that come in as one slice, and how many bytes they have together.
-/
import Derived.Test.YtokjbmpiekadaaaDoorFrame2
import Derived.Deep.Matrix
namespace Go.Proofs.YtokjbmpiekadaaaDoor
open Go.ChangeShapes Go.WideShapes Go.ChangeAt Go.RowKit Go.Deep

theorem weights_all {H : Type} {P : Program} {e : TypeId} {x : Nat} {d : DataW H} : ∀ (l : List (DataW H)), d ∈ l → x ∈ d.weights P e → x ∈ DataW.weightsAll P e l
  | [], h, _ => by cases h
  | y :: r, h, hx => by
    simp only [DataW.weightsAll, List.mem_append]
    rcases List.mem_cons.1 h with rfl | h
    · exact .inl hx
    · exact .inr (weights_all r h hx)
theorem row_reach {H : Type} (A : Option Addr) (L : Nat) (Z : List Int) (hn : A = none → L = 0) (hL : L ≤ Z.length) (hw : ∀ x ∈ (intRow (H := H) .u8 A L Z).weights Tryd.prog 30, x ≤ reachBytes) : L ≤ 140737488351232 := by
  cases A with
  | none => rw [hn rfl]; omega
  | some a =>
    have := hw _ (by simp only [intRow, DataW.weights, Tryd.underlying30]; exact List.mem_cons_self ..)
    rw [bytes5] at this
    unfold reachBytes at this
    simp [lits] at this
    omega
instance : Inhabited Part := ⟨⟨none, [], 0, 0, 0⟩⟩
theorem parts_in {H : Type} {enc : TypeId × Value → H} {W : World} {a : Option Addr} {len cap : Nat} {d : DataW H} {p : List MemPlace} (h : DataW.Trod enc Tryd.prog W 0 (fun _ => true) true 31 (.slice a len cap) d p) :
    ∃ (ps : List Part) (pb po : Nat), ps.length = len ∧ Parts W pb po ps ∧ (0 < ps.length → a = some ⟨pb, po, none⟩) ∧ ps.length ≤ 9223372036854775807 ∧ ((∀ x ∈ d.weights Tryd.prog 31, x ≤ reachBytes) → ∀ y ∈ ps, y.bs.length ≤ 140737488351232) := by
  obtain ⟨fuel, hf⟩ := h
  rcases open_int_rows Tryd.underlying31 Tryd.underlying30 Tryd.underlying5 (by kernel_rfl) (by kernel_rfl) hf with ⟨hcs, hx⟩ | ⟨x, l, c, A, L, C, Z, hcs, _, hl, hm, hx, hr⟩
  · simp [Value.cells] at hcs
    obtain ⟨rfl, rfl, rfl⟩ := hcs
    exact ⟨[], 0, 0, rfl, ⟨fun i x hx => (by simp at hx), fun x hx => (by cases hx), fun x hx => (by cases hx)⟩, fun h => (by simp at h), by simp, fun _ y hy => by cases hy⟩
  · simp [Value.cells] at hcs
    obtain ⟨rfl, rfl, rfl⟩ := hcs
    simp only [Prod.mk.injEq] at hx
    obtain ⟨hd, _⟩ := hx
    have each : ∀ r, r < len → ∃ y : Part, y.p = A r ∧ y.cap = C r ∧ y.bs.length = L r ∧ Sl W y.p y.bs y.cap y.b y.off ∧ (y.p = none → y.bs.length = 0 ∧ y.cap = 0) ∧ ((∀ x ∈ (intRow (H := H) .u8 (A r) (L r) (Z r)).weights Tryd.prog 30, x ≤ reachBytes) → y.bs.length ≤ 140737488351232) := by
      intro r hlt
      obtain ⟨_, r1, r2, r3, r4, r5, r6⟩ := hr r (by omega)
      have hrow : IsRow W (A r) (L r) (C r) (Z r) := by
        rcases hA : A r with _ | a'
        · left
          have h0 := r5 hA
          exact ⟨rfl, by omega, h0, List.eq_nil_of_length_eq_zero (by omega)⟩
        · right
          exact ⟨a', rfl, r1, r2, r3, fun i hi => (r6 a' hA).2 i (by omega), r4⟩
      obtain ⟨bs, b, off, hb, hsl⟩ := sl_of hrow
      refine ⟨⟨A r, bs, C r, b, off⟩, rfl, rfl, hb, hsl, fun hn => ⟨by have := r5 hn; simp only; omega, r5 hn⟩, ?_⟩
      intro hw
      simp only
      rw [hb]
      exact row_reach _ _ _ (fun hn => by have := r5 hn; omega) (by omega) hw
    obtain ⟨y, hy⟩ := choose_lt each
    have hcap : cap ≤ 9223372036854775807 := by unfold maxLen at hm; omega
    obtain ⟨pb, po, hpx⟩ : ∃ pb po, 0 < len → x = ⟨pb, po, none⟩ := by
      by_cases h0 : 0 < len
      · have hc := (hr 0 (by omega)).1
        obtain ⟨b', o', sp⟩ := x
        have hspot : sp = none := by simpa [Addr.add] using World.cell?_spot hc
        subst hspot
        exact ⟨b', o', fun _ => rfl⟩
      · exact ⟨0, 0, fun h => absurd h h0⟩
    refine ⟨(List.range len).map y, pb, po, by simp, ⟨?_, ?_, ?_⟩, fun h => ?_, by simp; omega, ?_⟩
    · intro i z hz
      have hi : i < len := by have := (List.getElem?_eq_some_iff.1 hz).1; simpa using this
      simp [hi] at hz
      subst hz
      obtain ⟨e1, e2, e3, _⟩ := hy i hi
      rw [← Addr.add_mid, ← hpx (by omega), (hr i (by omega)).1, e1, e2, e3]
    · intro z hz
      simp only [List.mem_map, List.mem_range] at hz
      obtain ⟨i, hi, rfl⟩ := hz
      exact (hy i hi).2.2.2.1
    · intro z hz
      simp only [List.mem_map, List.mem_range] at hz
      obtain ⟨i, hi, rfl⟩ := hz
      exact (hy i hi).2.2.2.2.1
    · rw [hpx (by simpa using h)]
    · intro hw z hz
      simp only [List.mem_map, List.mem_range] at hz
      obtain ⟨i, hi, rfl⟩ := hz
      refine (hy i hi).2.2.2.2.2 fun x hx => hw x ?_
      rw [hd]
      simp only [DataW.weights, Tryd.underlying31, List.mem_cons, List.mem_append]
      exact .inr (.inl (weights_all _ (List.mem_map.2 ⟨i, by simpa using hi, rfl⟩) hx))
end Go.Proofs.YtokjbmpiekadaaaDoor
