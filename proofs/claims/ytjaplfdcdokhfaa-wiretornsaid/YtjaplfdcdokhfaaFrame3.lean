/-
  Slices of bytes that come in as one slice.
-/
import Derived.Test.YtjaplfdcdokhfaaFrame
import Derived.Deep.Matrix
namespace Go.Proofs.Ytjaplfdcdokhfaa
open Go.ChangeShapes Go.WideShapes Go.ChangeAt Go.RowKit Go.Deep

instance : Inhabited Part := ⟨⟨none, [], 0, 0, 0⟩⟩
theorem parts_in {H : Type} {enc : TypeId × Value → H} {W : World} {a : Option Addr} {len cap : Nat} {d : DataW H} {p : List MemPlace} (h : DataW.Trod enc Try.prog W 0 (fun _ => true) true 60 (.slice a len cap) d p) :
    ∃ (ps : List Part) (pb po : Nat), ps.length = len ∧ Parts W pb po ps ∧ (cap = 0 ∨ a = some ⟨pb, po, none⟩) ∧ ps.length ≤ cap ∧ cap ≤ 9223372036854775807 := by
  obtain ⟨fuel, hf⟩ := h
  rcases open_int_rows Try.underlying60 Try.underlying25 Try.underlying5 (by kernel_rfl) (by kernel_rfl) hf with ⟨hcs, hx⟩ | ⟨x, l, c, A, L, C, Z, hcs, _, hl, hm, hx, hr⟩
  · simp [Value.cells] at hcs
    obtain ⟨rfl, rfl, rfl⟩ := hcs
    exact ⟨[], 0, 0, rfl, ⟨fun i x hx => (by simp at hx), fun x hx => (by cases hx), fun x hx => (by cases hx)⟩, .inl rfl, by simp, by omega⟩
  · simp [Value.cells] at hcs
    obtain ⟨rfl, rfl, rfl⟩ := hcs
    clear hx
    have each : ∀ r, r < len → ∃ y : Part, y.p = A r ∧ y.cap = C r ∧ y.bs.length = L r ∧ Sl W y.p y.bs y.cap y.b y.off ∧ (y.p = none → y.bs.length = 0 ∧ y.cap = 0) := by
      intro r hlt
      obtain ⟨_, r1, r2, r3, r4, r5, r6⟩ := hr r (by omega)
      have hrow : IsRow W (A r) (L r) (C r) (Z r) := by
        rcases hA : A r with _ | a'
        · left
          have h0 := r5 hA
          exact ⟨rfl, by omega, h0, List.eq_nil_of_length_eq_zero (by omega)⟩
        · right
          exact ⟨a', rfl, r1, r2, r3, fun i hi => (r6 a' hA).2 i (by omega), r4⟩
      obtain ⟨bs, b, off, hb, hsl⟩ := sl_of hrow
      exact ⟨⟨A r, bs, C r, b, off⟩, rfl, rfl, hb, hsl, fun hn => ⟨by have := r5 hn; simp only; omega, r5 hn⟩⟩
    obtain ⟨y, hy⟩ := choose_lt each
    have hcap : cap ≤ 9223372036854775807 := by unfold maxLen at hm; omega
    obtain ⟨pb, po, hpx⟩ : ∃ pb po, 0 < cap → x = ⟨pb, po, none⟩ := by
      by_cases h0 : 0 < cap
      · have hc := (hr 0 h0).1
        obtain ⟨b', o', sp⟩ := x
        have hspot : sp = none := by simpa [Addr.add] using World.cell?_spot hc
        subst hspot
        exact ⟨b', o', fun _ => rfl⟩
      · exact ⟨0, 0, fun h => absurd h h0⟩
    refine ⟨(List.range len).map y, pb, po, by simp, ⟨?_, ?_, ?_⟩, ?_, by simpa using hl, hcap⟩
    · intro i z hz
      have hi : i < len := by have := (List.getElem?_eq_some_iff.1 hz).1; simpa using this
      simp [hi] at hz
      subst hz
      obtain ⟨e1, e2, e3, _⟩ := hy i hi
      rw [← Addr.add_mid, ← hpx (by omega), (hr i (by omega)).1, Part.val, e1, e2, e3]
    · intro z hz
      simp only [List.mem_map, List.mem_range] at hz
      obtain ⟨i, hi, rfl⟩ := hz
      exact (hy i hi).2.2.2.1
    · intro z hz
      simp only [List.mem_map, List.mem_range] at hz
      obtain ⟨i, hi, rfl⟩ := hz
      exact (hy i hi).2.2.2.2
    · by_cases h0 : 0 < cap
      · exact .inr (by rw [hpx h0])
      · exact .inl (by omega)
end Go.Proofs.Ytjaplfdcdokhfaa
