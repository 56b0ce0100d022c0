/-
  Slices of bytes that come in as one slice, and how many bytes they have together.
-/
import Derived.Test.YtmjccokocklgiaaDoorFrame2
import Derived.Test.YtmjccokocklgiaaDoorL2
import Derived.Deep.Matrix
namespace Go.Proofs.YtmjccokocklgiaaDoor
open Go.ChangeShapes Go.WideShapes Go.ChangeAt Go.RowKit Go.Deep

theorem bulk_one {H : Type} (d : DataW H) : 1 ≤ Rows.uptoBulk d := by
  cases d with
  | lit l => cases l <;> simp [Rows.uptoBulk]
  | nil => simp [Rows.uptoBulk]
  | ptr d => simp [Rows.uptoBulk]
  | slice elems spare => simp [Rows.uptoBulk]
  | agg parts => simp [Rows.uptoBulk]
  | iface t d => simp [Rows.uptoBulk]
  | map entries => simp [Rows.uptoBulk]
  | held h => simp [Rows.uptoBulk]
theorem bulk_length {H : Type} (l : List (DataW H)) : l.length ≤ Rows.uptoBulkAll l := by
  induction l with
  | nil => simp [Rows.uptoBulkAll]
  | cons x r ih => have := bulk_one x; simp only [Rows.uptoBulkAll, List.length_cons]; omega
theorem bulk_row {H : Type} (A : Option Addr) (L : Nat) (Z : List Int) (hn : A = none → L = 0) (hL : L ≤ Z.length) : L ≤ Rows.uptoBulk (intRow (H := H) .u8 A L Z) := by
  cases A with
  | none => rw [hn rfl]; omega
  | some a =>
    have := bulk_length (lits (H := H) .u8 (Z.take L))
    simp only [intRow, Rows.uptoBulk]
    simp [lits] at this ⊢
    omega
theorem bulk_rows {H : Type} (xs : List Nat) (D : Nat → DataW H) (ps : Nat → Part) (h : ∀ r ∈ xs, (ps r).bs.length ≤ Rows.uptoBulk (D r)) : (bytesOf (xs.map ps)).length ≤ Rows.uptoBulkAll (xs.map D) := by
  induction xs with
  | nil => simp [bytesOf]
  | cons x r ih =>
    have h1 := h x (by simp)
    have h2 := ih (fun y hy => h y (by simp [hy]))
    simp only [List.map_cons, Rows.uptoBulkAll, bytesOf, List.flatMap_cons, List.length_append] at h2 ⊢
    omega
instance : Inhabited Part := ⟨⟨none, [], 0, 0, 0⟩⟩
theorem parts_in {H : Type} {enc : TypeId × Value → H} {W : World} {a : Option Addr} {len cap : Nat} {d : DataW H} {p : List MemPlace} (h : DataW.Trod enc Tryd.prog W 0 (fun _ => true) true 28 (.slice a len cap) d p) :
    ∃ (ps : List Part) (pb po : Nat), ps.length = len ∧ Parts W pb po ps ∧ (0 < ps.length → a = some ⟨pb, po, none⟩) ∧ ps.length ≤ 9223372036854775807 ∧ (bytesOf ps).length ≤ Rows.uptoBulk d := by
  obtain ⟨fuel, hf⟩ := h
  rcases open_int_rows Tryd.underlying28 Tryd.underlying22 Tryd.underlying5 (by kernel_rfl) (by kernel_rfl) hf with ⟨hcs, hx⟩ | ⟨x, l, c, A, L, C, Z, hcs, _, hl, hm, hx, hr⟩
  · simp [Value.cells] at hcs
    obtain ⟨rfl, rfl, rfl⟩ := hcs
    exact ⟨[], 0, 0, rfl, ⟨fun i x hx => (by simp at hx), fun x hx => (by cases hx), fun x hx => (by cases hx)⟩, fun h => (by simp at h), by simp, by simp [bytesOf]⟩
  · simp [Value.cells] at hcs
    obtain ⟨rfl, rfl, rfl⟩ := hcs
    simp only [Prod.mk.injEq] at hx
    obtain ⟨hd, _⟩ := hx
    have each : ∀ r, r < len → ∃ y : Part, y.p = A r ∧ y.cap = C r ∧ y.bs.length = L r ∧ Sl W y.p y.bs y.cap y.b y.off ∧ (y.p = none → y.bs.length = 0 ∧ y.cap = 0) ∧ y.bs.length ≤ Rows.uptoBulk (intRow (H := H) .u8 (A r) (L r) (Z r)) := by
      intro r hlt
      obtain ⟨_, r1, r2, r3, r4, r5, r6⟩ := hr r (by omega)
      have hrow : IsRow W (A r) (L r) (C r) (Z r) := by
        rcases hA : A r with _ | a'
        · left
          have h0 := r5 hA
          exact ⟨rfl, by omega, h0, List.eq_nil_of_length_eq_zero (by omega)⟩
        · right
          exact ⟨a', rfl, r1, r2, r3, fun i hi => (r6 a' hA).2 i (by omega), r4⟩
      obtain ⟨bs, b, off, hb, hsl⟩ := sl_of hrow
      refine ⟨⟨A r, bs, C r, b, off⟩, rfl, rfl, hb, hsl, fun hn => ⟨by have := r5 hn; simp only; omega, r5 hn⟩, ?_⟩
      simp only
      rw [hb]
      exact bulk_row _ _ _ (fun hn => by have := r5 hn; omega) (by omega)
    obtain ⟨y, hy⟩ := choose_lt each
    have hcap : cap ≤ 9223372036854775807 := by unfold maxLen at hm; omega
    obtain ⟨pb, po, hpx⟩ : ∃ pb po, 0 < len → x = ⟨pb, po, none⟩ := by
      by_cases h0 : 0 < len
      · have hc := (hr 0 (by omega)).1
        obtain ⟨b', o', sp⟩ := x
        have hspot : sp = none := by simpa [Addr.add] using World.cell?_spot hc
        subst hspot
        exact ⟨b', o', fun _ => rfl⟩
      · exact ⟨0, 0, fun h => absurd h h0⟩
    refine ⟨(List.range len).map y, pb, po, by simp, ⟨?_, ?_, ?_⟩, fun h => ?_, by simp; omega, ?_⟩
    · intro i z hz
      have hi : i < len := by have := (List.getElem?_eq_some_iff.1 hz).1; simpa using this
      simp [hi] at hz
      subst hz
      obtain ⟨e1, e2, e3, _⟩ := hy i hi
      rw [← Addr.add_mid, ← hpx (by omega), (hr i (by omega)).1, e1, e2, e3]
    · intro z hz
      simp only [List.mem_map, List.mem_range] at hz
      obtain ⟨i, hi, rfl⟩ := hz
      exact (hy i hi).2.2.2.1
    · intro z hz
      simp only [List.mem_map, List.mem_range] at hz
      obtain ⟨i, hi, rfl⟩ := hz
      exact (hy i hi).2.2.2.2.1
    · rw [hpx (by simpa using h)]
    · rw [hd]
      have := bulk_rows (List.range len) (fun r => intRow (H := H) .u8 (A r) (L r) (Z r)) y (fun r hrr => (hy r (by simpa using hrr)).2.2.2.2.2)
      simp only [Rows.uptoBulk]
      omega
end Go.Proofs.YtmjccokocklgiaaDoor
