/-
  Slices of one element; rows of elements of the call's own.
-/
import Derived.Test.YtbccjomnfclkdaaN16
namespace Go.Proofs.Ytbccjomnfclkdaa
open Go.RowKit
theorem slice28 (D : List Value) (hD : D.length = 32) (w : World) : (Instr.buildSlice 28 1 #[(0, .agg D.toArray)]).run Try.prog w = .ok (.slice (some ⟨w.heap.size, 0, none⟩) 1 1) (w.alloc (.cells D.toArray 49)) := by
  obtain ⟨d0, d1, d2, d3, d4, d5, d6, d7, d8, d9, d10, d11, d12, d13, d14, d15, d16, d17, d18, d19, d20, d21, d22, d23, d24, d25, d26, d27, d28, d29, d30, d31, rfl⟩ := list32 D hD
  kernel_rfl
theorem list34 {α : Type} (D : List α) (h : D.length = 34) : ∃ a b E, D = a :: b :: E ∧ E.length = 32 := by
  obtain ⟨a, r, rfl⟩ : ∃ x r, D = x :: r := List.exists_cons_of_length_pos (by omega)
  obtain ⟨b, r2, rfl⟩ : ∃ x r', r = x :: r' := List.exists_cons_of_length_pos (by simp at h; omega)
  exact ⟨a, b, r2, rfl, by simpa using h⟩
theorem slice29 (D : List Value) (hD : D.length = 34) (w : World) : (Instr.buildSlice 29 1 #[(0, .agg D.toArray)]).run Try.prog w = .ok (.slice (some ⟨w.heap.size, 0, none⟩) 1 1) (w.alloc (.cells D.toArray 51)) := by
  obtain ⟨a, b, E, rfl, hE⟩ := list34 D hD
  obtain ⟨d0, d1, d2, d3, d4, d5, d6, d7, d8, d9, d10, d11, d12, d13, d14, d15, d16, d17, d18, d19, d20, d21, d22, d23, d24, d25, d26, d27, d28, d29, d30, d31, rfl⟩ := list32 E hE
  kernel_rfl
theorem own_belowK {w w' : World} {B n k : Nat} {e : TypeId} {v : Value} {xs : List Value} (h : w.ownsRow B e k v n xs) (hb : Below w.heap.size w w') : w'.ownsRow B e k v n xs := by
  obtain ⟨h1, h2 | ⟨g, cap, cur, rfl, hB, hh, r⟩⟩ := h
  · exact ⟨h1, .inl h2⟩
  · refine ⟨h1, .inr ⟨g, cap, cur, rfl, hB, ?_, r⟩⟩
    have hlt : g < w.heap.size := (Array.getElem?_eq_some_iff.1 hh).1
    rw [hb.block g hlt]
    exact hh
theorem own_grewK {w w' : World} {B n k : Nat} {e : TypeId} {v : Value} {xs : List Value} {S : Nat → Prop} (h : w.ownsRow B e k v n xs) (hg : Grew w w' S) (hn : ∀ q, v.ownBlock = some q → ¬ S q) : w'.ownsRow B e k v n xs := by
  obtain ⟨h1, h2 | ⟨g, cap, cur, rfl, hB, hh, r⟩⟩ := h
  · exact ⟨h1, .inl h2⟩
  · refine ⟨h1, .inr ⟨g, cap, cur, rfl, hB, ?_, r⟩⟩
    have hlt : g < w.heap.size := (Array.getElem?_eq_some_iff.1 hh).1
    rw [hg.block g hlt (hn g rfl)]
    exact hh
theorem own_geK {W : World} {base : Nat} {e : TypeId} {size n : Nat} {v : Value} {xs : List Value} (h : W.ownsRow base e size v n xs) (k : Nat) (hk : v.ownBlock = some k) : base ≤ k ∧ k < W.heap.size := by
  obtain ⟨_, ⟨rfl, _⟩ | ⟨g, cap, cur, rfl, hB, hh, _⟩⟩ := h
  · cases hk
  · have e2 : g = k := by simpa [Value.ownBlock] using hk
    have := (Array.getElem?_eq_some_iff.1 hh).1
    omega
theorem flatten_get {k : Nat} {xs : List (List Value)} (h : ∀ us ∈ xs, us.length = k) : ∀ (i : Nat) us, xs[i]? = some us → ∀ (y : Nat) u, us[y]? = some u → xs.flatten[i * k + y]? = some u := by
  induction xs with
  | nil => intro i us hi; simp at hi
  | cons x r ih =>
    intro i us hi y u hy
    have hx := h x (by simp)
    cases i with
    | zero =>
      simp at hi
      subst hi
      rw [List.flatten_cons, Nat.zero_mul, Nat.zero_add, List.getElem?_append_left (by exact (List.getElem?_eq_some_iff.1 hy).1)]
      exact hy
    | succ i =>
      rw [List.flatten_cons, List.getElem?_append_right (by rw [hx, Nat.add_mul]; omega), hx]
      have := ih (fun us hus => h us (by simp [hus])) i us (by simpa using hi) y u hy
      rw [show (i + 1) * k + y - k = i * k + y by rw [Nat.add_mul]; omega]
      exact this
/-- a row of the call's own reads as its elements -/
theorem own_els {w : World} {B k : Nat} {e : TypeId} {v : Value} {xs : List (List Value)} (h : w.ownsRow B e k v xs.length xs.flatten) (hk : ∀ us ∈ xs, us.length = k) : Els w v k xs := by
  obtain ⟨h1, ⟨rfl, h0⟩ | ⟨g, cap, cur, rfl, hB, hh, hn, hm, hs, ht⟩⟩ := h
  · obtain rfl := List.length_eq_zero_iff.1 h0
    exact Els.nil w k
  · have hlt : g < w.heap.size := (Array.getElem?_eq_some_iff.1 hh).1
    refine ⟨⟨some ⟨g, 0, none⟩, cap, g, 0, rfl, hn, by simpa [maxLen] using hm, fun _ => ⟨rfl, hlt⟩, fun i us hi y u hy => ?_⟩, hk⟩
    have h2 := flatten_get hk i us hi y u hy
    rw [← ht] at h2
    have h3 : cur.toList[i * k + y]? = some u := by
      rw [List.getElem?_take] at h2
      split at h2
      · exact h2
      · cases h2
    rw [cell_of_row _ _ _ _ _ _ hh, Nat.zero_add]
    simpa using h3
/-- a slice of one element is built -/
theorem wp_slice1 {P : Program} {op : Oper} {a : Act} {w : World} {K : Act → World → Prop} {Q : Exit → Act → World → Prop} (t : TypeId) (x : Operand) (ho : op.op = .buildSlice t 1 #[(0, x)]) (v u : Value) (w' : World) (hx : a.eval x = v) (hr : (Instr.buildSlice t 1 #[(0, v)]).run P w = .ok u w') (h : K (a.put op.dst u) w') : op.wp P a w K Q := by
  unfold Oper.wp execOp
  simp only [ho, List.map_toArray, List.map_cons, List.map_nil, hx, Sem.run_bind, hr, Result.andThen_ok]
  exact h
theorem wpList_slice1 {P : Program} {ops : Array Oper} {rest : List Oper} {op : Oper} {a : Act} {w : World} {Q : Exit → Act → World → Prop} (hgd : op.guard = none) (t : TypeId) (x : Operand) (ho : op.op = .buildSlice t 1 #[(0, x)]) (v u : Value) (w' : World) (hx : a.eval x = v) (hr : (Instr.buildSlice t 1 #[(0, v)]).run P w = .ok u w') (h : wpList P ops Q rest (a.put op.dst u) w') : wpList P ops Q (op :: rest) a w :=
  wpList_plain hgd fun _ hK => wp_slice1 t x ho v u w' hx hr (hK _ _ h)
end Go.Proofs.Ytbccjomnfclkdaa
