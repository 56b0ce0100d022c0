/-
  What the walk of WireTorn wants besides.
-/
import Derived.Test.YtjaplfdcdokhfaaT3
import Derived.Test.YtjaplfdcdokhfaaS13
namespace Go.Proofs.Ytjaplfdcdokhfaa
open Go.RowKit

theorem i3 : (Try.prog.info? 3).map (fun i => (i.size, i.bytes, i.zero)) = some (1, 8, some (.int .i64 0)) := by kernel_rfl
theorem i3h : ∃ i, Hid (Try.prog.info? 3 = some i) ∧ Hid (i.size = 1) ∧ Hid (i.bytes = 8) ∧ Hid (i.zero = some (.int .i64 0)) := by
  obtain ⟨i, hi, he⟩ := Option.map_eq_some_iff.1 i3
  simp only [Prod.mk.injEq] at he
  obtain ⟨e1, e2, e3⟩ := he
  exact ⟨i, hi, e1, e2, e3⟩
theorem umod (at_ : Int) (n : Nat) (hn : 0 < n) : ∃ k : Nat, (IntKind.u64.wrap at_).tmod (n : Int) = (k : Int) ∧ k < n := by
  have h0 : 0 ≤ IntKind.u64.wrap at_ := by rw [IntKind.wrap_u64]; omega
  have h1 : 0 ≤ (IntKind.u64.wrap at_).tmod (n : Int) := Int.tmod_nonneg _ h0
  have h2 : (IntKind.u64.wrap at_).tmod (n : Int) < (n : Int) := Int.tmod_lt_of_pos _ (by omega)
  exact ⟨((IntKind.u64.wrap at_).tmod (n : Int)).toNat, by omega, by omega⟩
/-- a row that a call owns, as a slice -/
theorem own_form {w : World} {B n : Nat} {e : TypeId} {v : Value} {xs : List Value} (h : w.ownsRow B e 1 v n xs) : ∃ p cap g, v = .slice p n cap ∧ n ≤ cap ∧ cap ≤ 9223372036854775807 ∧ ((p = none ∧ n = 0 ∧ cap = 0) ∨ p = some ⟨g, 0, none⟩) ∧ ∀ j, j < n → w.cell? ⟨g, j, none⟩ = xs[j]? := by
  have h' := h
  obtain ⟨_, ⟨rfl, h0⟩ | ⟨g, cap, cur, rfl, hb, hg, h1, h2, h3, h4⟩⟩ := h
  · subst h0
    exact ⟨none, 0, 0, rfl, by omega, by omega, .inl ⟨rfl, rfl, rfl⟩, fun j hj => by omega⟩
  · unfold maxLen at h2
    exact ⟨_, cap, g, rfl, h1, by omega, .inr rfl, fun j hj => h'.cellAt j (by omega)⟩
theorem slice_pre (t : TypeId) (p : Option Addr) (g o L C n : Nat) (ht : Try.prog.underlying t = some (.slice (Try.prog.elem t))) (hsz : ∀ w, (sizeOf (Try.prog.elem t)).run Try.prog w = .ok 1 w) (hn : n ≤ C) (hp : C = 0 ∨ p = some ⟨g, o, none⟩) (w : World) : (Instr.slice t (.slice p L C) none (some (.int .i64 (n : Int))) none).run Try.prog w = .ok (.slice p n C) w := by
  rw [run_slice_h w t p L C ht .i64 (n : Int) (by omega) (by omega), hsz]
  rcases hp with rfl | rfl
  · cases p <;> simp [sliced]
  · simp [sliced, Addr.add_mid]
theorem slice_pre25 (p : Option Addr) (g o L C n : Nat) (hn : n ≤ C) (hp : C = 0 ∨ p = some ⟨g, o, none⟩) (w : World) : (Instr.slice 25 (.slice p L C) none (some (.int .i64 (n : Int))) none).run Try.prog w = .ok (.slice p n C) w :=
  slice_pre 25 p g o L C n (by kernel_rfl) (fun w => by kernel_rfl) hn hp w
theorem slice_pre60 (p : Option Addr) (g o L C n : Nat) (hn : n ≤ C) (hp : C = 0 ∨ p = some ⟨g, o, none⟩) (w : World) : (Instr.slice 60 (.slice p L C) none (some (.int .i64 (n : Int))) none).run Try.prog w = .ok (.slice p n C) w :=
  slice_pre 60 p g o L C n (by kernel_rfl) (fun w => by kernel_rfl) hn hp w
theorem Held.parts {w : World} {B : Nat} {v : Value} {ps : List Part} (h : Held w B v ps) : ∃ p cap ab, v = .slice p ps.length cap ∧ Parts w ab 0 ps ∧ (0 < ps.length → p = some ⟨ab, 0, none⟩) := by
  obtain ⟨p, cap, g, hv, h1, h2, h3, h4⟩ := own_form h.own
  refine ⟨p, cap, g, hv, ⟨fun i x hx => ?_, h.ok, h.no⟩, fun h0 => ?_⟩
  · have hi : i < ps.length := (List.getElem?_eq_some_iff.1 hx).1
    rw [Nat.zero_add, h4 i hi]
    simp [hx]
  · rcases h3 with ⟨_, h, _⟩ | h
    · omega
    · exact h
theorem Parts.take {w : World} {pb po : Nat} {ps : List Part} (h : Parts w pb po ps) (n : Nat) : Parts w pb po (ps.take n) :=
  ⟨fun i x hx => h.at_ i x (by
    by_cases hi : i < n
    · rwa [List.getElem?_take_of_lt hi] at hx
    · rw [List.getElem?_take_eq_none (by omega)] at hx; cases hx), fun x hx => h.ok x (List.mem_of_mem_take hx), fun x hx => h.no x (List.mem_of_mem_take hx)⟩
/-- the ends of the first k frames -/
def ends (PL : List (List Nat)) (k : Nat) : List Nat := (List.range k).map fun i => Wire.upto PL (i + 1)
theorem ends_succ (PL : List (List Nat)) (k : Nat) : ends PL (k + 1) = ends PL k ++ [Wire.upto PL (k + 1)] := by
  unfold ends
  rw [List.range_succ, List.map_append]
  rfl
theorem ends_at (PL : List (List Nat)) (k i : Nat) (h : i < k) : (ends PL k)[i]? = some (Wire.upto PL (i + 1)) := by
  unfold ends
  simp [h]
theorem upto_take (PL : List (List Nat)) (m n : Nat) (h : n ≤ m) : Wire.upto (PL.take m) n = Wire.upto PL n := by
  unfold Wire.upto
  rw [List.take_take, Nat.min_eq_left h]
theorem frames_take_succ {PL : List (List Nat)} {k : Nat} {x : List Nat} (h : PL[k]? = some x) : Wire.frames (PL.take (k + 1)) = Wire.frames (PL.take k) ++ Wire.frame x := by
  obtain ⟨hi, rfl⟩ := List.getElem?_eq_some_iff.1 h
  unfold Wire.frames
  rw [List.take_succ_eq_append_getElem hi, List.flatMap_append]
  show _ ++ (_ ++ []) = _
  rw [List.append_nil]
theorem frames_lt {PL : List (List Nat)} (h : ∀ p ∈ PL, ∀ x ∈ p, x < 256) : ∀ x ∈ Wire.frames PL, x < 256 := by
  intro x hx
  simp only [Wire.frames, List.mem_flatMap] at hx
  obtain ⟨p, hp, hx⟩ := hx
  exact Wire.frame_lt (h p hp) x hx
theorem upto_le (PL : List (List Nat)) (k : Nat) (hl : ∀ i x, PL[i]? = some x → i < k → x.length ≤ 262144) : ∀ n, n ≤ k → n ≤ PL.length → Wire.upto PL n ≤ n * 262152
  | 0, _, _ => by simp [Wire.upto_zero]
  | n + 1, h, h' => by
    have ih := upto_le PL k hl n (by omega) (by omega)
    have hx : PL[n]? = some PL[n] := List.getElem?_eq_getElem (by omega)
    rw [Wire.upto_succ hx]
    have := hl n _ hx (by omega)
    omega
theorem own_keep {w w' : World} {B n : Nat} {e : TypeId} {v : Value} {xs : List Value} {S : Nat → Prop} (h : w.ownsRow B e 1 v n xs) (hg : Grew w w' S) (hn : ∀ q, v.ownBlock = some q → ¬ S q) : w'.ownsRow B e 1 v n xs := by
  obtain ⟨h1, h2 | ⟨g, cap, cur, rfl, hB, hh, r⟩⟩ := h
  · exact ⟨h1, .inl h2⟩
  · refine ⟨h1, .inr ⟨g, cap, cur, rfl, hB, ?_, r⟩⟩
    have hlt : g < w.heap.size := (Array.getElem?_eq_some_iff.1 hh).1
    rw [hg.block g hlt (hn g rfl)]
    exact hh
end Go.Proofs.Ytjaplfdcdokhfaa
