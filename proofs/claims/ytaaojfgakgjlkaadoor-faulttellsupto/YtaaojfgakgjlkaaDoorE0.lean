/-
  The reference's errors that keep to a set of blocks.
-/
import Derived.Test.YtaaojfgakgjlkaaDoorD4
namespace Go.Proofs.YtaaojfgakgjlkaaDoor
open Go.RowKit

mutual
/-- the five cells are this error, its parts in blocks of A -/
def IsRA (A : Nat → Prop) (W : World) : Tr → List Value → Prop
  | .num k, vs => vs = [iv 1, iv k, e0, e0, .slice none 0 0] ∧ 0 < k ∧ k ≤ 300
  | .flt op path t, vs => ∃ g cap us, vs = [iv 2, iv 0, .string (B op), .string (B path), .slice (some ⟨g, 0, none⟩) 1 cap] ∧ A g ∧ 1 ≤ cap ∧ cap ≤ 9223372036854775807 ∧ us.length = 5 ∧ (∀ (i : Nat) u, us[i]? = some u → W.cell? ⟨g, i, none⟩ = some u) ∧ IsRA A W t us
  | .lst ts, vs => ∃ g cap uss, vs = [iv 3, iv 0, e0, e0, .slice (some ⟨g, 0, none⟩) uss.length cap] ∧ A g ∧ 2 ≤ uss.length ∧ uss.length ≤ cap ∧ cap ≤ 9223372036854775807 ∧ (∀ us ∈ uss, us.length = 5) ∧ (∀ (j i : Nat) us u, uss[j]? = some us → us[i]? = some u → W.cell? ⟨g, j * 5 + i, none⟩ = some u) ∧ IsRAs A W ts uss
def IsRAs (A : Nat → Prop) (W : World) : TrL → List (List Value) → Prop
  | .nil, [] => True
  | .cons t ts, v :: vs => IsRA A W t v ∧ IsRAs A W ts vs
  | _, _ => False
end
theorem isRA_to {A : Nat → Prop} {n : Nat} {W : World} (h : ∀ b, A b → b < n) : (∀ T v, IsRA A W T v → IsR n W T v) := by
  intro T
  refine Tr.rec (motive_1 := fun T => ∀ v, IsRA A W T v → IsR n W T v) (motive_2 := fun ts => ∀ vs, IsRAs A W ts vs → IsRs n W ts vs) ?_ ?_ ?_ ?_ ?_ T
  · intro k v hv; exact hv
  · intro op path t ih v hv
    unfold IsRA at hv; unfold IsR
    obtain ⟨g, cap, us, h1, h2, h3, h4, h5, h6, h7⟩ := hv
    exact ⟨g, cap, us, h1, h g h2, h3, h4, h5, h6, ih us h7⟩
  · intro ts ih v hv
    unfold IsRA at hv; unfold IsR
    obtain ⟨g, cap, uss, h1, h2, h3, h4, h5, h6, h7, h8⟩ := hv
    exact ⟨g, cap, uss, h1, h g h2, h3, h4, h5, h6, h7, ih uss h8⟩
  · intro vs hv; cases vs <;> exact hv
  · intro t ts h1 h2 vs hv
    cases vs with
    | nil => unfold IsRAs at hv; exact hv.elim
    | cons v vs => unfold IsRAs at hv; unfold IsRs; exact ⟨h1 v hv.1, h2 vs hv.2⟩
theorem isRA_keep {A A' : Nat → Prop} {W W' : World} (hA : ∀ b, A b → A' b) (h : ∀ b, A b → W'.heap[b]? = W.heap[b]?) : (∀ T v, IsRA A W T v → IsRA A' W' T v) := by
  intro T
  refine Tr.rec (motive_1 := fun T => ∀ v, IsRA A W T v → IsRA A' W' T v) (motive_2 := fun ts => ∀ vs, IsRAs A W ts vs → IsRAs A' W' ts vs) ?_ ?_ ?_ ?_ ?_ T
  · intro k v hv; exact hv
  · intro op path t ih v hv
    unfold IsRA at hv ⊢
    obtain ⟨g, cap, us, h1, h2, h3, h4, h5, h6, h7⟩ := hv
    exact ⟨g, cap, us, h1, hA g h2, h3, h4, h5, fun i u hu => (World.cell?_of_block (w := W) (a := ⟨g, i, none⟩) (h g h2)).trans (h6 i u hu), ih us h7⟩
  · intro ts ih v hv
    unfold IsRA at hv ⊢
    obtain ⟨g, cap, uss, h1, h2, h3, h4, h5, h6, h7, h8⟩ := hv
    exact ⟨g, cap, uss, h1, hA g h2, h3, h4, h5, h6, fun j i us u hj hu => (World.cell?_of_block (w := W) (a := ⟨g, j * 5 + i, none⟩) (h g h2)).trans (h7 j i us u hj hu), ih uss h8⟩
  · intro vs hv; cases vs <;> exact hv
  · intro t ts h1 h2 vs hv
    cases vs with
    | nil => unfold IsRAs at hv; exact hv.elim
    | cons v vs => unfold IsRAs at hv ⊢; exact ⟨h1 v hv.1, h2 vs hv.2⟩
def IsROA (A : Nat → Prop) (W : World) : Option Tr → List Value → Prop
  | none, vs => vs = noneR
  | some T, vs => IsRA A W T vs
theorem isROA_keep {A A' : Nat → Prop} {W W' : World} (hA : ∀ b, A b → A' b) (h : ∀ b, A b → W'.heap[b]? = W.heap[b]?) {o : Option Tr} {v : List Value} (hv : IsROA A W o v) : IsROA A' W' o v := by
  cases o with
  | none => exact hv
  | some T => exact isRA_keep hA h T v hv
theorem isROA_to {A : Nat → Prop} {n : Nat} {W : World} (h : ∀ b, A b → b < n) {o : Option Tr} {v : List Value} (hv : IsROA A W o v) : IsRO n W o v := by
  cases o with
  | none => exact hv
  | some T => exact isRA_to h T v hv
/-- the five cells of an error: its kind is 0 only of none -/
theorem isRA_cells {A : Nat → Prop} {W : World} {T : Tr} {vs : List Value} (h : IsRA A W T vs) : ∃ k c op path p n cap, vs = [iv k, iv c, .string op, .string path, .slice p n cap] ∧ 0 < k ∧ k ≤ 3 := by
  cases T with
  | num k => unfold IsRA at h; obtain ⟨rfl, _⟩ := h; exact ⟨_, _, _, _, _, _, _, rfl, by omega, by omega⟩
  | flt op path t => unfold IsRA at h; obtain ⟨g, cap, us, rfl, _⟩ := h; exact ⟨_, _, _, _, _, _, _, rfl, by omega, by omega⟩
  | lst ts => unfold IsRA at h; obtain ⟨g, cap, uss, rfl, _⟩ := h; exact ⟨_, _, _, _, _, _, _, rfl, by omega, by omega⟩
theorem isROA_cells {A : Nat → Prop} {W : World} {o : Option Tr} {vs : List Value} (h : IsROA A W o vs) : ∃ k c op path p n cap, vs = [iv k, iv c, .string op, .string path, .slice p n cap] ∧ (k = 0 ↔ o = none) ∧ k ≤ 3 := by
  cases o with
  | none => obtain rfl : vs = noneR := h; exact ⟨_, _, _, _, _, _, _, rfl, by simp, by omega⟩
  | some T =>
    obtain ⟨k, c, op, path, p, n, cap, h1, h2, h3⟩ := isRA_cells h
    exact ⟨k, c, op, path, p, n, cap, h1, ⟨fun e => by omega, fun e => by cases e⟩, h3⟩
theorem isROA_len {A : Nat → Prop} {W : World} {o : Option Tr} {vs : List Value} (h : IsROA A W o vs) : vs.length = 5 := by
  obtain ⟨k, c, op, path, p, n, cap, rfl, _⟩ := isROA_cells h; rfl
theorem isROA_one {A : Nat → Prop} {W : World} {o : Option Tr} {vs : List Value} (h : IsROA A W o vs) : ∀ u ∈ vs, u.oneCell' = true := by
  obtain ⟨k, c, op, path, p, n, cap, rfl, _⟩ := isROA_cells h
  intro u hu
  simp only [List.mem_cons, List.not_mem_nil, or_false] at hu
  rcases hu with rfl | rfl | rfl | rfl | rfl <;> rfl
theorem isRAs_of {A : Nat → Prop} {W : World} {ts : List Tr} {us : List (List Value)} (hl : us.length = ts.length) (h : ∀ (j : Nat) t u, ts[j]? = some t → us[j]? = some u → IsRA A W t u) : IsRAs A W (TrL.of ts) us := by
  induction ts generalizing us with
  | nil =>
    cases us with
    | nil => simp [TrL.of, IsRAs]
    | cons u us => simp at hl
  | cons t ts ih =>
    cases us with
    | nil => simp at hl
    | cons u us =>
      simp only [TrL.of]
      unfold IsRAs
      exact ⟨h 0 t u rfl rfl, ih (by simpa using hl) (fun j t' u' h1 h2 => h (j + 1) t' u' (by simpa using h1) (by simpa using h2))⟩
end Go.Proofs.YtaaojfgakgjlkaaDoor
