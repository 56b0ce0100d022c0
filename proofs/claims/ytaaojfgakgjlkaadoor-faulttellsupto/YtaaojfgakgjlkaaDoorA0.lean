/-
  Texts as bytes; errors as trees, and what they are in memory.
-/
import Derived.Test.YtaaojfgakgjlkaaDoorSh
import Derived.WalkKit
import Derived.WalkSpells
import Derived.WalkLawsBesides
import Derived.Deep.Light
import Derived.Lib.Strings
import Derived.BigQuiet
import Derived.BigRegion
namespace Go.Proofs.YtaaojfgakgjlkaaDoor
open Go.RowKit

theorem hid_in {p : Prop} (h : p) : Hid p := h
/-- a text's bytes -/
abbrev Str := List UInt8
/-- a text as the program has it -/
def B (x : Str) : ByteArray := ⟨x.toArray⟩
def bl (s : ByteArray) : Str := s.data.toList
theorem B_bl (s : ByteArray) : B (bl s) = s := by cases s; simp [B, bl]
theorem bl_B (x : Str) : bl (B x) = x := by simp [B, bl]
theorem bl_length (s : ByteArray) : (bl s).length = s.size := by simp only [bl, Array.length_toList]; rfl
theorem B_size (x : Str) : (B x).size = x.length := by rw [← bl_length, bl_B]
theorem toL (x : Str) : (B x).toList = x := by rw [Lib.toList_data]; exact bl_B x
theorem append_B (x y : Str) : B x ++ B y = B (x ++ y) := by
  refine ByteArray.ext ?_
  rw [ByteArray.data_append]
  simp [B]

mutual
/-- an error: a number; a fault; several -/
inductive Tr
  | num (k : Nat)
  | flt (op path : Str) (t : Tr)
  | lst (ts : TrL)
inductive TrL
  | nil
  | cons (t : Tr) (ts : TrL)
end
def TrL.list : TrL → List Tr
  | .nil => []
  | .cons t ts => t :: ts.list

/-- 'veneer: error ' -/
def errS : Str := [118, 101, 110, 101, 101, 114, 58, 32, 101, 114, 114, 111, 114, 32]
def pathS (path : Str) : Str := if path = [] then [] else 32 :: path
mutual
/-- an error's text -/
def textS : Tr → Str
  | .num k => errS ++ Lib.itoa (k : Int)
  | .flt op path t => op ++ pathS path ++ [58, 32] ++ textS t
  | .lst .nil => []
  | .lst (.cons t ts) => textS t ++ textT ts
def textT : TrL → Str
  | .nil => []
  | .cons t ts => [59, 32] ++ textS t ++ textT ts
end
mutual
/-- the interface value is this error, in blocks below n -/
def IsE (n : Nat) (W : World) : Tr → Value → Prop
  | .num k, v => v = .iface 31 (.int .i64 (k : Int)) ∧ 0 < k ∧ k ≤ 300
  | .flt op path t, v => ∃ b ev, v = .iface 42 (.pointer (some ⟨b, 0, none⟩)) ∧ b < n ∧ W.heap[b]? = some (.cells #[.string (B op), .string (B path), ev] 47 (0, 0)) ∧ IsE n W t ev
  | .lst ts, v => ∃ b g cap vs, v = .iface 44 (.pointer (some ⟨b, 0, none⟩)) ∧ b < n ∧ W.heap[b]? = some (.cells #[.slice (some ⟨g, 0, none⟩) vs.length cap] 65 (0, 0)) ∧ g < n ∧ 2 ≤ vs.length ∧ vs.length ≤ cap ∧ cap ≤ 9223372036854775807 ∧ (∀ (j : Nat) u, vs[j]? = some u → W.cell? ⟨g, j, none⟩ = some u) ∧ IsEs n W ts vs
def IsEs (n : Nat) (W : World) : TrL → List Value → Prop
  | .nil, [] => True
  | .cons t ts, v :: vs => IsE n W t v ∧ IsEs n W ts vs
  | _, _ => False
end
theorem isE_below {n : Nat} {W W' : World} (h : Below n W W') : (∀ T v, IsE n W T v → IsE n W' T v) := by
  intro T
  refine Tr.rec (motive_1 := fun T => ∀ v, IsE n W T v → IsE n W' T v) (motive_2 := fun ts => ∀ vs, IsEs n W ts vs → IsEs n W' ts vs) ?_ ?_ ?_ ?_ ?_ T
  · intro k v hv; exact hv
  · intro op path t ih v hv
    unfold IsE at hv ⊢
    obtain ⟨b, ev, h1, h2, h3, h4⟩ := hv
    exact ⟨b, ev, h1, h2, (h.block b h2).trans h3, ih ev h4⟩
  · intro ts ih v hv
    unfold IsE at hv ⊢
    obtain ⟨b, g, cap, vs, h1, h2, h3, h4, h5, h6, h7, h8, h9⟩ := hv
    exact ⟨b, g, cap, vs, h1, h2, (h.block b h2).trans h3, h4, h5, h6, h7, fun j u hu => (h.cell (p := ⟨g, j, none⟩) h4).trans (h8 j u hu), ih vs h9⟩
  · intro vs hv; cases vs <;> exact hv
  · intro t ts h1 h2 vs hv
    cases vs with
    | nil => unfold IsEs at hv; exact hv.elim
    | cons v vs => unfold IsEs at hv ⊢; exact ⟨h1 v hv.1, h2 vs hv.2⟩
theorem isE_mono {n m : Nat} (hnm : n ≤ m) {W : World} : (∀ T v, IsE n W T v → IsE m W T v) := by
  intro T
  refine Tr.rec (motive_1 := fun T => ∀ v, IsE n W T v → IsE m W T v) (motive_2 := fun ts => ∀ vs, IsEs n W ts vs → IsEs m W ts vs) ?_ ?_ ?_ ?_ ?_ T
  · intro k v hv; exact hv
  · intro op path t ih v hv
    unfold IsE at hv ⊢
    obtain ⟨b, ev, h1, h2, h3, h4⟩ := hv
    exact ⟨b, ev, h1, by omega, h3, ih ev h4⟩
  · intro ts ih v hv
    unfold IsE at hv ⊢
    obtain ⟨b, g, cap, vs, h1, h2, h3, h4, h5, h6, h7, h8, h9⟩ := hv
    exact ⟨b, g, cap, vs, h1, by omega, h3, by omega, h5, h6, h7, h8, ih vs h9⟩
  · intro vs hv; cases vs <;> exact hv
  · intro t ts h1 h2 vs hv
    cases vs with
    | nil => unfold IsEs at hv; exact hv.elim
    | cons v vs => unfold IsEs at hv ⊢; exact ⟨h1 v hv.1, h2 vs hv.2⟩
theorem isEs_list {n : Nat} {W : World} : ∀ {ts : TrL} {vs : List Value}, IsEs n W ts vs → vs.length = ts.list.length ∧ ∀ (j : Nat) v, vs[j]? = some v → ∃ t, ts.list[j]? = some t ∧ IsE n W t v
  | .nil, [], _ => ⟨rfl, fun j v h => by simp at h⟩
  | .cons t ts, v :: vs, h => by
    unfold IsEs at h
    obtain ⟨h1, h2⟩ := isEs_list h.2
    refine ⟨by simp [TrL.list, h1], fun j u hu => ?_⟩
    cases j with
    | zero => simp at hu; subst hu; exact ⟨t, rfl, h.1⟩
    | succ j => exact h2 j u (by simpa using hu)
  | .nil, _ :: _, h => by unfold IsEs at h; exact h.elim
  | .cons _ _, [], h => by unfold IsEs at h; exact h.elim
end Go.Proofs.YtaaojfgakgjlkaaDoor
