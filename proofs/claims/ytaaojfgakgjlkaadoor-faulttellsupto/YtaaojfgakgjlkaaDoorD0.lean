/-
  Errors in memory that keep to a set of blocks; a pile's steps.
-/
import Derived.Test.YtaaojfgakgjlkaaDoorR1
namespace Go.Proofs.YtaaojfgakgjlkaaDoor
open Go.RowKit

mutual
/-- the interface value is this error, in blocks of A -/
def IsA (A : Nat → Prop) (W : World) : Tr → Value → Prop
  | .num k, v => v = .iface 31 (.int .i64 (k : Int)) ∧ 0 < k ∧ k ≤ 300
  | .flt op path t, v => ∃ b ev, v = .iface 42 (.pointer (some ⟨b, 0, none⟩)) ∧ A b ∧ W.heap[b]? = some (.cells #[.string (B op), .string (B path), ev] 47 (0, 0)) ∧ IsA A W t ev
  | .lst ts, v => ∃ b g cap vs, v = .iface 44 (.pointer (some ⟨b, 0, none⟩)) ∧ A b ∧ W.heap[b]? = some (.cells #[.slice (some ⟨g, 0, none⟩) vs.length cap] 65 (0, 0)) ∧ A g ∧ 2 ≤ vs.length ∧ vs.length ≤ cap ∧ cap ≤ 9223372036854775807 ∧ (∀ (j : Nat) u, vs[j]? = some u → W.cell? ⟨g, j, none⟩ = some u) ∧ IsAs A W ts vs
def IsAs (A : Nat → Prop) (W : World) : TrL → List Value → Prop
  | .nil, [] => True
  | .cons t ts, v :: vs => IsA A W t v ∧ IsAs A W ts vs
  | _, _ => False
end
theorem isA_to {A : Nat → Prop} {n : Nat} {W : World} (h : ∀ b, A b → b < n) : (∀ T v, IsA A W T v → IsE n W T v) := by
  intro T
  refine Tr.rec (motive_1 := fun T => ∀ v, IsA A W T v → IsE n W T v) (motive_2 := fun ts => ∀ vs, IsAs A W ts vs → IsEs n W ts vs) ?_ ?_ ?_ ?_ ?_ T
  · intro k v hv; exact hv
  · intro op path t ih v hv
    unfold IsA at hv; unfold IsE
    obtain ⟨b, ev, h1, h2, h3, h4⟩ := hv
    exact ⟨b, ev, h1, h b h2, h3, ih ev h4⟩
  · intro ts ih v hv
    unfold IsA at hv; unfold IsE
    obtain ⟨b, g, cap, vs, h1, h2, h3, h4, h5, h6, h7, h8, h9⟩ := hv
    exact ⟨b, g, cap, vs, h1, h b h2, h3, h g h4, h5, h6, h7, h8, ih vs h9⟩
  · intro vs hv; cases vs <;> exact hv
  · intro t ts h1 h2 vs hv
    cases vs with
    | nil => unfold IsAs at hv; exact hv.elim
    | cons v vs => unfold IsAs at hv; unfold IsEs; exact ⟨h1 v hv.1, h2 vs hv.2⟩
theorem isA_keep {A A' : Nat → Prop} {W W' : World} (hA : ∀ b, A b → A' b) (h : ∀ b, A b → W'.heap[b]? = W.heap[b]?) : (∀ T v, IsA A W T v → IsA A' W' T v) := by
  intro T
  refine Tr.rec (motive_1 := fun T => ∀ v, IsA A W T v → IsA A' W' T v) (motive_2 := fun ts => ∀ vs, IsAs A W ts vs → IsAs A' W' ts vs) ?_ ?_ ?_ ?_ ?_ T
  · intro k v hv; exact hv
  · intro op path t ih v hv
    unfold IsA at hv ⊢
    obtain ⟨b, ev, h1, h2, h3, h4⟩ := hv
    exact ⟨b, ev, h1, hA b h2, (h b h2).trans h3, ih ev h4⟩
  · intro ts ih v hv
    unfold IsA at hv ⊢
    obtain ⟨b, g, cap, vs, h1, h2, h3, h4, h5, h6, h7, h8, h9⟩ := hv
    exact ⟨b, g, cap, vs, h1, hA b h2, (h b h2).trans h3, hA g h4, h5, h6, h7, fun j u hu => (World.cell?_of_block (w := W) (a := ⟨g, j, none⟩) (h g h4)).trans (h8 j u hu), ih vs h9⟩
  · intro vs hv; cases vs <;> exact hv
  · intro t ts h1 h2 vs hv
    cases vs with
    | nil => unfold IsAs at hv; exact hv.elim
    | cons v vs => unfold IsAs at hv ⊢; exact ⟨h1 v hv.1, h2 vs hv.2⟩
def IsOA (A : Nat → Prop) (W : World) : Option Tr → Value → Prop
  | none, v => v = .nilIface
  | some T, v => IsA A W T v
theorem isOA_keep {A A' : Nat → Prop} {W W' : World} (hA : ∀ b, A b → A' b) (h : ∀ b, A b → W'.heap[b]? = W.heap[b]?) {o : Option Tr} {v : Value} (hv : IsOA A W o v) : IsOA A' W' o v := by
  cases o with
  | none => exact hv
  | some T => exact isA_keep hA h T v hv
theorem isOA_to {A : Nat → Prop} {n : Nat} {W : World} (h : ∀ b, A b → b < n) {o : Option Tr} {v : Value} (hv : IsOA A W o v) : IsO n W o v := by
  cases o with
  | none => exact hv
  | some T => exact isA_to h T v hv
/-- a value that is one cell, and told from nil -/
theorem isOA_one {A : Nat → Prop} {W : World} {o : Option Tr} {v : Value} (hv : IsOA A W o v) : v.oneCell' = true := by
  cases o with
  | none => obtain rfl : v = _ := hv; rfl
  | some T =>
    have hv' : IsA A W T v := hv
    cases T with
    | num k => unfold IsA at hv'; obtain ⟨rfl, _⟩ := hv'; rfl
    | flt op path t => unfold IsA at hv'; obtain ⟨b, ev, rfl, _⟩ := hv'; rfl
    | lst ts => unfold IsA at hv'; obtain ⟨b, g, cap, vs, rfl, _⟩ := hv'; rfl
theorem isA_iface {A : Nat → Prop} {W : World} {T : Tr} {v : Value} (hv : IsA A W T v) : ∃ t x, v = .iface t x := by
  cases T with
  | num k => unfold IsA at hv; obtain ⟨rfl, _⟩ := hv; exact ⟨_, _, rfl⟩
  | flt op path t => unfold IsA at hv; obtain ⟨b, ev, rfl, _⟩ := hv; exact ⟨_, _, rfl⟩
  | lst ts => unfold IsA at hv; obtain ⟨b, g, cap, vs, rfl, _⟩ := hv; exact ⟨_, _, rfl⟩

def TrL.of : List Tr → TrL
  | [] => .nil
  | t :: ts => .cons t (TrL.of ts)
theorem TrL.of_list (l : List Tr) : (TrL.of l).list = l := by
  induction l with
  | nil => rfl
  | cons t ts ih => simp [TrL.of, TrL.list, ih]
/-- several errors as one -/
def allO (l : List (Option Tr)) : Option Tr :=
  match l.filterMap id with
  | [] => none
  | [t] => some t
  | ts => some (.lst (TrL.of ts))
def wrapO (op : Str) : Option Tr → Option Tr
  | none => none
  | some T => some (.flt op [] T)
theorem isAs_of {A : Nat → Prop} {W : World} {ts : List Tr} {us : List Value} (hl : us.length = ts.length) (h : ∀ (j : Nat) t u, ts[j]? = some t → us[j]? = some u → IsA A W t u) : IsAs A W (TrL.of ts) us := by
  induction ts generalizing us with
  | nil =>
    cases us with
    | nil => simp [TrL.of, IsAs]
    | cons u us => simp at hl
  | cons t ts ih =>
    cases us with
    | nil => simp at hl
    | cons u us =>
      simp only [TrL.of]
      unfold IsAs
      exact ⟨h 0 t u rfl rfl, ih (by simpa using hl) (fun j t' u' h1 h2 => h (j + 1) t' u' (by simpa using h1) (by simpa using h2))⟩
/-- a step: what is done to the errors of a pile -/
structure St where
  K : Int
  op : Str
  path : Str
  code : Int
  N : Int
/-- an int as a uint -/
def uint (k : Int) : Nat := (IntKind.u64.wrap k).toNat
def eno (k : Int) : Nat := uint k % 301
def cut2 (k : Int) (n : Nat) : Nat := n - uint k % (n + 1)
def numO (e : Nat) : Option Tr := if e = 0 then none else some (.num e)
def stepC (c : Nat) (p : List (Option Tr)) (s : St) : List (Option Tr) :=
  match c with
  | 0 => p ++ [if eno s.code = 0 then none else some (.flt s.op s.path (.num (eno s.code)))]
  | 1 => if p = [] then [none] else p.dropLast ++ [wrapO s.op (p.getLastD none)]
  | 2 => p.take (cut2 s.N p.length) ++ [allO (p.drop (cut2 s.N p.length))]
  | 3 => p ++ [numO (eno s.code)]
  | _ => p ++ [none]
def stepP (p : List (Option Tr)) (s : St) : List (Option Tr) := stepC (uint s.K % 5) p s
/-- the errors of a pile -/
def pile (ss : List St) : List (Option Tr) := (ss.take 40).foldl stepP []
theorem eno_le (k : Int) : eno k ≤ 300 := by unfold eno; omega
end Go.Proofs.YtaaojfgakgjlkaaDoor
