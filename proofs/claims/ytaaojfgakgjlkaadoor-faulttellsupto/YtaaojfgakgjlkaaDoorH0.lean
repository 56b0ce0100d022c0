/-
  How long the texts of a pile's errors are.
-/
import Derived.Test.YtaaojfgakgjlkaaDoorD4
namespace Go.Proofs.YtaaojfgakgjlkaaDoor
open Go.RowKit

mutual
/-- how much an error holds -/
def mass : Tr → Nat
  | .num _ => 1
  | .flt op path t => op.length + path.length + 1 + mass t
  | .lst ts => 1 + massL ts
def massL : TrL → Nat
  | .nil => 0
  | .cons t ts => mass t + massL ts
end
theorem mass_pos (T : Tr) : 1 ≤ mass T := by cases T <;> (unfold mass; omega)
theorem massL_list : (ts : TrL) → massL ts = (ts.list.map mass).sum
  | .nil => by unfold massL; rfl
  | .cons t ts => by unfold massL; simp [TrL.list, massL_list ts]
theorem mass_mem {l : List Tr} {t : Tr} (h : t ∈ l) : mass t ≤ (l.map mass).sum := by
  induction l with
  | nil => cases h
  | cons a r ih =>
    rcases List.mem_cons.1 h with rfl | h
    · simp
    · have := ih h; simp; omega
theorem len_massL (l : List Tr) : l.length ≤ (l.map mass).sum := by
  induction l with
  | nil => simp
  | cons a r ih => have := mass_pos a; simp; omega
/-- every number in it is one of the program's -/
def Fit : Tr → Prop := fun T => (textS T).length + 2 ≤ 400 * mass T
theorem text_num_le (k : Nat) (hk : k ≤ 300) : Fit (.num k) := by
  unfold Fit textS mass
  have := itoa_len k
  simp [errS]
  omega
theorem path_le (p : Str) : (pathS p).length ≤ p.length + 1 := by
  unfold pathS
  split <;> simp
theorem text_flt_le (op path : Str) (t : Tr) (h : Fit t) : Fit (.flt op path t) := by
  unfold Fit at h ⊢
  unfold textS mass
  have := path_le path
  simp
  omega
theorem text_join_le (l : List Tr) (h : ∀ t ∈ l, Fit t) : (l.map fun u => [59, 32] ++ textS u).flatten.length ≤ 400 * (l.map mass).sum := by
  induction l with
  | nil => simp
  | cons a r ih =>
    have h1 := ih (fun t ht => h t (by simp [ht]))
    have h2 := h a (by simp)
    unfold Fit at h2
    simp at h1 ⊢
    omega
theorem text_lst_le (ts : TrL) (h : ∀ t ∈ ts.list, Fit t) : Fit (.lst ts) := by
  unfold Fit mass
  rw [massL_list]
  cases ts with
  | nil => unfold textS; simp [TrL.list]
  | cons t r =>
    have h1 := h t (by simp [TrL.list])
    have h2 := text_join_le r.list (fun u hu => h u (by simp [TrL.list, hu]))
    unfold Fit at h1
    unfold textS
    rw [textT_eq]
    simp [TrL.list] at h2 ⊢
    omega
theorem isA_fit {A : Nat → Prop} {W : World} : ∀ T v, IsA A W T v → Fit T := by
  intro T
  refine Tr.rec (motive_1 := fun T => ∀ v, IsA A W T v → Fit T) (motive_2 := fun ts => ∀ vs, IsAs A W ts vs → ∀ t ∈ ts.list, Fit t) ?_ ?_ ?_ ?_ ?_ T
  · intro k v hv; unfold IsA at hv; exact text_num_le k hv.2.2
  · intro op path t ih v hv
    unfold IsA at hv
    obtain ⟨b, ev, _, _, _, h⟩ := hv
    exact text_flt_le op path t (ih ev h)
  · intro ts ih v hv
    unfold IsA at hv
    obtain ⟨b, g, cap, vs, _, _, _, _, _, _, _, _, h⟩ := hv
    exact text_lst_le ts (ih vs h)
  · intro vs _ t ht; cases ht
  · intro t ts h1 h2 vs hv u hu
    cases vs with
    | nil => unfold IsAs at hv; exact hv.elim
    | cons v vs =>
      unfold IsAs at hv
      simp only [TrL.list, List.mem_cons] at hu
      rcases hu with rfl | hu
      · exact h1 v hv.1
      · exact h2 vs hv.2 u hu
def massO : Option Tr → Nat
  | none => 0
  | some T => mass T
def massP (p : List (Option Tr)) : Nat := (p.map massO).sum
theorem massP_app (p q : List (Option Tr)) : massP (p ++ q) = massP p + massP q := by simp [massP]
theorem massP_one (o : Option Tr) : massP [o] = massO o := by simp [massP]
theorem massP_kept (p : List (Option Tr)) : ((p.filterMap id).map mass).sum = massP p := by
  induction p with
  | nil => rfl
  | cons a r ih =>
    cases a with
    | none => simpa [massP, massO] using ih
    | some T => simp [massP, massO] at ih ⊢; omega
theorem mass_all (p : List (Option Tr)) : massO (allO p) ≤ massP p + 1 := by
  have h := massP_kept p
  unfold allO
  split
  · simp [massO]
  · rename_i t he
    rw [he] at h
    simp at h
    simp [massO]; omega
  · rename_i ts h1 h2
    simp only [massO]
    unfold mass
    rw [massL_list, TrL.of_list]
    omega
theorem mass_last {p : List (Option Tr)} (h : p ≠ []) : massP p = massP p.dropLast + massO (p.getLastD none) := by
  have e := List.dropLast_concat_getLast h
  have e2 : p.getLastD none = p.getLast h := by rw [List.getLastD_eq_getLast?, List.getLast?_eq_some_getLast h]; rfl
  rw [e2, ← massP_one, ← massP_app, e]
theorem mass_step (p : List (Option Tr)) (s : St) : massP (stepP p s) ≤ massP p + (s.op.length + s.path.length + 2) := by
  unfold stepP stepC
  split
  · rw [massP_app, massP_one]
    split
    · simp [massO]
    · simp [massO, mass]
      try omega
  · split
    · rename_i h
      simp [h, massP, massO]
    · rename_i h
      rw [massP_app, massP_one, mass_last h]
      cases p.getLastD none with
      | none => simp [wrapO, massO]
      | some T => simp [wrapO, massO, mass]; omega
  · rw [massP_app, massP_one]
    have h1 := mass_all (p.drop (cut2 s.N p.length))
    have h2 := massP_app (p.take (cut2 s.N p.length)) (p.drop (cut2 s.N p.length))
    rw [List.take_append_drop] at h2
    omega
  · rw [massP_app, massP_one]
    unfold numO
    split <;> simp [massO, mass] <;> omega
  · rw [massP_app, massP_one]; simp [massO]
theorem mass_fold (ss : List St) (p : List (Option Tr)) : massP (ss.foldl stepP p) ≤ massP p + (ss.map fun s => s.op.length + s.path.length + 2).sum := by
  induction ss generalizing p with
  | nil => simp
  | cons s r ih =>
    rw [List.foldl_cons]
    have h1 := ih (stepP p s)
    have h2 := mass_step p s
    simp; omega
theorem le_sum_mem {l : List Nat} {x : Nat} (h : x ∈ l) : x ≤ l.sum := by
  induction l with
  | nil => cases h
  | cons a r ih =>
    rcases List.mem_cons.1 h with rfl | h
    · simp
    · have := ih h; simp; omega
theorem mass_pile {ss : List St} {N : Nat} (h : (ss.map fun s => s.op.length + s.path.length + 2).sum ≤ N) {o : Option Tr} (ho : o ∈ pile ss) : massO o ≤ N := by
  have h1 := mass_fold (ss.take 40) []
  have h2 : ((ss.take 40).map fun s => s.op.length + s.path.length + 2).sum ≤ (ss.map fun s => s.op.length + s.path.length + 2).sum := by
    have e := congrArg (fun l => (l.map fun s : St => s.op.length + s.path.length + 2).sum) (List.take_append_drop 40 ss)
    simp only [List.map_append, List.sum_append] at e
    omega
  have h3 : massO o ≤ massP (pile ss) := by
    unfold massP
    exact le_sum_mem (List.mem_map_of_mem ho)
  have h4 : massP (pile ss) = massP ((ss.take 40).foldl stepP []) := rfl
  have h5 : massP [] = 0 := rfl
  omega
end Go.Proofs.YtaaojfgakgjlkaaDoor
