/-
  A name behind a path, and texts with strokes and dots more.
-/
import Derived.Test.YtodfdinocnhaoaaQ1
import Derived.Test.YtodfdinocnhaoaaC1
namespace Go.Proofs.Ytodfdinocnhaoaa

theorem pieces_ne (x : Str) : ∃ p ps, piecesS x = p :: ps := by
  cases x with
  | nil => exact ⟨_, _, rfl⟩
  | cons c r =>
    by_cases h : c = 47
    · exact ⟨_, _, by rw [piecesS, if_pos h]⟩
    · cases hq : piecesS r with
      | nil => exact ⟨[c], [], by rw [piecesS, if_neg h, hq]⟩
      | cons p ps => exact ⟨c :: p, ps, by rw [piecesS, if_neg h, hq]⟩
theorem pieces_app (l y : Str) : piecesS (l ++ 47 :: y) = piecesS l ++ piecesS y := by
  induction l with
  | nil => simp [piecesS]
  | cons c r ih =>
    by_cases h : c = 47
    · have e1 : piecesS (c :: (r ++ 47 :: y)) = [] :: piecesS (r ++ 47 :: y) := by conv => lhs; rw [piecesS, if_pos h]
      have e2 : piecesS (c :: r) = [] :: piecesS r := by conv => lhs; rw [piecesS, if_pos h]
      rw [List.cons_append, e1, e2, ih]; rfl
    · obtain ⟨p, ps, hp⟩ := pieces_ne r
      have e1 : piecesS (c :: (r ++ 47 :: y)) = match piecesS (r ++ 47 :: y) with | [] => [[c]] | p :: ps => (c :: p) :: ps := by
        conv => lhs; unfold piecesS
        rw [if_neg h]; rfl
      have e2 : piecesS (c :: r) = (c :: p) :: ps := by
        conv => lhs; unfold piecesS
        rw [if_neg h, hp]
      rw [List.cons_append, e1, e2, ih, hp]; rfl

theorem show_snoc {xs : List Str} (h : xs ≠ []) (nm : Str) : (showS xs ++ [47]) ++ nm = showS (xs ++ [nm]) := by
  rw [← showR_eq, ← showR_eq]
  unfold showR
  rw [if_neg h, if_neg (by simp)]
  simp
theorem show_one (nm : Str) : [47] ++ nm = showS [nm] := by
  rw [← showR_eq]; unfold showR; rw [if_neg (by simp)]; simp
theorem path_snoc {xs : List Str} {nm : Str} (h : IsPath xs) (hn : isNameS nm = true) : IsPath (xs ++ [nm]) := by
  intro x hx
  rcases List.mem_append.1 hx with hx | hx
  · exact h x hx
  · simp at hx; subst hx; exact hn
theorem below_parse {xs : List Str} {nm T : Str} (hT : T ++ nm = showS (xs ++ [nm])) (hp : IsPath xs) (hn : isNameS nm = true) (hl : T.length + nm.length + 3 ≤ 256) (h8 : xs.length ≤ 8) :
    parseS (T ++ nm) = if xs.length = 8 then ([], 42) else (xs ++ [nm], 0) := by
  have hlen : (showS (xs ++ [nm])).length ≤ 256 := by rw [← hT]; simp; omega
  rw [hT, parse_show (path_snoc hp hn) hlen]
  by_cases h : xs.length = 8
  · rw [if_pos h, if_pos (by simp; omega)]
  · rw [if_neg h, if_neg (by simp; omega)]
theorem below_back {xs : List Str} {nm T : Str} (hT : T ++ nm = showS (xs ++ [nm])) (hp : IsPath xs) (hn : isNameS nm = true) (hl : T.length + nm.length + 3 ≤ 256) (h8 : xs.length ≤ 8) :
    parseS ((T ++ nm) ++ [47, 46, 46]) = (xs, 0) := by
  have hpp := path_snoc hp hn
  have hok : ((T ++ nm) ++ [47, 46, 46]).all okByte = true := by
    rw [List.all_append, hT, show_ok hpp]; decide
  have hl2 : ((T ++ nm) ++ [47, 46, 46]).length ≤ 256 := by simp; omega
  have e : (T ++ nm) ++ [47, 46, 46] = 47 :: (Lib.join (xs ++ [nm]) [47] ++ 47 :: [46, 46]) := by rw [hT]; rfl
  rw [e] at hok hl2 ⊢
  have hpc : piecesS (Lib.join (xs ++ [nm]) [47] ++ 47 :: [46, 46]) = (xs ++ [nm]) ++ [[46, 46]] := by
    rw [pieces_app]
    have h1 : piecesS (Lib.join (xs ++ [nm]) [47]) = xs ++ [nm] := by
      cases hx : xs ++ [nm] with
      | nil => simp at hx
      | cons y r =>
        rw [hx] at hpp
        rw [Lib.join_cons]; exact pieces_tail (fun z hz => hpp z (by simp [hz])) y (name_no (hpp y (by simp)))
    rw [h1, pieces_plain [46, 46] (by decide)]
  have hlong : ((xs ++ [nm]) ++ [[46, 46]]).any long = false := by
    rw [List.any_append, long_none hpp]; decide
  have hnm : namesS ((xs ++ [nm]) ++ [[46, 46]]) = xs := by
    rw [names_snoc, names_self hpp]
    unfold stepS
    rw [if_neg (by decide), if_pos rfl]; simp
  rw [parse_of hl2 hok hpc hlong hnm, if_neg (by omega)]
theorem below_split {xs : List Str} {nm : Str} (hp : IsPath xs) (hn : isNameS nm = true) (h8 : xs.length < 8) : splitS (xs ++ [nm]) = (xs, nm, 0) := by
  have hpp := path_snoc hp hn
  have hc : checkS (xs ++ [nm]) = 0 := by
    unfold checkS
    rw [if_neg (by rw [List.all_eq_true.2 hpp]; simp), if_neg (by simp; omega)]
  unfold splitS
  rw [hc, if_neg (by simp), if_neg (by simp)]
  simp
theorem below_within (xs : List Str) (nm : Str) : withinS (xs ++ [nm]) xs = true ∧ withinS xs (xs ++ [nm]) = false ∧ cmpL xs (xs ++ [nm]) = -1 := by
  refine ⟨decide_eq_true ⟨by simp, by simp⟩, decide_eq_false (fun h => by have := h.1; simp at this; omega), ?_⟩
  have : cmpL (xs ++ []) (xs ++ [nm]) = cmpL [] [nm] := lexC_pre cmpS_is _ _ _
  rw [List.append_nil] at this
  rw [this]; rfl

/-- m times a dot and a stroke -/
def dots : Nat → Str
  | 0 => []
  | m + 1 => dots m ++ [46, 47]
/-- strokes and dots more -/
def wideS (m : Nat) (xs : List Str) : Str := (xs.map fun x => 47 :: (dots m ++ x ++ [47])).flatten
theorem dots_ok (m : Nat) : (dots m).all okByte = true := by
  induction m with
  | zero => rfl
  | succ m ih => unfold dots; rw [List.all_append, ih]; decide
theorem dots_len (m : Nat) : (dots m).length = 2 * m := by
  induction m with
  | zero => rfl
  | succ m ih => unfold dots; rw [List.length_append, ih]; simp; omega
theorem fold_dots (m : Nat) (y : Str) (acc : List Str) : (piecesS (dots m ++ y)).foldl stepS acc = (piecesS y).foldl stepS acc ∧ (piecesS (dots m ++ y)).any long = (piecesS y).any long := by
  induction m generalizing y with
  | zero => exact ⟨rfl, rfl⟩
  | succ m ih =>
    have e : dots (m + 1) ++ y = dots m ++ ([46] ++ 47 :: y) := by show (dots m ++ [46, 47]) ++ y = _; simp
    rw [e, (ih _).1, (ih _).2, pieces_stroke [46] y (by decide)]
    refine ⟨?_, ?_⟩
    · rw [List.foldl_cons]
      have : stepS acc [46] = acc := by unfold stepS; rw [if_pos (.inr rfl)]
      rw [this]
    · rw [List.any_cons]; rfl
theorem fold_wide (m : Nat) {xs : List Str} (h : IsPath xs) (acc : List Str) : (piecesS (wideS m xs)).foldl stepS acc = acc ++ xs ∧ (piecesS (wideS m xs)).any long = false := by
  induction xs generalizing acc with
  | nil => exact ⟨by simp [wideS, piecesS, stepS], rfl⟩
  | cons x r ih =>
    have hx := h x (by simp)
    have e : wideS m (x :: r) = [] ++ 47 :: (dots m ++ (x ++ 47 :: wideS m r)) := by simp [wideS]
    rw [e, pieces_stroke [] _ (by simp), List.foldl_cons, List.any_cons]
    have h0 : stepS acc [] = acc := by unfold stepS; rw [if_pos (.inl rfl)]
    rw [h0, (fold_dots m _ acc).1, (fold_dots m _ acc).2, pieces_stroke x _ (name_no hx), List.foldl_cons, List.any_cons, step_name acc hx]
    have ih2 := ih (fun y hy => h y (by simp [hy])) (acc ++ [x])
    rw [ih2.1, ih2.2]
    have hl := (name_facts hx).2.2.2.1
    refine ⟨by simp, ?_⟩
    have h1 : long [] = false := by decide
    have h2 : long x = false := by simp [long]; omega
    rw [h1, h2]; rfl
theorem wide_ok (m : Nat) {xs : List Str} (h : IsPath xs) : (wideS m xs).all okByte = true := by
  unfold wideS
  rw [List.all_flatten, List.all_map, List.all_eq_true]
  intro x hx
  simp only [Function.comp, List.all_cons, List.all_append, ok_name (h x hx), dots_ok, Bool.and_true, Bool.true_and]
  decide
theorem wide_parse (m : Nat) {xs : List Str} (h : IsPath xs) (h0 : xs ≠ []) (h8 : xs.length ≤ 8) (hl : (wideS m xs).length ≤ 256) : parseS (wideS m xs) = (xs, 0) := by
  cases xs with
  | nil => exact absurd rfl h0
  | cons x r =>
    have hx := h x (by simp)
    have hok := wide_ok m h
    have e : wideS m (x :: r) = 47 :: (dots m ++ (x ++ 47 :: wideS m r)) := by simp [wideS]
    have hf := fold_wide m h []
    rw [e] at hok hl hf ⊢
    have e2 : piecesS (47 :: (dots m ++ (x ++ 47 :: wideS m r))) = [] :: piecesS (dots m ++ (x ++ 47 :: wideS m r)) := by rw [piecesS, if_pos rfl]
    rw [e2, List.foldl_cons, List.any_cons] at hf
    have h1 : stepS [] [] = [] := by decide
    rw [h1] at hf
    have hlong : (piecesS (dots m ++ (x ++ 47 :: wideS m r))).any long = false := by
      have := hf.2
      rw [Bool.or_eq_false_iff] at this
      exact this.2
    rw [parse_of hl hok rfl hlong (show namesS _ = x :: r by unfold namesS; rw [hf.1]; rfl), if_neg (by omega)]
theorem clean_of {s : Str} {xs : List Str} (h : parseS s = (xs, 0)) : cleanS s = showS xs ∧ (parseS s).2 = 0 := by
  unfold cleanS; rw [h]; exact ⟨rfl, rfl⟩
end Go.Proofs.Ytodfdinocnhaoaa
