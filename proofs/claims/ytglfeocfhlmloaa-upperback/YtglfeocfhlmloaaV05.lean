/-
  The contracts again, over values that read as names. The walks of the reference's Show and Parse. The walk of the reference's Parse.
-/
import Derived.Test.YtglfeocfhlmloaaV00
import Derived.Test.YtglfeocfhlmloaaV01
import Derived.Test.YtglfeocfhlmloaaV02
import Derived.Test.YtglfeocfhlmloaaV03
import Derived.Test.YtglfeocfhlmloaaV04
namespace Go.Proofs.Ytglfeocfhlmloaa.Vp
open Go.RowKit
/-- the value reads as these names -/
def Val (w : World) (v : Value) (xs : List Str) : Prop := ∃ p cap, v = .slice p xs.length cap ∧ Rd w p xs cap
theorem Rd.val {w : World} {p : Option Addr} {xs : List Str} {cap : Nat} (h : Rd w p xs cap) : Val w (.slice p xs.length cap) xs := ⟨p, cap, rfl, h⟩
theorem Nms.val {W : World} {base : Nat} {v : Value} {xs : List Str} (h : Nms W base v xs) : Val W v xs := h.rd
theorem Rd.drew {w w' : World} {p : Option Addr} {xs : List Str} {cap : Nat} (h : Rd w p xs cap) (hd : ∃ m, w' = w.drewN m) : Rd w' p xs cap := by
  obtain ⟨m, rfl⟩ := hd
  exact h.below (below_drewN (Below.refl _ _) m)
theorem Rd.none (w : World) : Rd w none [] 0 := ⟨by simp, by omega, fun _ => ⟨rfl, rfl⟩, 0, 0, fun h => absurd rfl h, fun j x hx => by simp at hx⟩
theorem Val.none (w : World) : Val w (.slice none 0 0) [] := ⟨_, _, rfl, Rd.none w⟩
theorem Val.below {w w' : World} {v : Value} {xs : List Str} (h : Val w v xs) (hb : Below w.heap.size w w') : Val w' v xs := by
  obtain ⟨p, cap, rfl, hr⟩ := h; exact ⟨p, cap, rfl, hr.below hb⟩
theorem Val.drew {w w' : World} {v : Value} {xs : List Str} (h : Val w v xs) (hd : ∃ m, w' = w.drewN m) : Val w' v xs := by
  obtain ⟨p, cap, rfl, hr⟩ := h; exact ⟨p, cap, rfl, hr.drew hd⟩
theorem within_v {xs ys : List Str} {u v : Value} {w : World} (hx : Val w u xs) (hy : Val w v ys) : Calls Try.prog 45 #[u, v] w fun e w' => e = .returned (.bool (withinS xs ys)) ∧ ∃ m, w' = w.drewN m := by
  obtain ⟨p, c, rfl, h1⟩ := hx; obtain ⟨q, d, rfl, h2⟩ := hy; exact within_any xs ys p q c d w h1 h2
theorem compare_v {xs ys : List Str} {u v : Value} {w : World} (hx : Val w u xs) (hy : Val w v ys) : Calls Try.prog 58 #[u, v] w fun e w' => e = .returned (.int .i64 (cmpL xs ys)) ∧ w' = w := by
  obtain ⟨p, c, rfl, h1⟩ := hx; obtain ⟨q, d, rfl, h2⟩ := hy; exact compare_any xs ys p q c d w h1 h2
theorem show_v {xs : List Str} {u : Value} {w : World} (hx : Val w u xs) (hl : Lib.lens xs + xs.length ≤ 140737488355328) : Calls Try.prog 34 #[u] w fun e w' => e = .returned (.string (B (showS xs))) ∧ Below w.heap.size w w' := by
  obtain ⟨p, c, rfl, h1⟩ := hx; exact show_any xs p c w h1 (by omega) (by have := join_le xs; omega)
end Go.Proofs.Ytglfeocfhlmloaa.Vp
namespace Go.Proofs.Ytglfeocfhlmloaa.Vp
open Go.RowKit
/-- a path's text, as the reference builds it -/
def showR (xs : List Str) : Str := if xs = [] then [47] else (xs.map (47 :: ·)).flatten
theorem showR_eq (xs : List Str) : showR xs = showS xs := by
  unfold showR showS
  cases xs with
  | nil => rfl
  | cons x r =>
    rw [if_neg (by simp), Lib.join_cons]
    simp [Lib.joinTail]
theorem val_at {w : World} {v : Value} {xs : List Str} (h : Val w v xs) : ∃ p cap b o, v = .slice p xs.length cap ∧ xs.length ≤ cap ∧ cap ≤ 9223372036854775807 ∧ (xs ≠ [] → p = some ⟨b, o, none⟩) ∧ ∀ (j : Nat) x, xs[j]? = some x → w.cell? ⟨b, o + j, none⟩ = some (.string (B x)) := by
  obtain ⟨p, cap, rfl, hr⟩ := h
  obtain ⟨b, o, h1, h2⟩ := hr.cells
  exact ⟨p, cap, b, o, rfl, hr.le, hr.big, fun hne => (h1 hne).1, h2⟩
end Go.Proofs.Ytglfeocfhlmloaa.Vp
namespace Go.Proofs.Ytglfeocfhlmloaa.Vp
open Go.RowKit
theorem pieces_plain (p : Str) (h : ∀ c ∈ p, c ≠ 47) : piecesS p = [p] := by
  induction p with
  | nil => rfl
  | cons c r ih =>
    unfold piecesS
    rw [if_neg (h c (by simp)), ih (fun d hd => h d (by simp [hd]))]
theorem pieces_stroke (p y : Str) (h : ∀ c ∈ p, c ≠ 47) : piecesS (p ++ 47 :: y) = p :: piecesS y := by
  induction p with
  | nil => simp [piecesS]
  | cons c r ih =>
    have e : piecesS (c :: (r ++ 47 :: y)) = match piecesS (r ++ 47 :: y) with | [] => [[c]] | p :: ps => (c :: p) :: ps := by
      conv => lhs; unfold piecesS
      rw [if_neg (h c (by simp))]
      rfl
    rw [List.cons_append, e, ih (fun d hd => h d (by simp [hd]))]
theorem drop_stroke {l : Str} {f i : Nat} (hf : f ≤ i) (hi : l[i]? = some 47) : l.drop f = (l.take i).drop f ++ 47 :: l.drop (i + 1) := by
  obtain ⟨hlt, he⟩ := List.getElem?_eq_some_iff.1 hi
  have h1 : l = l.take i ++ 47 :: l.drop (i + 1) := by
    conv => lhs; rw [← List.take_append_drop i l, List.drop_eq_getElem_cons hlt, he]
  conv => lhs; rw [h1, List.drop_append_of_le_length (by simp; omega)]
/-- behind the pieces that were read -/
def RA (l : Str) (pre : List Str) (f i : Nat) : Prop := (∀ d ∈ (l.take i).drop f, d ≠ 47) ∧ piecesS (l.drop 1) = pre ++ piecesS (l.drop f) ∧ pre.any long = false
theorem RA.stroke {l : Str} {pre : List Str} {f i : Nat} (h : RA l pre f i) (hf : f ≤ i) (hi : l[i]? = some 47) : piecesS (l.drop 1) = (pre ++ [(l.take i).drop f]) ++ piecesS (l.drop (i + 1)) := by
  rw [h.2.1, drop_stroke hf hi, pieces_stroke _ _ h.1]; simp
theorem any_snoc {pre : List Str} {p : Str} (h : pre.any long = false) (hp : p.length ≤ 16) : (pre ++ [p]).any long = false := by
  rw [List.any_append, h]; simp [long]; omega
theorem RA.next {l : Str} {pre : List Str} {f i : Nat} (h : RA l pre f i) (hf : f ≤ i) (hi : l[i]? = some 47) (hp : ((l.take i).drop f).length ≤ 16) : RA l (pre ++ [(l.take i).drop f]) (i + 1) (i + 1) := by
  refine ⟨fun d hd => ?_, h.stroke hf hi, any_snoc h.2.2 hp⟩
  rw [List.drop_of_length_le (by simp; omega)] at hd
  cases hd
theorem RA.le {l : Str} {pre : List Str} {f i : Nat} (h : RA l pre f i) : pre.length ≤ l.length + 1 := by
  have h1 := pieces_len (l.drop 1)
  rw [h.2.1, List.length_append, List.length_drop] at h1
  omega
theorem Nms.grown {W W' : World} {base : Nat} {v : Value} {xs : List Str} {row : Option Nat} (h : Nms W base v xs) (hg : W.grownBy W' row) (hne : ∀ k, v.ownBlock = some k → row ≠ some k) : Nms W' base v xs := by
  refine World.ownsRow.kept h hg ?_
  rcases h.2 with ⟨rfl, _⟩ | ⟨g, cap, cur, rfl, _, hgb, _⟩
  · exact .inl rfl
  · exact .inr (fun e => hne g (by simp [Value.ownBlock]) (by simpa [Value.ownBlock] using e.symm))
end Go.Proofs.Ytglfeocfhlmloaa.Vp
