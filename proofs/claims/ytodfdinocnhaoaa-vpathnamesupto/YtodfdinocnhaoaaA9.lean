/-
  The contracts again, over values that read as names.
-/
import Derived.Test.YtodfdinocnhaoaaA8
namespace Go.Proofs.Ytodfdinocnhaoaa
open Go.RowKit

/-- the value reads as these names -/
def Val (w : World) (v : Value) (xs : List Str) : Prop := ∃ p cap, v = .slice p xs.length cap ∧ Rd w p xs cap
theorem Rd.val {w : World} {p : Option Addr} {xs : List Str} {cap : Nat} (h : Rd w p xs cap) : Val w (.slice p xs.length cap) xs := ⟨p, cap, rfl, h⟩
theorem Nms.val {W : World} {base : Nat} {v : Value} {xs : List Str} (h : Nms W base v xs) : Val W v xs := h.rd
theorem Rd.drew {w w' : World} {p : Option Addr} {xs : List Str} {cap : Nat} (h : Rd w p xs cap) (hd : ∃ m, w' = w.drewN m) : Rd w' p xs cap := by
  obtain ⟨m, rfl⟩ := hd
  exact h.below (below_drewN (Below.refl _ _) m)
theorem Rd.none (w : World) : Rd w none [] 0 := ⟨by simp, by omega, fun _ => ⟨rfl, rfl⟩, 0, 0, fun h => absurd rfl h, fun j x hx => by simp at hx⟩
theorem below_ex {w w1 w2 : World} (h : Below w.heap.size w w1) (hd : ∃ m, w2 = w1.drewN m) : Below w.heap.size w w2 := by
  obtain ⟨m, rfl⟩ := hd
  exact below_drewN h m
theorem Val.none (w : World) : Val w (.slice none 0 0) [] := ⟨_, _, rfl, Rd.none w⟩
theorem Val.below {w w' : World} {v : Value} {xs : List Str} (h : Val w v xs) (hb : Below w.heap.size w w') : Val w' v xs := by
  obtain ⟨p, cap, rfl, hr⟩ := h; exact ⟨p, cap, rfl, hr.below hb⟩
theorem Val.drew {w w' : World} {v : Value} {xs : List Str} (h : Val w v xs) (hd : ∃ m, w' = w.drewN m) : Val w' v xs := by
  obtain ⟨p, cap, rfl, hr⟩ := h; exact ⟨p, cap, rfl, hr.drew hd⟩

theorem texts_v {xs ys : List Str} {u v : Value} {w : World} (hx : Val w u xs) (hy : Val w v ys) : Calls Try.prog 13 #[u, v] w fun e w' => e = .returned (.bool (decide (xs = ys))) ∧ ∃ m, w' = w.drewN m := by
  obtain ⟨p, c, rfl, h1⟩ := hx; obtain ⟨q, d, rfl, h2⟩ := hy; exact texts_any xs ys p q c d w h1 h2
theorem within_v {xs ys : List Str} {u v : Value} {w : World} (hx : Val w u xs) (hy : Val w v ys) : Calls Try.prog 20 #[u, v] w fun e w' => e = .returned (.bool (withinS xs ys)) ∧ ∃ m, w' = w.drewN m := by
  obtain ⟨p, c, rfl, h1⟩ := hx; obtain ⟨q, d, rfl, h2⟩ := hy; exact within_any xs ys p q c d w h1 h2
theorem rwithin_v {xs ys : List Str} {u v : Value} {w : World} (hx : Val w u xs) (hy : Val w v ys) : Calls Try.prog 21 #[u, v] w fun e w' => e = .returned (.bool (withinS xs ys)) ∧ ∃ m, w' = w.drewN m := by
  obtain ⟨p, c, rfl, h1⟩ := hx; obtain ⟨q, d, rfl, h2⟩ := hy; exact rwithin_any xs ys p q c d w h1 h2
theorem compare_v {xs ys : List Str} {u v : Value} {w : World} (hx : Val w u xs) (hy : Val w v ys) : Calls Try.prog 18 #[u, v] w fun e w' => e = .returned (.int .i64 (cmpL xs ys)) ∧ w' = w := by
  obtain ⟨p, c, rfl, h1⟩ := hx; obtain ⟨q, d, rfl, h2⟩ := hy; exact compare_any xs ys p q c d w h1 h2
theorem rcompare_v {xs ys : List Str} {u v : Value} {w : World} (hx : Val w u xs) (hy : Val w v ys) : Calls Try.prog 19 #[u, v] w fun e w' => e = .returned (.int .i64 (cmpL xs ys)) ∧ ∃ m, w' = w.drewN m := by
  obtain ⟨p, c, rfl, h1⟩ := hx; obtain ⟨q, d, rfl, h2⟩ := hy; exact rcompare_any xs ys p q c d w h1 h2
theorem show_v {xs : List Str} {u : Value} {w : World} (hx : Val w u xs) (hl : Lib.lens xs + xs.length ≤ 140737488355328) : Calls Try.prog 17 #[u] w fun e w' => e = .returned (.string (B (showS xs))) ∧ Below w.heap.size w w' := by
  obtain ⟨p, c, rfl, h1⟩ := hx; exact show_any xs p c w h1 (by omega) (by have := join_le xs; omega)
end Go.Proofs.Ytodfdinocnhaoaa
