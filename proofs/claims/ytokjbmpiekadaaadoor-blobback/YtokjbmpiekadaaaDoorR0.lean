/-
  The loops of a function's code, taken out by a function.
-/
import Derived.Test.YtokjbmpiekadaaaDoorW17
namespace Go.Proofs.YtokjbmpiekadaaaDoor
open Go.RowKit

/-- the bodies of the loops of a code that lie within no other loop, in order -/
def loopsIn : Code → List Code
  | .loop c => [c]
  | .seq a b => loopsIn a ++ loopsIn b
  | .block _ c => loopsIn c
  | .scope c => loopsIn c
  | .cond _ a b => loopsIn a ++ loopsIn b
  | _ => []

/-- an end that is no panic -/
def noPanic (Q : Exit → Act → World → Prop) : Exit → Act → World → Prop
  | .panic _, _, _ => False
  | e, a, w => Q e a w
theorem noPanic_of (Q : Exit → Act → World → Prop) : ∀ e a w, noPanic Q e a w → Q e a w := by
  intro e a w h
  cases e <;> first | exact h | exact h.elim
theorem noPanic_exit (Q : Exit → Act → World → Prop) (n : Nat) (a : Act) (w : World) : noPanic Q (.exit n) a w = Q (.exit n) a w := rfl
theorem noPanic_normal (Q : Exit → Act → World → Prop) (a : Act) (w : World) : noPanic Q .normal a w = Q .normal a w := rfl

/-- a block's word while its first k bytes have been laid into it -/
def pw (bl : List Nat) (t : Nat) : Nat → Nat
  | 0 => 0
  | k + 1 => pw bl t k * 256 + bl.getD (4 * t + k) 0
theorem pw_lt (bl : List Nat) (h : ∀ x ∈ bl, x < 256) (t k : Nat) (hk : k < 4) : pw bl t k < 16777216 := by
  have h0 := getD_lt h (4 * t + 0)
  have h1 := getD_lt h (4 * t + 1)
  have h2 := getD_lt h (4 * t + 2)
  obtain rfl | rfl | rfl | rfl : k = 0 ∨ k = 1 ∨ k = 2 ∨ k = 3 := by omega
  all_goals simp only [pw]; omega
theorem pw_all (bl : List Nat) (t : Nat) : pw bl t 4 = Sha.word0 bl t := by
  simp only [pw, Sha.word0, Nat.add_zero]; omega
theorem pw_form (x y : Nat) (hx : x < 16777216) (hy : y < 256) : bits .or .u32 ((x : Int) * 256) (y : Int) = ((x * 256 + y : Nat) : Int) := by
  have e : (x : Int) * 256 = ((x * 256 : Nat) : Int) := by simp
  rw [e, or_join 8 _ _ (by omega) (by omega) (by omega) (by omega)]
theorem set_set {α : Type} (l : List α) (k : Nat) (x y : α) : (l.set k x).set k y = l.set k y := List.set_set ..
end Go.Proofs.YtokjbmpiekadaaaDoor
