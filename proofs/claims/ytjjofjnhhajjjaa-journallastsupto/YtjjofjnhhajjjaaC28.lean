/-
  Open's answers; Open of none, and where the power is gone.
-/
import Derived.Laws.Tables
import Derived.OwnWalk
import Derived.Lib.SlBytesConst
import Derived.Deep.RegionLaw
import Derived.Deep.CutRange
import Derived.Laws.CopyOwn
import Derived.Deep.DrawnRows
import Derived.Laws.StructEq
import Derived.Test.YtjjofjnhhajjjaaC00
import Derived.Test.YtjjofjnhhajjjaaC01
import Derived.Test.YtjjofjnhhajjjaaC02
import Derived.Test.YtjjofjnhhajjjaaC03
import Derived.Test.YtjjofjnhhajjjaaC04
import Derived.Test.YtjjofjnhhajjjaaC05
import Derived.Test.YtjjofjnhhajjjaaC06
import Derived.Test.YtjjofjnhhajjjaaC07
import Derived.Test.YtjjofjnhhajjjaaC08
import Derived.Test.YtjjofjnhhajjjaaC09
import Derived.Test.YtjjofjnhhajjjaaC10
import Derived.Test.YtjjofjnhhajjjaaC11
import Derived.Test.YtjjofjnhhajjjaaC12
import Derived.Test.YtjjofjnhhajjjaaC13
import Derived.Test.YtjjofjnhhajjjaaC17
import Derived.Test.YtjjofjnhhajjjaaC18
import Derived.Test.YtjjofjnhhajjjaaC19
import Derived.Test.YtjjofjnhhajjjaaC20
import Derived.Test.YtjjofjnhhajjjaaC21
import Derived.Test.YtjjofjnhhajjjaaC22
import Derived.Test.YtjjofjnhhajjjaaC23
import Derived.Test.YtjjofjnhhajjjaaC27
namespace Go.Proofs.Ytjjofjnhhajjjaa.Jr
open Go.RowKit
open Nd (Row wp_world post_Row grownBy_setCell grownBy_trans below_of_grown u8v Grew Sl hid_in i64r bytesS str)
open Pt (Dk PtV FS Sub Stp)
theorem load27 {w : World} {b : Nat} {v : Value} (h : Row w b [v] 27) : (loadVar 27 ⟨b, 0, none⟩).run Try.prog w = .ok v w := by
  have c : w.cell? ⟨b, 0, none⟩ = some v := h.cell 0
  simp [go_sem, c]
theorem load31 {w : World} {b : Nat} {v : Value} (h : Row w b [v] 31) : (loadVar 31 ⟨b, 0, none⟩).run Try.prog w = .ok v w := by
  have c : w.cell? ⟨b, 0, none⟩ = some v := h.cell 0
  simp [go_sem, c]
theorem res9 {w : World} (tmps : Array Value) (b2 b3 b4 : Nat) (v2 v4 : Value) (cs : List Value) (hn : cs.length = 5) (h2 : tmps.getD 2 undef = .pointer (some ⟨b2, 0, none⟩)) (h3 : tmps.getD 3 undef = .pointer (some ⟨b3, 0, none⟩)) (h4 : tmps.getD 4 undef = .pointer (some ⟨b4, 0, none⟩))
    (r2 : Row w b2 [v2] 27) (r3 : Row w b3 cs 30) (r4 : Row w b4 [v4] 31) : (results Try.f9 tmps).run Try.prog w = .ok (.tuple #[v2, .agg cs.toArray, v4]) w := by
  have l2 := load27 r2
  have l4 := load31 r4
  have l3 : (loadVar 30 ⟨b3, 0, none⟩).run Try.prog w = .ok (.agg cs.toArray) w := run_loadVar_row (P := Try.prog) w b3 30 30 cs.toArray (0, 0) _ r3 Try.underlying30 rfl (by rw [info30]; simp [hn])
  rw [Array.getD_eq_getD_getElem?] at h2 h3 h4
  simp only [results, Try.results9]
  simp [Sem.run_bind, Result.andThen, h2, h3, h4, asAddr, l2, l3, l4]
/-- the deferred function behind a body that returned -/
theorem open_door {w W : World} {R : Ending → World → Prop} {tmps : Array Value} {b2 b3 b4 : Nat} {v2 v4 : Value} {cs : List Value} (hn : cs.length = 5) (h2 : tmps.getD 2 undef = .pointer (some ⟨b2, 0, none⟩)) (h3 : tmps.getD 3 undef = .pointer (some ⟨b3, 0, none⟩)) (h4 : tmps.getD 4 undef = .pointer (some ⟨b4, 0, none⟩)) (hw : w = W)
    (r2 : Row W b2 [v2] 27) (r3 : Row W b3 cs 30) (r4 : Row W b4 [v4] 31) (h : R (.returned (.tuple #[v2, .agg cs.toArray, v4])) W) :
    bodyPostD Try.prog Try.f9 R Exit.ret { tmps := tmps, defers := [{ target := .fn (.func 25) #[.pointer (some ⟨b2, 0, none⟩), .pointer (some ⟨b3, 0, none⟩), .pointer (some ⟨b4, 0, none⟩)], args := #[] }] } w := by
  subst hw
  refine leaves_cons (f := 25) (args := #[.pointer (some ⟨b2, 0, none⟩), .pointer (some ⟨b3, 0, none⟩), .pointer (some ⟨b4, 0, none⟩)]) (by simp) (by simp [go_sem]) ?_
  refine (catch_idle _ _ _ _).mono ?_
  rintro e u' w'' ⟨rfl, rfl, rfl⟩
  exact ⟨_, res9 tmps b2 b3 b4 v2 v4 cs hn h2 h3 h4 r2 r3 r4, h⟩
/-- the rows of the three answers -/
theorem rows9 (w : World) (v2 : Value) (cs : List Value) (v4 : Value) : ∃ W3, Hid (((w.alloc (.cells #[v2] 27)).alloc (.cells cs.toArray 30)).alloc (.cells #[v4] 31) = W3) ∧ Hid (Row W3 w.heap.size [v2] 27) ∧ Hid (Row W3 (w.heap.size + 1) cs 30) ∧ Hid (Row W3 (w.heap.size + 1 + 1) [v4] 31) ∧ Hid (Below w.heap.size w W3) ∧ Hid (W3.heap.size = w.heap.size + 3) := by
  have h1 : Row (w.alloc (.cells [v2].toArray 27)) w.heap.size [v2] 27 := Row.new w [v2] 27
  have s1 : (w.alloc (.cells [v2].toArray 27)).heap.size = w.heap.size + 1 := by simp
  have b1 : Below w.heap.size w (w.alloc (.cells [v2].toArray 27)) := (Below.refl _ _).alloc (Nat.le_refl _) _
  generalize w.alloc (.cells [v2].toArray 27) = W1 at *
  have h2 : Row (W1.alloc (.cells cs.toArray 30)) (w.heap.size + 1) cs 30 := Row.newAt W1 _ cs 30 s1
  have s2 : (W1.alloc (.cells cs.toArray 30)).heap.size = w.heap.size + 2 := by simp; omega
  have b2 : Below W1.heap.size W1 (W1.alloc (.cells cs.toArray 30)) := (Below.refl _ _).alloc (Nat.le_refl _) _
  generalize W1.alloc (.cells cs.toArray 30) = W2 at *
  have h3 : Row (W2.alloc (.cells [v4].toArray 31)) (w.heap.size + 1 + 1) [v4] 31 := Row.newAt W2 _ [v4] 31 s2
  have s3 : (W2.alloc (.cells [v4].toArray 31)).heap.size = w.heap.size + 3 := by simp; omega
  have b3 : Below W2.heap.size W2 (W2.alloc (.cells [v4].toArray 31)) := (Below.refl _ _).alloc (Nat.le_refl _) _
  exact ⟨_, rfl, (h1.below b2 (by omega)).below b3 (by omega), h2.below b3 (by omega), h3, (b1.trans (b2.mono (by omega))).trans (b3.mono (by omega)), s3⟩
/-- three rows that are written over -/
theorem set9 {w W : World} {a0 c0 c1 c2 c3 c4 e0 : Value} (r2 : Row W w.heap.size [a0] 27) (r3 : Row W (w.heap.size + 1) [c0, c1, c2, c3, c4] 30) (r4 : Row W (w.heap.size + 1 + 1) [e0] 31) (q b0 b1 b2 b3 b4 E : Value) :
    ∃ W', Hid (((((((W.setCell ⟨w.heap.size, 0, none⟩ q).setCell ⟨w.heap.size + 1, 0, none⟩ b0).setCell ⟨w.heap.size + 1, 1, none⟩ b1).setCell ⟨w.heap.size + 1, 2, none⟩ b2).setCell ⟨w.heap.size + 1, 3, none⟩ b3).setCell ⟨w.heap.size + 1, 4, none⟩ b4).setCell ⟨w.heap.size + 1 + 1, 0, none⟩ E = W') ∧ Hid (Row W' w.heap.size [q] 27) ∧ Hid (Row W' (w.heap.size + 1) [b0, b1, b2, b3, b4] 30) ∧ Hid (Row W' (w.heap.size + 1 + 1) [E] 31) ∧ Hid (Grew W W' (fun b => b = w.heap.size ∨ b = w.heap.size + 1 ∨ b = w.heap.size + 1 + 1)) := by
  have g1 := grownBy_setCell W ⟨w.heap.size, 0, none⟩ q
  have s2 := r2.set_same 0 q
  have s3 := r3.grew (Grew.of_grown g1) (fun e => by simp at e)
  have s4 := r4.grew (Grew.of_grown g1) (fun e => by simp at e; omega)
  generalize W.setCell ⟨w.heap.size, 0, none⟩ q = X at *
  obtain ⟨t3, g2⟩ := set5 s3 b0 b1 b2 b3 b4
  have t2 := s2.grew (Grew.of_grown g2) (fun e => by simp at e)
  have t4 := s4.grew (Grew.of_grown g2) (fun e => by simp at e)
  generalize ((((X.setCell ⟨w.heap.size + 1, 0, none⟩ b0).setCell ⟨w.heap.size + 1, 1, none⟩ b1).setCell ⟨w.heap.size + 1, 2, none⟩ b2).setCell ⟨w.heap.size + 1, 3, none⟩ b3).setCell ⟨w.heap.size + 1, 4, none⟩ b4 = Y at *
  have g3 := grownBy_setCell Y ⟨w.heap.size + 1 + 1, 0, none⟩ E
  refine ⟨_, rfl, t2.grew (Grew.of_grown g3) (fun e => by simp at e; omega), t3.grew (Grew.of_grown g3) (fun e => by simp at e), t4.set_same 0 E, ?_⟩
  refine (((Grew.of_grown g1).mono ?_).trans ((Grew.of_grown g2).mono (T := fun b => b = w.heap.size ∨ b = w.heap.size + 1 ∨ b = w.heap.size + 1 + 1) ?_) (fun _ _ h => h)).trans ((Grew.of_grown g3).mono (T := fun b => b = w.heap.size ∨ b = w.heap.size + 1 ∨ b = w.heap.size + 1 + 1) ?_) (fun _ _ h => h)
  · intro q hq; exact .inl (Option.some.inj hq)
  · intro q hq; exact .inr (.inl (Option.some.inj hq))
  · intro q hq; exact .inr (.inr (Option.some.inj hq))
end Go.Proofs.Ytjjofjnhhajjjaa.Jr
