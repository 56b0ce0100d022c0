/-
  Two platters that lie apart.
-/
import Derived.Test.YtcdmdmbdgmihfaaA00
import Derived.Test.YtcdmdmbdgmihfaaA01
import Derived.Test.YtcdmdmbdgmihfaaA02
import Derived.Test.YtcdmdmbdgmihfaaA03
import Derived.Test.YtcdmdmbdgmihfaaA04
import Derived.Test.YtcdmdmbdgmihfaaA05
import Derived.Test.YtcdmdmbdgmihfaaA06
import Derived.Test.YtcdmdmbdgmihfaaA07
import Derived.Test.YtcdmdmbdgmihfaaA08
import Derived.Test.YtcdmdmbdgmihfaaA09
import Derived.Test.YtcdmdmbdgmihfaaA10
import Derived.Test.YtcdmdmbdgmihfaaA11
import Derived.Test.YtcdmdmbdgmihfaaA12
namespace Go.Proofs.Ytcdmdmbdgmihfaa.Pt
open Go.RowKit
open Nd (take_put Row wp_world grownBy_setCell below_of_grown grownBy_trans grown_of_below grownBy_refl u8v Grew Moved Sl hid_in i5h str)
def Dis (S T : Nat → Prop) : Prop := ∀ k, S k → ¬ T k
/-- two platters of one's own, apart -/
def Two (a W : World) (g l : Nat) (d e : Dk) : Prop := ∃ v0 v1 u0 u1, PtV W a.heap.size g v0 v1 d ∧ PtV W a.heap.size l u0 u1 e ∧ Dis (FS g v0 v1) (FS l u0 u1)
theorem Two.below {a W W' : World} {g l : Nat} {d e : Dk} (h : Two a W g l d e) (hb : Below W.heap.size W W') : Two a W' g l d e := by
  obtain ⟨v0, v1, u0, u1, h1, h2, h3⟩ := h
  exact ⟨v0, v1, u0, u1, h1.below hb, h2.below hb, h3⟩
theorem Two.row {a W W' : World} {g l r : Nat} {d e f : Dk} (h : Two a W g l d e) (hr : Row W r (rcells f) 31) (hg : W.grownBy W' (some r)) : Two a W' g l d e := by
  obtain ⟨v0, v1, u0, u1, h1, h2, h3⟩ := h
  refine ⟨v0, v1, u0, u1, h1.keep (Grew.of_grown hg) (fun k hk e => h1.typed hr (by decide) (by decide) (by cases e; exact hk)), h2.keep (Grew.of_grown hg) (fun k hk e => h2.typed hr (by decide) (by decide) (by cases e; exact hk)), h3⟩
theorem two_step {a W W' : World} {g l : Nat} {d d' e : Dk} {v0 v1 u0 u1 : Value} (_h1 : PtV W a.heap.size g v0 v1 d) (h2 : PtV W a.heap.size l u0 u1 e) (h3 : Dis (FS g v0 v1) (FS l u0 u1)) (hs : Stp W W' a.heap.size g v0 v1 d') : Two a W' g l d' e := by
  obtain ⟨x0, x1, k1, k2, k3⟩ := hs
  refine ⟨x0, x1, u0, u1, k1, h2.keep k2 (fun k hk hS => h3 k hS hk), fun k hk hl => ?_⟩
  rcases k3 k hk with h | h
  · exact h3 k h hl
  · have := (h2.fs_lt k hl).2
    omega
theorem two_new {a W W' : World} {g : Nat} {d : Dk} {v0 v1 : Value} {ev : Ending} (hb : Below a.heap.size a W) (h1 : PtV W a.heap.size g v0 v1 d) (hc : Cl W d ev W') : ∃ l, ev = .returned (.pointer (some ⟨l, 0, none⟩)) ∧ Two a W' g l d d ∧ Below W.heap.size W W' := by
  obtain ⟨l, u0, u1, rfl, h2, h3⟩ := hc
  refine ⟨l, rfl, ⟨v0, v1, u0, u1, h1.below h3, h2.base_mono hb.size, fun k hk hl => ?_⟩, h3⟩
  have e1 := (h1.fs_lt k hk).2
  have e2 := (h2.fs_lt k hl).1
  omega
/-- within the second loop -/
def Qa (a : World) (g l r q N : Nat) (d1 : Dk) (W : World) : Prop := ∃ d, Two a W g l d d1 ∧ Row W r (rcells d) 31 ∧ Row W q (rcells d1) 31 ∧ Below a.heap.size a W ∧ mx d ≤ N
theorem grown_row {W W' : World} {r q : Nat} {vs : List Value} {t : TypeId} (h : Row W q vs t) (hg : W.grownBy W' (some r)) (hne : q ≠ r) : Row W' q vs t := h.grown hg (fun e => hne (Option.some.inj e))
end Go.Proofs.Ytcdmdmbdgmihfaa.Pt
