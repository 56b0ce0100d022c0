/-
  fold: what the calls' worlds are.
-/
import Derived.Laws.Tables
import Derived.Laws.CopyOwn
import Derived.OwnWalk
import Derived.Deep.CutRange
import Derived.Lib.SlBytesConst
import Derived.Deep.RegionLaw
import Derived.Deep.DrawnRows
import Derived.Laws.StructEq
import Derived.Test.YtjjofjnhhajjjaaB00
import Derived.Test.YtjjofjnhhajjjaaB01
import Derived.Test.YtjjofjnhhajjjaaB02
import Derived.Test.YtjjofjnhhajjjaaB03
import Derived.Test.YtjjofjnhhajjjaaB04
import Derived.Test.YtjjofjnhhajjjaaB05
import Derived.Test.YtjjofjnhhajjjaaB06
import Derived.Test.YtjjofjnhhajjjaaB07
import Derived.Test.YtjjofjnhhajjjaaB08
import Derived.Test.YtjjofjnhhajjjaaB09
import Derived.Test.YtjjofjnhhajjjaaB10
import Derived.Test.YtjjofjnhhajjjaaB11
import Derived.Test.YtjjofjnhhajjjaaB12
import Derived.Test.YtjjofjnhhajjjaaB13
namespace Go.Proofs.Ytjjofjnhhajjjaa.Jr
open Go.RowKit
open Nd (Row wp_world post_Row post_Row2 grownBy_setCell grownBy_trans below_of_grown u8v Grew Sl hid_in i64r bytesS str encO)
theorem row_drewJ {w : World} {b : Nat} {vs : List Value} {t : TypeId} (h : Row w b vs t) : Row w.drew b vs t := h.below (B := w.heap.size) ((Below.refl _ _).drew) h.lt
theorem info106 : (Try.prog.info? 106).map (·.size) = some 4 := by kernel_rfl
def makers (rc : Value) : List Value := [.func (.func 67) #[rc] #[], .func (.func 68) #[rc] #[], .func (.func 69) #[rc] #[], .func (.func 70) #[rc] #[]]
theorem makers_one (rc : Value) : ∀ v ∈ makers rc, v.oneCell' = true := by
  intro v hv
  simp [makers] at hv
  rcases hv with rfl | rfl | rfl | rfl <;> rfl
def foldO : Option Kt → Option Kt
  | none => none
  | some n => if may n = true then some n else none
theorem foldS_O (r : Rc) (k : Kt) : foldS r k = foldO (nextS r k) := by
  unfold foldS foldO
  cases nextS r k <;> rfl
theorem Mk.none_ {w w' : World} {B : Nat} {vk : Value} {e : Ending} (h : Mk w w' B vk none e) : Below B w w' ∧ e = .returned (.tuple #[.agg #[.int .i64 0, .int .i64 0, .int .i64 0, .string ⟨#[]⟩, .slice none 0 0], .bool false]) := by
  obtain ⟨h1, ⟨_, h2⟩ | ⟨n, v, h2, _⟩⟩ := h
  · exact ⟨h1, h2⟩
  · cases h2
theorem Mk.some_ {w w' : World} {B : Nat} {vk : Value} {e : Ending} {nv nn nb : Int} {ns : ByteArray} {ne : List Ent} (h : Mk w w' B vk (some ⟨nv, nn, nb, ns, ne⟩) e) : Below B w w' ∧ ∃ p c, e = .returned (.tuple #[.agg #[.int .i64 nv, .int .i64 nn, .int .i64 nb, .string ns, .slice p ne.length c], .bool true]) ∧ Es w' (.slice p ne.length c) ne ∧ (.slice p ne.length c = vk ∨ EO w' B (.slice p ne.length c) ne) := by
  obtain ⟨h1, ⟨h2, _⟩ | ⟨n, v, h2, h3, h4, h5⟩⟩ := h
  · cases h2
  · cases h2
    obtain ⟨p, c, rfl, _, _⟩ := h4.form
    exact ⟨h1, p, c, h3, h4, h5⟩
/-- what a region leaves that called a maker -/
def Fo (w W : World) (vk : Value) (o : Option Kt) (p q : Value) : Prop :=
  Hid (Below w.heap.size w W) ∧ Hid (Row W (w.heap.size + 1 + 1) zcells 30) ∧ Hid (w.heap.size + 3 ≤ W.heap.size) ∧
    ((o = none ∧ q = .bool false) ∨ ∃ n v b, o = some n ∧ q = .bool true ∧ p = .pointer (some ⟨b, 0, none⟩) ∧ Hid (w.heap.size + 3 ≤ b) ∧ Hid (Row W b (n.cells v) 30) ∧ Hid (Es W v n.ents) ∧ Hid (v = vk ∨ EO W (w.heap.size + 3) v n.ents))
theorem Es.old {w0 w6 W : World} {z : Nat} {v : Value} {xs ne : List Ent} (h : Es w0 v xs) (h6 : Es w6 v ne) (hg : w6.grownBy W (some z)) (hz : w0.heap.size ≤ z) : Es W v ne := by
  by_cases hne : ne = []
  · subst hne
    obtain ⟨p, cap, b, o, rfl, h2, h3, h4, h5, h7⟩ := h6
    exact ⟨p, cap, b, o, rfl, h2, h3, fun e => absurd rfl e, fun j u hj => by simp [ecells] at hj, h7⟩
  · refine h6.grown hg (fun e => ?_)
    obtain ⟨p, cap, b, o, rfl, h2, h3, h4, h5, h7⟩ := h
    obtain ⟨p', cap', b', o', h1', h2', h3', h4', h5', h7'⟩ := h6
    simp only [Value.slice.injEq] at h1'
    obtain ⟨rfl, hl, rfl⟩ := h1'
    have hx : xs ≠ [] := by
      rintro rfl
      exact hne (List.length_eq_zero_iff.1 hl.symm)
    obtain ⟨rfl, hb⟩ := h4 hx
    have e2 : b = z := by simpa [Value.ownBlock] using e
    omega
theorem zrow_keep {w W W' : World} {z : Nat} (hz : Row W (w.heap.size + 1 + 1) zcells 30) (hg : W.grownBy W' (some z)) (h : w.heap.size + 3 ≤ z) : Row W' (w.heap.size + 1 + 1) zcells 30 :=
  hz.grew (Grew.of_grown hg) (fun e => by simp at e; omega)
theorem fo_none_new {w w6 : World} {vk p : Value} (cs : Array Value) (hb : Below w.heap.size w w6) (hz : Row w6 (w.heap.size + 1 + 1) zcells 30) (hs : w.heap.size + 3 ≤ w6.heap.size) : Fo w (w6.alloc (.cells cs 30)) vk none p (.bool false) := by
  have h1 : Below w6.heap.size w6 (w6.alloc (.cells cs 30)) := (Below.refl _ _).alloc (Nat.le_refl _) _
  exact ⟨hb.trans (h1.mono hb.size), hz.below h1 hz.lt, Nat.le_trans hs h1.size, .inl ⟨rfl, rfl⟩⟩
theorem fo_some_new {w w6 : World} {vk v : Value} {nv nn nb : Int} {ns : ByteArray} {ne : List Ent} {C : Nat} (hb : Below w.heap.size w w6) (hz : Row w6 (w.heap.size + 1 + 1) zcells 30) (hs : w.heap.size + 3 ≤ w6.heap.size) (hC : w.heap.size + 3 ≤ C) (he : Es w6 v ne) (hv : v = vk ∨ EO w6 C v ne) :
    Fo w (w6.alloc (.cells #[.int .i64 nv, .int .i64 nn, .int .i64 nb, .string ns, v] 30)) vk (some ⟨nv, nn, nb, ns, ne⟩) (.pointer (some ⟨w6.heap.size, 0, none⟩)) (.bool true) := by
  have h1 : Below w6.heap.size w6 (w6.alloc (.cells #[.int .i64 nv, .int .i64 nn, .int .i64 nb, .string ns, v] 30)) := (Below.refl _ _).alloc (Nat.le_refl _) _
  exact ⟨hb.trans (h1.mono hb.size), hz.below h1 hz.lt, Nat.le_trans hs h1.size, .inr ⟨_, v, w6.heap.size, rfl, rfl, rfl, hs, Row.new w6 [.int .i64 nv, .int .i64 nn, .int .i64 nb, .string ns, v] 30, he.below h1, hv.imp id (fun h => (EO.below h h1).mono hC)⟩⟩
theorem fo_none_old {w w6 : World} {vk p : Value} {b : Nat} {b0 b1 b2 b3 b4 : Value} (hb : Below w.heap.size w w6) (hz : Row w6 (w.heap.size + 1 + 1) zcells 30) (hs : w.heap.size + 3 ≤ b) (hq : Row w6 b zcells 30) :
    Fo w (((((w6.setCell ⟨b, 0, none⟩ b0).setCell ⟨b, 1, none⟩ b1).setCell ⟨b, 2, none⟩ b2).setCell ⟨b, 3, none⟩ b3).setCell ⟨b, 4, none⟩ b4) vk none p (.bool false) := by
  obtain ⟨h1, h2⟩ := set5 hq b0 b1 b2 b3 b4
  exact ⟨hb.grown h2 hb.size (fun k e => by cases e; omega), zrow_keep hz h2 hs, Nat.le_trans (Nat.le_trans hs (Nat.le_of_lt hq.lt)) h2.size, .inl ⟨rfl, rfl⟩⟩
theorem fo_some_old {w w6 : World} {vk v : Value} {nv nn nb : Int} {ns : ByteArray} {xs ne : List Ent} {b C : Nat} (hb : Below w.heap.size w w6) (hz : Row w6 (w.heap.size + 1 + 1) zcells 30) (hs : w.heap.size + 3 ≤ b) (hq : Row w6 b zcells 30) (hk : Es w vk xs) (hC : b < C) (he : Es w6 v ne) (hv : v = vk ∨ EO w6 C v ne) :
    Fo w (((((w6.setCell ⟨b, 0, none⟩ (.int .i64 nv)).setCell ⟨b, 1, none⟩ (.int .i64 nn)).setCell ⟨b, 2, none⟩ (.int .i64 nb)).setCell ⟨b, 3, none⟩ (.string ns)).setCell ⟨b, 4, none⟩ v) vk (some ⟨nv, nn, nb, ns, ne⟩) (.pointer (some ⟨b, 0, none⟩)) (.bool true) := by
  obtain ⟨h1, h2⟩ := set5 hq (.int .i64 nv) (.int .i64 nn) (.int .i64 nb) (.string ns) v
  refine ⟨hb.grown h2 hb.size (fun k e => by cases e; omega), zrow_keep hz h2 hs, Nat.le_trans (Nat.le_trans hs (Nat.le_of_lt hq.lt)) h2.size, .inr ⟨_, v, b, rfl, rfl, rfl, hs, h1, ?_, ?_⟩⟩
  · rcases hv with rfl | hv
    · exact hk.old he h2 (by omega)
    · exact (hv.keepN h2 hC).es
  · exact hv.imp id (fun h => (h.keepN h2 hC).mono (by omega))
theorem foldO_yes {n : Kt} (h : may n = true) : foldO (some n) = some n := by
  show (if may n = true then some n else none) = some n
  rw [if_pos h]
theorem foldO_no {n : Kt} (h : ¬ may n = true) : foldO (some n) = none := by
  show (if may n = true then some n else none) = none
  rw [if_neg h]
/-- what a maker's answer holds -/
def MkR (w' : World) (B : Nat) (vk : Value) (o : Option Kt) (nv nn nb : Int) (ns : ByteArray) (v : Value) (q : Bool) : Prop :=
  (o = none ∧ q = false) ∨ (q = true ∧ ∃ ne, o = some ⟨nv, nn, nb, ns, ne⟩ ∧ Es w' v ne ∧ (v = vk ∨ EO w' B v ne))
theorem Mk.form {w w' : World} {B : Nat} {vk : Value} {o : Option Kt} {e : Ending} (h : Mk w w' B vk o e) : Below B w w' ∧ ∃ nv nn nb ns p l c q, e = .returned (.tuple #[.agg #[.int .i64 nv, .int .i64 nn, .int .i64 nb, .string ns, .slice p l c], .bool q]) ∧ MkR w' B vk o nv nn nb ns (.slice p l c) q := by
  rcases o with _ | ⟨nv, nn, nb, ns, ne⟩
  · obtain ⟨h1, h2⟩ := h.none_
    exact ⟨h1, 0, 0, 0, ⟨#[]⟩, none, 0, 0, false, h2, .inl ⟨rfl, rfl⟩⟩
  · obtain ⟨h1, p, c, h2, h3, h4⟩ := h.some_
    exact ⟨h1, nv, nn, nb, ns, p, _, c, true, h2, .inr ⟨rfl, ne, rfl, h3, h4⟩⟩
theorem fo_new {w w6 : World} {vk v : Value} {o : Option Kt} {nv nn nb : Int} {ns : ByteArray} {q : Bool} {C : Nat} (hb : Below w.heap.size w w6) (hz : Row w6 (w.heap.size + 1 + 1) zcells 30) (hs : w.heap.size + 3 ≤ w6.heap.size) (hC : w.heap.size + 3 ≤ C) (hm : MkR w6 C vk o nv nn nb ns v q) :
    Fo w (w6.alloc (.cells #[.int .i64 nv, .int .i64 nn, .int .i64 nb, .string ns, v] 30)) vk o (.pointer (some ⟨w6.heap.size, 0, none⟩)) (.bool q) := by
  rcases hm with ⟨rfl, rfl⟩ | ⟨rfl, ne, rfl, he, hv⟩
  · exact fo_none_new _ hb hz hs
  · exact fo_some_new hb hz hs hC he hv
theorem fo_old {w w6 : World} {vk v : Value} {o : Option Kt} {nv nn nb : Int} {ns : ByteArray} {q : Bool} {xs : List Ent} {b C : Nat} (hb : Below w.heap.size w w6) (hz : Row w6 (w.heap.size + 1 + 1) zcells 30) (hs : w.heap.size + 3 ≤ b) (hq : Row w6 b zcells 30) (hk : Es w vk xs) (hC : b < C) (hm : MkR w6 C vk o nv nn nb ns v q) :
    Fo w (((((w6.setCell ⟨b, 0, none⟩ (.int .i64 nv)).setCell ⟨b, 1, none⟩ (.int .i64 nn)).setCell ⟨b, 2, none⟩ (.int .i64 nb)).setCell ⟨b, 3, none⟩ (.string ns)).setCell ⟨b, 4, none⟩ v) vk o (.pointer (some ⟨b, 0, none⟩)) (.bool q) := by
  rcases hm with ⟨rfl, rfl⟩ | ⟨rfl, ne, rfl, he, hv⟩
  · exact fo_none_old hb hz hs hq
  · exact fo_some_old hb hz hs hq hk hC he hv
/-- the tail: what is kept is answered -/
theorem mk_tailE {w w1 : World} {kv kn kb : Int} {ks : ByteArray} {vk v : Value} {xs es : List Ent} (hb : Below w.heap.size w w1) (hz : Row w1 (w.heap.size + 1 + 1) zcells 30) (hk : Es w vk xs) (he : Es w1 v es) (hv : v = vk ∨ EO w1 (w.heap.size + 3) v es) :
    ∃ W, Hid ((((((w1.setCell ⟨w.heap.size + 1 + 1, 0, none⟩ (.int .i64 kv)).setCell ⟨w.heap.size + 1 + 1, 1, none⟩ (.int .i64 kn)).setCell ⟨w.heap.size + 1 + 1, 2, none⟩ (.int .i64 kb)).setCell ⟨w.heap.size + 1 + 1, 3, none⟩ (.string ks)).setCell ⟨w.heap.size + 1 + 1, 4, none⟩ v) = W) ∧
      Hid (Row W (w.heap.size + 1 + 1) [.int .i64 kv, .int .i64 kn, .int .i64 kb, .string ks, v] 30) ∧ Hid (Below w.heap.size w W) ∧ Hid (Es W v es) ∧ Hid (v = vk ∨ EO W w.heap.size v es) := by
  obtain ⟨h1, h2⟩ := set5 hz (.int .i64 kv) (.int .i64 kn) (.int .i64 kb) (.string ks) v
  refine ⟨_, rfl, h1, hb.grown h2 hb.size (fun k e => by cases e; exact Nat.le_trans (Nat.le_succ _) (Nat.le_succ _)), ?_, ?_⟩
  · rcases hv with rfl | hv
    · exact hk.old he h2 (by omega)
    · exact (hv.keepN h2 (by omega)).es
  · exact hv.imp id (fun h => (h.keepN h2 (by omega)).mono (by omega))
end Go.Proofs.Ytjjofjnhhajjjaa.Jr
