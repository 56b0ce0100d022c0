/-
  A journal in memory: its platter, what it keeps; what a call leaves of it. keep: what its region leaves, what it answers.
-/
import Derived.OwnWalk
import Derived.Deep.RegionLaw
import Derived.Deep.DrawnRows
import Derived.Laws.StructEq
import Derived.Laws.Tables
import Derived.Laws.CopyOwn
import Derived.Deep.CutRange
import Derived.Lib.SlBytesConst
import Derived.Test.YtjjofjnhhajjjaaB00
import Derived.Test.YtjjofjnhhajjjaaB01
import Derived.Test.YtjjofjnhhajjjaaB02
import Derived.Test.YtjjofjnhhajjjaaB03
import Derived.Test.YtjjofjnhhajjjaaB04
import Derived.Test.YtjjofjnhhajjjaaB05
import Derived.Test.YtjjofjnhhajjjaaB06
import Derived.Test.YtjjofjnhhajjjaaB07
import Derived.Test.YtjjofjnhhajjjaaB08
import Derived.Test.YtjjofjnhhajjjaaB09
import Derived.Test.YtjjofjnhhajjjaaB10
import Derived.Test.YtjjofjnhhajjjaaB11
import Derived.Test.YtjjofjnhhajjjaaB12
import Derived.Test.YtjjofjnhhajjjaaB13
import Derived.Test.YtjjofjnhhajjjaaB14
import Derived.Test.YtjjofjnhhajjjaaB20
import Derived.Test.YtjjofjnhhajjjaaB21
import Derived.Test.YtjjofjnhhajjjaaB22
import Derived.Test.YtjjofjnhhajjjaaB23
import Derived.Test.YtjjofjnhhajjjaaB24
import Derived.Test.YtjjofjnhhajjjaaB25
import Derived.Test.YtjjofjnhhajjjaaB26
namespace Go.Proofs.Ytjjofjnhhajjjaa.Jr
open Go.RowKit
open Nd (Row wp_world post_Row grownBy_setCell grownBy_trans below_of_grown u8v Grew Sl hid_in i64r bytesS str)
open Pt (Dk PtV FS Sub Stp liv arOf appE appD begE begD synD wipD fliD oth)
/-- entries that lie in a row of entries -/
structure Et (w : World) (v : Value) (es : List Ent) : Prop where
  val : Es w v es
  ty : ∀ b, es ≠ [] → v.ownBlock = some b → ∃ cur, w.heap[b]? = some (.cells cur 51 (0, 0))
theorem Et.nil (w : World) : Et w (.slice none 0 0) [] := ⟨Es.nil w, fun _ h => absurd rfl h⟩
theorem EO.et {w : World} {B : Nat} {v : Value} {es : List Ent} (h : EO w B v es) : Et w v es := by
  refine ⟨h.es, fun b hne hb => ?_⟩
  obtain ⟨_, ⟨rfl, h0⟩ | ⟨g, cap, cur, rfl, hB, hh, r⟩⟩ := h
  · cases hb
  · have e : g = b := by simpa [Value.ownBlock] using hb
    subst e
    exact ⟨cur, hh⟩
theorem Et.keep {w w' : World} {S : Nat → Prop} {v : Value} {es : List Ent} (h : Et w v es) (hg : Grew w w' S) (hS : ∀ b cur, w.heap[b]? = some (.cells cur 51 (0, 0)) → ¬ S b) : Et w' v es := by
  by_cases hne : es = []
  · subst hne
    obtain ⟨p, cap, b, o, rfl, h2, h3, h4, h5, h7⟩ := h.val
    exact ⟨⟨p, cap, b, o, rfl, h2, h3, fun e => absurd rfl e, fun j u hj => by simp [ecells] at hj, h7⟩, fun _ e => absurd rfl e⟩
  · refine ⟨h.val.keep hg (fun b hb => ?_), fun b e hb => ?_⟩
    · obtain ⟨cur, hc⟩ := h.ty b hne hb
      exact hS b cur hc
    · obtain ⟨cur, hc⟩ := h.ty b hne hb
      refine ⟨cur, ?_⟩
      rw [hg.block b (Array.getElem?_eq_some_iff.1 hc).1 (hS b cur hc)]
      exact hc
theorem Et.below {w w' : World} {v : Value} {es : List Ent} (h : Et w v es) (hb : Below w.heap.size w w') : Et w' v es := h.keep (Grew.of_below (fun _ => False) hb) (fun _ _ _ h => h)
theorem no51 {w : World} {B g b : Nat} {v0 v1 : Value} {d : Dk} {cur : Array Value} (h : PtV w B g v0 v1 d) (hb : w.heap[b]? = some (.cells cur 51 (0, 0))) : ¬ FS g v0 v1 b :=
  h.typed (vs := cur.toList) (t := 51) (by unfold Row; rw [hb]) (by decide) (by decide)
/-- the journal at block j, on the platter at block g, keeps k -/
structure JV (w : World) (B j g : Nat) (v0 v1 : Value) (d : Dk) (ve : Value) (k : Kt) : Prop where
  pt : PtV w B g v0 v1 d
  row : Row w j (.pointer (some ⟨g, 0, none⟩) :: k.cells ve) 68
  et : Et w ve k.ents
  base : B ≤ j
  ok : k.ok
  may : may k = true
def FJ (j g : Nat) (v0 v1 : Value) : Nat → Prop := fun b => b = j ∨ FS g v0 v1 b
theorem JV.no51 {w : World} {B j g b : Nat} {v0 v1 ve : Value} {d : Dk} {k : Kt} {cur : Array Value} (h : JV w B j g v0 v1 d ve k) (hb : w.heap[b]? = some (.cells cur 51 (0, 0))) : ¬ FJ j g v0 v1 b := by
  rintro (rfl | hf)
  · have hr := h.row
    unfold Row at hr
    rw [hr] at hb
    injection hb with hb
    injection hb with _ hb
    exact absurd hb (by decide)
  · exact Jr.no51 h.pt hb hf
theorem JV.keep {w w' : World} {B j g : Nat} {v0 v1 ve : Value} {d : Dk} {k : Kt} {S : Nat → Prop} (h : JV w B j g v0 v1 d ve k) (hg : Grew w w' S) (hn : ∀ b, FJ j g v0 v1 b → ¬ S b) (h51 : ∀ b cur, w.heap[b]? = some (.cells cur 51 (0, 0)) → ¬ S b) : JV w' B j g v0 v1 d ve k :=
  ⟨h.pt.keep hg (fun b hb => hn b (.inr hb)), h.row.grew hg (hn j (.inl rfl)), h.et.keep hg h51, h.base, h.ok, h.may⟩
theorem JV.below {w w' : World} {B j g : Nat} {v0 v1 ve : Value} {d : Dk} {k : Kt} (h : JV w B j g v0 v1 d ve k) (hb : Below w.heap.size w w') : JV w' B j g v0 v1 d ve k :=
  h.keep (Grew.of_below (fun _ => False) hb) (fun _ _ h => h) (fun _ _ _ h => h)
theorem JV.fj_lt {w : World} {B j g : Nat} {v0 v1 ve : Value} {d : Dk} {k : Kt} (h : JV w B j g v0 v1 d ve k) : ∀ b, FJ j g v0 v1 b → B ≤ b ∧ b < w.heap.size := by
  rintro b (rfl | hb)
  · exact ⟨h.base, h.row.lt⟩
  · exact h.pt.fs_lt b hb
/-- what a call leaves of a journal -/
def JStp (w w' : World) (B j g : Nat) (v0 v1 : Value) (d' : Dk) (k' : Kt) : Prop := ∃ u0 u1 ve', JV w' B j g u0 u1 d' ve' k' ∧ Grew w w' (FJ j g v0 v1) ∧ Sub w (FJ j g v0 v1) (FJ j g u0 u1)
theorem JStp.of_below {w w' : World} {B j g : Nat} {v0 v1 ve : Value} {d : Dk} {k : Kt} (h : JV w B j g v0 v1 d ve k) (hb : Below w.heap.size w w') : JStp w w' B j g v0 v1 d k := ⟨v0, v1, ve, h.below hb, Grew.of_below _ hb, fun _ h => .inl h⟩
theorem JStp.refl {w : World} {B j g : Nat} {v0 v1 ve : Value} {d : Dk} {k : Kt} (h : JV w B j g v0 v1 d ve k) : JStp w w B j g v0 v1 d k := ⟨v0, v1, ve, h, Grew.refl _ _, fun _ h => .inl h⟩
theorem JStp.trans {a b c : World} {B j g : Nat} {v0 v1 u0 u1 : Value} {d : Dk} {k : Kt} (hg : Grew a b (FJ j g v0 v1)) (hs : Sub a (FJ j g v0 v1) (FJ j g u0 u1)) (h : JStp b c B j g u0 u1 d k) : JStp a c B j g v0 v1 d k := by
  obtain ⟨x0, x1, ve, h1, h2, h3⟩ := h
  refine ⟨x0, x1, ve, h1, hg.trans h2 (fun q hq hT => ?_), fun q hq => ?_⟩
  · rcases hs q hT with h | h
    · exact h
    · omega
  · rcases h3 q hq with h | h
    · exact hs q h
    · exact .inr (Nat.le_trans hg.size h)
theorem JStp.then {a b c : World} {B j g : Nat} {v0 v1 : Value} {d d' : Dk} {k k' : Kt} (h : JStp a b B j g v0 v1 d k) (f : ∀ u0 u1 ve, JV b B j g u0 u1 d ve k → JStp b c B j g u0 u1 d' k') : JStp a c B j g v0 v1 d' k' := by
  obtain ⟨u0, u1, ve, h1, h2, h3⟩ := h
  exact JStp.trans h2 h3 (f u0 u1 ve h1)
theorem JStp.ahead {a b c : World} {B j g : Nat} {v0 v1 : Value} {d : Dk} {k : Kt} (hb : Below a.heap.size a b) (h : JStp b c B j g v0 v1 d k) : JStp a c B j g v0 v1 d k :=
  JStp.trans (Grew.of_below _ hb) (fun _ h => .inl h) h
theorem JStp.behind {a b c : World} {B j g : Nat} {v0 v1 : Value} {d : Dk} {k : Kt} (h : JStp a b B j g v0 v1 d k) (hb : Below b.heap.size b c) : JStp a c B j g v0 v1 d k :=
  h.then (fun _ _ _ hv => JStp.of_below hv hb)
/-- a change of the platter alone -/
theorem JStp.of_stp {w w' : World} {B j g : Nat} {v0 v1 ve : Value} {d d' : Dk} {k : Kt} (h : JV w B j g v0 v1 d ve k) (hs : Stp w w' B g v0 v1 d') : JStp w w' B j g v0 v1 d' k := by
  have hr := hs.row h.pt h.row (by decide) (by decide)
  obtain ⟨u0, u1, h1, h2, h3⟩ := hs
  refine ⟨u0, u1, ve, ⟨h1, hr, h.et.keep h2 (fun b cur hb => Jr.no51 h.pt hb), h.base, h.ok, h.may⟩, h2.mono (fun _ h => .inr h), ?_⟩
  rintro q (rfl | hq)
  · exact .inl (.inl rfl)
  · rcases h3 q hq with h | h
    · exact .inl (.inr h)
    · exact .inr h
/-- the same, and where the entries lie -/
theorem JStp.putV {w : World} {B j g : Nat} {v0 v1 ve v : Value} {d : Dk} {k n : Kt} (h : JV w B j g v0 v1 d ve k) (he : Et w v n.ents) (hok : n.ok) (hm : Jr.may n = true) :
    ∃ u0 u1, JV (((((w.setCell ⟨j, 1, none⟩ (.int .i64 n.view)).setCell ⟨j, 2, none⟩ (.int .i64 n.normal)).setCell ⟨j, 3, none⟩ (.int .i64 n.base)).setCell ⟨j, 4, none⟩ (.string n.state)).setCell ⟨j, 5, none⟩ v) B j g u0 u1 d v n ∧ Grew w (((((w.setCell ⟨j, 1, none⟩ (.int .i64 n.view)).setCell ⟨j, 2, none⟩ (.int .i64 n.normal)).setCell ⟨j, 3, none⟩ (.int .i64 n.base)).setCell ⟨j, 4, none⟩ (.string n.state)).setCell ⟨j, 5, none⟩ v) (FJ j g v0 v1) ∧ Sub w (FJ j g v0 v1) (FJ j g u0 u1) := by
  have hr := ((((h.row.set_same 1 (.int .i64 n.view)).set_same 2 (.int .i64 n.normal)).set_same 3 (.int .i64 n.base)).set_same 4 (.string n.state)).set_same 5 v
  have hg := grownBy_trans (grownBy_trans (grownBy_trans (grownBy_trans (grownBy_setCell w ⟨j, 1, none⟩ (.int .i64 n.view)) (grownBy_setCell _ ⟨j, 2, none⟩ (.int .i64 n.normal))) (grownBy_setCell _ ⟨j, 3, none⟩ (.int .i64 n.base))) (grownBy_setCell _ ⟨j, 4, none⟩ (.string n.state))) (grownBy_setCell _ ⟨j, 5, none⟩ v)
  have hj : ¬ FS g v0 v1 j := h.pt.typed h.row (by decide) (by decide)
  have hG := Grew.of_grown hg
  have h51 : ∀ b cur, w.heap[b]? = some (.cells cur 51 (0, 0)) → ¬ (some b = some j) := fun b cur hb e => by
    cases e
    exact h.no51 hb (.inl rfl)
  refine ⟨v0, v1, ⟨h.pt.keep hG (fun b hb e => ?_), hr, he.keep hG h51, h.base, hok, hm⟩, hG.mono (fun q hq => ?_), fun _ h => .inl h⟩
  · cases e
    exact hj hb
  · cases hq
    exact .inl rfl
/-- what is kept is another: five cells are stored -/
theorem JStp.put {w : World} {B j g : Nat} {v0 v1 ve v : Value} {d : Dk} {k n : Kt} (h : JV w B j g v0 v1 d ve k) (he : Et w v n.ents) (hok : n.ok) (hm : Jr.may n = true) :
    JStp w (((((w.setCell ⟨j, 1, none⟩ (.int .i64 n.view)).setCell ⟨j, 2, none⟩ (.int .i64 n.normal)).setCell ⟨j, 3, none⟩ (.int .i64 n.base)).setCell ⟨j, 4, none⟩ (.string n.state)).setCell ⟨j, 5, none⟩ v) B j g v0 v1 d n := by
  obtain ⟨u0, u1, h1, h2, h3⟩ := JStp.putV h he hok hm
  exact ⟨u0, u1, v, h1, h2, h3⟩
/-- the entries lie where they lay, or in new memory -/
def VB (w : World) (ve ve' : Value) : Prop := ve' = ve ∨ ∀ q, ve'.ownBlock = some q → w.heap.size ≤ q
/-- what a call leaves of a journal, and where the entries lie -/
def JStpV (w w' : World) (B j g : Nat) (v0 v1 ve : Value) (d' : Dk) (k' : Kt) : Prop := ∃ u0 u1 ve', JV w' B j g u0 u1 d' ve' k' ∧ Grew w w' (FJ j g v0 v1) ∧ Sub w (FJ j g v0 v1) (FJ j g u0 u1) ∧ VB w ve ve'
theorem JStpV.weak {w w' : World} {B j g : Nat} {v0 v1 ve : Value} {d' : Dk} {k' : Kt} (h : JStpV w w' B j g v0 v1 ve d' k') : JStp w w' B j g v0 v1 d' k' := by
  obtain ⟨u0, u1, ve', h1, h2, h3, _⟩ := h
  exact ⟨u0, u1, ve', h1, h2, h3⟩
theorem JStpV.of_below {w w' : World} {B j g : Nat} {v0 v1 ve : Value} {d : Dk} {k : Kt} (h : JV w B j g v0 v1 d ve k) (hb : Below w.heap.size w w') : JStpV w w' B j g v0 v1 ve d k := ⟨v0, v1, ve, h.below hb, Grew.of_below _ hb, fun _ h => .inl h, .inl rfl⟩
theorem VB.ahead {a b : World} {u v : Value} (hs : a.heap.size ≤ b.heap.size) (h : VB b u v) : VB a u v := h.imp id (fun h q hq => Nat.le_trans hs (h q hq))
theorem JStpV.trans {a b c : World} {B j g : Nat} {v0 v1 u0 u1 ve vm : Value} {d : Dk} {k : Kt} (hg : Grew a b (FJ j g v0 v1)) (hs : Sub a (FJ j g v0 v1) (FJ j g u0 u1)) (hv : VB a ve vm) (h : JStpV b c B j g u0 u1 vm d k) : JStpV a c B j g v0 v1 ve d k := by
  obtain ⟨x0, x1, vf, h1, h2, h3, h4⟩ := h
  refine ⟨x0, x1, vf, h1, hg.trans h2 (fun q hq hT => ?_), fun q hq => ?_, ?_⟩
  · rcases hs q hT with h | h
    · exact h
    · omega
  · rcases h3 q hq with h | h
    · exact hs q h
    · exact .inr (Nat.le_trans hg.size h)
  · rcases h4 with rfl | h4
    · exact hv
    · exact .inr (fun q hq => Nat.le_trans hg.size (h4 q hq))
theorem JStpV.ahead {a b c : World} {B j g : Nat} {v0 v1 ve : Value} {d : Dk} {k : Kt} (hb : Below a.heap.size a b) (h : JStpV b c B j g v0 v1 ve d k) : JStpV a c B j g v0 v1 ve d k :=
  JStpV.trans (Grew.of_below _ hb) (fun _ h => .inl h) (.inl rfl) h
theorem JStpV.of_stp {w w' : World} {B j g : Nat} {v0 v1 ve : Value} {d d' : Dk} {k : Kt} (h : JV w B j g v0 v1 d ve k) (hs : Stp w w' B g v0 v1 d') : JStpV w w' B j g v0 v1 ve d' k := by
  have hr := hs.row h.pt h.row (by decide) (by decide)
  obtain ⟨u0, u1, h1, h2, h3⟩ := hs
  refine ⟨u0, u1, ve, ⟨h1, hr, h.et.keep h2 (fun b cur hb => Jr.no51 h.pt hb), h.base, h.ok, h.may⟩, h2.mono (fun _ h => .inr h), ?_, .inl rfl⟩
  rintro q (rfl | hq)
  · exact .inl (.inl rfl)
  · rcases h3 q hq with h | h
    · exact .inl (.inr h)
    · exact .inr h
end Go.Proofs.Ytjjofjnhhajjjaa.Jr
namespace Go.Proofs.Ytjjofjnhhajjjaa.Jr
open Go.RowKit
open Nd (Row wp_world post_Row grownBy_setCell grownBy_trans below_of_grown u8v Grew Sl hid_in i64r bytesS str)
open Pt (Dk PtV FS Sub Stp liv arOf appE appD begE begD synD wipD fliD oth)
def Fk (w W : World) (vk : Value) (o : Option Kt) (p q : Value) : Prop :=
  Hid (Below w.heap.size w W) ∧ ((o = none ∧ q = .bool false) ∨ ∃ n v b, o = some n ∧ q = .bool true ∧ p = .pointer (some ⟨b, 0, none⟩) ∧ Hid (w.heap.size ≤ b) ∧ Hid (Row W b (n.cells v) 30) ∧ Hid (Et W v n.ents) ∧ Hid (VB w vk v))
theorem et_old {w w6 : World} {v : Value} {xs ne : List Ent} (h : Et w v xs) (h6 : Es w6 v ne) (hb : Below w.heap.size w w6) : Et w6 v ne := by
  refine ⟨h6, fun b hne e => ?_⟩
  obtain ⟨p, cap, b1, o, rfl, h2, h3, h4, h5, h7⟩ := h.val
  obtain ⟨p', cap', b', o', h1', _, _, _, _, _⟩ := h6
  simp only [Value.slice.injEq] at h1'
  obtain ⟨rfl, hl, rfl⟩ := h1'
  have hx : xs ≠ [] := by
    rintro rfl
    exact hne (List.length_eq_zero_iff.1 hl.symm)
  obtain ⟨cur, hc⟩ := h.ty b hx e
  refine ⟨cur, ?_⟩
  rw [hb.block b (Array.getElem?_eq_some_iff.1 hc).1]
  exact hc
theorem fk_new {w w6 : World} {vk v : Value} {o : Option Kt} {nv nn nb : Int} {ns : ByteArray} {q : Bool} {C : Nat} {xs : List Ent} (hb : Below w.heap.size w w6) (hk : Et w vk xs) (hC : w.heap.size ≤ C) (hm : MkR w6 C vk o nv nn nb ns v q) :
    Fk w (w6.alloc (.cells #[.int .i64 nv, .int .i64 nn, .int .i64 nb, .string ns, v] 30)) vk o (.pointer (some ⟨w6.heap.size, 0, none⟩)) (.bool q) := by
  have h1 : Below w6.heap.size w6 (w6.alloc (.cells #[.int .i64 nv, .int .i64 nn, .int .i64 nb, .string ns, v] 30)) := (Below.refl _ _).alloc (Nat.le_refl _) _
  refine ⟨hb.trans (h1.mono hb.size), ?_⟩
  rcases hm with ⟨rfl, rfl⟩ | ⟨rfl, ne, rfl, he, hv⟩
  · exact .inl ⟨rfl, rfl⟩
  · refine .inr ⟨_, v, w6.heap.size, rfl, rfl, rfl, hb.size, Row.new w6 [.int .i64 nv, .int .i64 nn, .int .i64 nb, .string ns, v] 30, ?_⟩
    rcases hv with rfl | hv
    · exact ⟨(et_old hk he hb).below h1, .inl rfl⟩
    · exact ⟨(EO.et hv).below h1, .inr (fun q hq => Nat.le_trans hC (EO.lt hv q hq).1)⟩
theorem fk_old {w w6 : World} {vk v : Value} {o : Option Kt} {nv nn nb : Int} {ns : ByteArray} {q : Bool} {b C : Nat} {xs : List Ent} (hb : Below w.heap.size w w6) (hk : Et w vk xs) (hs : w.heap.size ≤ b) (hq : Row w6 b zcells 30) (hC : b < C) (hm : MkR w6 C vk o nv nn nb ns v q) :
    Fk w (((((w6.setCell ⟨b, 0, none⟩ (.int .i64 nv)).setCell ⟨b, 1, none⟩ (.int .i64 nn)).setCell ⟨b, 2, none⟩ (.int .i64 nb)).setCell ⟨b, 3, none⟩ (.string ns)).setCell ⟨b, 4, none⟩ v) vk o (.pointer (some ⟨b, 0, none⟩)) (.bool q) := by
  obtain ⟨h1, h2⟩ := set5 hq (.int .i64 nv) (.int .i64 nn) (.int .i64 nb) (.string ns) v
  refine ⟨hb.grown h2 hb.size (fun k e => by cases e; omega), ?_⟩
  have h51 : ∀ b' cur, w6.heap[b']? = some (.cells cur 51 (0, 0)) → ¬ (some b' = some b) := fun b' cur hb' e => by
    cases e
    unfold Row at hq
    rw [hq] at hb'
    injection hb' with hb'
    injection hb' with _ hb'
    exact absurd hb' (by decide)
  rcases hm with ⟨rfl, rfl⟩ | ⟨rfl, ne, rfl, he, hv⟩
  · exact .inl ⟨rfl, rfl⟩
  · refine .inr ⟨_, v, b, rfl, rfl, rfl, hs, h1, ?_⟩
    rcases hv with rfl | hv
    · exact ⟨(et_old hk he hb).keep (Grew.of_grown h2) h51, .inl rfl⟩
    · exact ⟨(EO.et hv).keep (Grew.of_grown h2) h51, .inr (fun q hq => by have := (EO.lt hv q hq).1; omega)⟩
/-- what keep answers -/
def KeepR (w : World) (B j g : Nat) (v0 v1 ve : Value) (d : Dk) (k : Kt) (o : Option Kt) (E : Int) (D : Dk) (e : Ending) (w' : World) : Prop :=
  (o = none ∧ e = .returned (.int .i64 1) ∧ JStpV w w' B j g v0 v1 ve d k) ∨ ∃ n, o = some n ∧ e = .returned (.int .i64 E) ∧ JStpV w w' B j g v0 v1 ve D (if E = 0 then n else k)
end Go.Proofs.Ytjjofjnhhajjjaa.Jr
