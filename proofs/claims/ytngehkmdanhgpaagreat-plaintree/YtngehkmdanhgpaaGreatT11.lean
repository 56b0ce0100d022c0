/-
  Lists of files in memory; a row of files of the call's own, and what is put behind it. The walk of the reference's Insert: a file where its path belongs. Files of two lists that read as the same files. A row of paths of the call's own; one more path behind it.
-/
import Derived.Laws.Tables
import Derived.Lib.SlBytesConst
import Derived.Deep.RegionLaw
import Derived.Deep.DrawnRows
import Derived.Lib.AppendZeros
import Derived.Laws.CopyOwn
import Derived.Test.YtngehkmdanhgpaaGreatT00
import Derived.Test.YtngehkmdanhgpaaGreatT01
import Derived.Test.YtngehkmdanhgpaaGreatT02
import Derived.Test.YtngehkmdanhgpaaGreatT03
import Derived.Test.YtngehkmdanhgpaaGreatT04
import Derived.Test.YtngehkmdanhgpaaGreatT05
import Derived.Test.YtngehkmdanhgpaaGreatT06
import Derived.Test.YtngehkmdanhgpaaGreatT07
import Derived.Test.YtngehkmdanhgpaaGreatT08
import Derived.Test.YtngehkmdanhgpaaGreatT09
import Derived.Test.YtngehkmdanhgpaaGreatT10
namespace Go.Proofs.YtngehkmdanhgpaaGreat.Rf
open Go.RowKit
/-- a file -/
structure Fil where
  path : ByteArray
  dir : Bool
  data : ByteArray
def Fil.cells (f : Fil) : List Value := [.string f.path, .bool f.dir, .string f.data]
def Fil.val (f : Fil) : Value := .agg #[.string f.path, .bool f.dir, .string f.data]
def fcells (fs : List Fil) : List Value := fs.flatMap Fil.cells
theorem fcells_len (fs : List Fil) : (fcells fs).length = fs.length * 3 := by
  induction fs with
  | nil => rfl
  | cons f r ih =>
    unfold fcells at ih ⊢
    rw [List.flatMap_cons, List.length_append, ih, List.length_cons]
    simp [Fil.cells]
    omega
theorem fcells_at {fs : List Fil} {i : Nat} {f : Fil} (h : fs[i]? = some f) (y : Nat) (u : Value) (hy : f.cells[y]? = some u) : (fcells fs)[i * 3 + y]? = some u := by
  have h1 := Nd.flatten_get (k := 3) (xs := fs.map Fil.cells) (fun us hus => by obtain ⟨g, _, rfl⟩ := List.mem_map.1 hus; rfl) i f.cells (by rw [List.getElem?_map, h]; rfl) y u hy
  rw [List.flatMap_def.symm] at h1
  exact h1
/-- a value that reads as files -/
def Fls (w : World) (v : Value) (fs : List Fil) : Prop := ∃ p cap b o, v = .slice p fs.length cap ∧ fs.length ≤ cap ∧ cap ≤ 9223372036854775807 ∧ (fs ≠ [] → p = some ⟨b, o, none⟩ ∧ b < w.heap.size) ∧ (∀ j u, (fcells fs)[j]? = some u → w.cell? ⟨b, o + j, none⟩ = some u) ∧ (p = none → fs = [] ∧ cap = 0)
theorem Fls.below {w w' : World} {v : Value} {fs : List Fil} (h : Fls w v fs) (hb : Below w.heap.size w w') : Fls w' v fs := by
  obtain ⟨p, cap, b, o, h1, h2, h3, h4, h5, h6⟩ := h
  refine ⟨p, cap, b, o, h1, h2, h3, fun hn => ⟨(h4 hn).1, Nat.lt_of_lt_of_le (h4 hn).2 hb.size⟩, fun j u hj => ?_, h6⟩
  have hne : fs ≠ [] := by rintro rfl; simp [fcells] at hj
  rw [hb.cell (p := ⟨b, o + j, none⟩) (h4 hne).2]
  exact h5 j u hj
theorem Fls.form {w : World} {v : Value} {fs : List Fil} (h : Fls w v fs) : ∃ p cap, v = .slice p fs.length cap := by
  obtain ⟨p, cap, _, _, h1, _⟩ := h
  exact ⟨p, cap, h1⟩
/-- a row of files of the call's own -/
def FO (w : World) (B : Nat) (v : Value) (fs : List Fil) : Prop := w.ownsRow B 48 3 v fs.length (fcells fs)
theorem FO.below {w w' : World} {B : Nat} {v : Value} {fs : List Fil} (h : FO w B v fs) (hb : Below w.heap.size w w') : FO w' B v fs := Nd.own_belowK h hb
theorem info81h : ∃ i z, Hid (Tryz.prog.info? 48 = some i) ∧ Hid (i.size = 3) ∧ Hid (i.bytes = 40) ∧ Hid (i.zero = some z) ∧ Hid (z.cells.size = 3) := by
  have h : (Tryz.prog.info? 48).map (fun i => (i.size, i.bytes, i.zero.map (·.cells.size))) = some (3, 40, some 3) := by kernel_rfl
  cases hi : Tryz.prog.info? 48 with
  | none => rw [hi] at h; cases h
  | some i =>
    rw [hi] at h
    simp only [Option.map_some, Option.some.injEq, Prod.mk.injEq] at h
    obtain ⟨h1, h2, h3⟩ := h
    cases hz : i.zero with
    | none => rw [hz] at h3; cases h3
    | some z => rw [hz] at h3; exact ⟨i, z, rfl, h1, h2, hz, Option.some.inj h3⟩
theorem size81 (w : World) : (sizeOf 48).run Tryz.prog w = .ok 3 w := by kernel_rfl
theorem slice22_from (p : Option Addr) (b o L C n : Nat) (h1 : n ≤ L) (h2 : L ≤ C) (hp : 0 < L → p = some ⟨b, o, none⟩) : ∃ q, (n < L → q = some ⟨b, o + n * 3, none⟩) ∧ (q = none → p = none) ∧ ∀ w, (Instr.slice 22 (.slice p L C) (some (.int .i64 (n : Int))) none none).run Tryz.prog w = .ok (.slice q (L - n) (C - n)) w := by
  have ht : Tryz.prog.underlying 22 = some (.slice (Tryz.prog.elem 22)) := by kernel_rfl
  have he : Tryz.prog.elem 22 = 48 := by kernel_rfl
  rcases p with _ | ⟨b', o', s'⟩
  · refine ⟨none, (fun h => by have h3 := hp (by omega); cases h3), fun _ => rfl, fun w => ?_⟩
    rw [run_slice_l w 22 none L C ht .i64 (n : Int) (by omega) (by omega), he, size81]
    simp [sliced]
  · refine ⟨some (if C = n then ⟨b', o', s'⟩ else (⟨b', o', s'⟩ : Addr).add (n * 3)), fun h => ?_, (fun e => by cases e), fun w => ?_⟩
    · have h3 := Option.some.inj (hp (by omega))
      rw [if_neg (by omega), h3, Addr.add_mid]
    · rw [run_slice_l w 22 _ L C ht .i64 (n : Int) (by omega) (by omega), he, size81]
      simp [sliced]
      split <;> rfl
theorem Fls.first {w : World} {p : Option Addr} {n cap : Nat} {fs : List Fil} (h : Fls w (.slice p n cap) fs) (k : Nat) (hk : k ≤ fs.length) : n = fs.length ∧ k ≤ cap ∧ Fls w (.slice p k cap) (fs.take k) := by
  obtain ⟨p', cap', b, o, h1, h2, h3, h4, h5, h6⟩ := h
  simp only [Value.slice.injEq] at h1
  obtain ⟨rfl, rfl, rfl⟩ := h1
  refine ⟨rfl, by omega, p, cap, b, o, by rw [List.length_take, Nat.min_eq_left hk], by rw [List.length_take]; omega, h3, fun hne => h4 (by rintro rfl; simp at hne), fun j u hj => h5 j u ?_, fun e => ⟨by rw [(h6 e).1]; simp, (h6 e).2⟩⟩
  have e : fcells fs = fcells (fs.take k) ++ fcells (fs.drop k) := by
    unfold fcells
    rw [← List.flatMap_append, List.take_append_drop]
  rw [e, List.getElem?_append_left (List.getElem?_eq_some_iff.1 hj).1]
  exact hj
theorem Fls.rest {w : World} {p : Option Addr} {n cap : Nat} {fs : List Fil} (h : Fls w (.slice p n cap) fs) (k : Nat) (hk : k ≤ fs.length) : ∃ q, (∀ W, (Instr.slice 22 (.slice p n cap) (some (.int .i64 (k : Int))) none none).run Tryz.prog W = .ok (.slice q (fs.length - k) (cap - k)) W) ∧ Fls w (.slice q (fs.length - k) (cap - k)) (fs.drop k) := by
  obtain ⟨p', cap', b, o, h1, h2, h3, h4, h5, h6⟩ := h
  simp only [Value.slice.injEq] at h1
  obtain ⟨rfl, rfl, rfl⟩ := h1
  obtain ⟨q, h7, h8, h9⟩ := slice22_from p b o fs.length cap k hk h2 (fun h0 => (h4 (by rintro rfl; simp at h0)).1)
  refine ⟨q, h9, q, cap - k, b, o + k * 3, by rw [List.length_drop], by rw [List.length_drop]; omega, by omega, fun hne => ?_, fun j u hj => ?_, fun e => ?_⟩
  · have hlt : k < fs.length := by
      rcases Nat.lt_or_ge k fs.length with h | h
      · exact h
      · exact absurd (List.drop_eq_nil_of_le h) hne
    exact ⟨h7 hlt, (h4 (by rintro rfl; simp at hlt)).2⟩
  · have e : fcells fs = fcells (fs.take k) ++ fcells (fs.drop k) := by
      unfold fcells
      rw [← List.flatMap_append, List.take_append_drop]
    have hl : (fcells (fs.take k)).length = k * 3 := by rw [fcells_len, List.length_take, Nat.min_eq_left hk]
    rw [Nat.add_assoc]
    refine h5 (k * 3 + j) u ?_
    rw [e, List.getElem?_append_right (by omega), hl, Nat.add_sub_cancel_left]
    exact hj
  · obtain ⟨rfl, rfl⟩ := h6 (h8 e)
    exact ⟨by simp, by omega⟩
end Go.Proofs.YtngehkmdanhgpaaGreat.Rf
namespace Go.Proofs.YtngehkmdanhgpaaGreat.Rf
open Go.RowKit
open Vp (Str B bl Val cmpL parseS showS)
/-- does the one come ahead of the other? -/
def ahead (g f : Fil) : Prop := cmpL (nmsOf g.path) (nmsOf f.path) < 0
instance (g f : Fil) : Decidable (ahead g f) := by unfold ahead; infer_instance
theorem fls_one (w : World) (f : Fil) : Fls (w.alloc (.cells #[.string f.path, .bool f.dir, .string f.data] 48)) (.slice (some ⟨w.heap.size, 0, none⟩) 1 1) [f] := by
  have hr := Nd.Row.new w [.string f.path, .bool f.dir, .string f.data] 48
  refine ⟨_, 1, w.heap.size, 0, rfl, by simp, by omega, fun _ => ⟨rfl, by simp⟩, fun j u hj => ?_, fun e => by cases e⟩
  rw [Nat.zero_add, hr.cell]
  simpa [fcells, Fil.cells] using hj
theorem Fls.path {w : World} {v : Value} {fs : List Fil} {i : Nat} {g : Fil} (h : Fls w v fs) (hi : fs[i]? = some g) : ∃ b o cap, v = .slice (some ⟨b, o, none⟩) fs.length cap ∧ w.cell? ⟨b, o + i * 3, none⟩ = some (.string g.path) := by
  obtain ⟨p, cap, b, o, h1, h2, h3, h4, h5, h6⟩ := h
  have hne : fs ≠ [] := by rintro rfl; simp at hi
  obtain ⟨rfl, _⟩ := h4 hne
  exact ⟨b, o, cap, h1, h5 _ _ (fcells_at hi 0 _ rfl)⟩
theorem FO.mono {w : World} {B B' : Nat} {v : Value} {fs : List Fil} (h : FO w B v fs) (hb : B' ≤ B) : FO w B' v fs := by
  obtain ⟨h1, h2 | ⟨g, cap, cur, hv, hB, r⟩⟩ := h
  · exact ⟨h1, .inl h2⟩
  · exact ⟨h1, .inr ⟨g, cap, cur, hv, Nat.le_trans hb hB, r⟩⟩
theorem FO.step {w w' a : World} {B : Nat} {v : Value} {fs : List Fil} (h : FO w B v fs) (hb : Below B a w) (hB : B ≤ w.heap.size) (hg : w.grownBy w' v.ownBlock) : Below B a w' :=
  hb.grown hg hB (fun k e => (Nd.own_geK h k e).1)
end Go.Proofs.YtngehkmdanhgpaaGreat.Rf
namespace Go.Proofs.YtngehkmdanhgpaaGreat.Rf
open Go.RowKit
open Nd (take_put)
theorem below_drew (w : World) : Below w.heap.size w w.drew := (Below.refl _ _).drew
theorem Fls.range {w : World} {b o : Nat} {fs : List Fil} (h : ∀ j u, (fcells fs)[j]? = some u → w.cell? ⟨b, o + j, none⟩ = some u) (i : Nat) (f : Fil) (hi : fs[i]? = some f) : w.rangeAt b (o + i * 3) f.cells := fun j u hj => by
  rw [Nat.add_assoc]
  exact h _ _ (fcells_at hi j u hj)
end Go.Proofs.YtngehkmdanhgpaaGreat.Rf
namespace Go.Proofs.YtngehkmdanhgpaaGreat.Rf
open Go.RowKit
open Vp (Str B bl Val cmpL parseS showS sv)
/-- names in a row of their own -/
def Nm (w : World) (v : Value) (xs : List Str) : Prop := w.ownsRow 0 9 1 v xs.length (xs.map sv)
theorem own0 {w : World} {base n size : Nat} {e : TypeId} {v : Value} {xs : List Value} (h : w.ownsRow base e size v n xs) : w.ownsRow 0 e size v n xs := by
  refine ⟨h.1, ?_⟩
  rcases h.2 with h | ⟨g, cap, cur, h1, _, h3⟩
  · exact .inl h
  · exact .inr ⟨g, cap, cur, h1, Nat.zero_le _, h3⟩
theorem Nm.of {w : World} {base : Nat} {v : Value} {xs : List Str} (h : Vp.Nms w base v xs) : Nm w v xs := own0 h
theorem Nm.val {w : World} {v : Value} {xs : List Str} (h : Nm w v xs) : Val w v xs := Vp.Nms.val (base := 0) h
theorem Nm.below {w w' : World} {v : Value} {xs : List Str} (h : Nm w v xs) (hb : Below w.heap.size w w') : Nm w' v xs := Nd.own_belowK h hb
theorem Nm.form {w : World} {v : Value} {xs : List Str} (h : Nm w v xs) : ∃ p c, v = .slice p xs.length c := Vp.Nms.shape (base := 0) h
/-- what grows in a row of another type leaves names as they are -/
theorem Nm.grown {w w' : World} {v r : Value} {xs : List Str} {B n : Nat} {us : List Value} (h : Nm w v xs) (ho : w.ownsRow B 35 1 r n us) (hg : w.grownBy w' r.ownBlock) : Nm w' v xs := by
  obtain ⟨h1, h2 | ⟨g, cap, cur, rfl, hB, hh, rest⟩⟩ := h
  · exact ⟨h1, .inl h2⟩
  · refine ⟨h1, .inr ⟨g, cap, cur, rfl, hB, ?_, rest⟩⟩
    have hlt : g < w.heap.size := (Array.getElem?_eq_some_iff.1 hh).1
    rw [hg.block g hlt (fun e => ?_)]
    · exact hh
    · obtain ⟨_, ⟨rfl, _⟩ | ⟨g', cap', cur', rfl, _, hh', _⟩⟩ := ho
      · cases e
      · have e2 : g = g' := by simpa [Value.ownBlock] using e
        subst e2
        rw [hh] at hh'
        simp at hh'
/-- a row of paths of the call's own -/
def PO (w : World) (B : Nat) (v : Value) (ps : List (List Str)) : Prop := ∃ us : List Value, us.length = ps.length ∧ w.ownsRow B 35 1 v ps.length us ∧ ∀ (i : Nat) x, ps[i]? = some x → ∃ u, us[i]? = some u ∧ Nm w u x
theorem PO.nil (w : World) (B : Nat) : PO w B (.slice none 0 0) [] := ⟨[], rfl, World.ownsRow_nil _ _ _ _, fun i x h => by simp at h⟩
theorem PO.below {w w' : World} {B : Nat} {v : Value} {ps : List (List Str)} (h : PO w B v ps) (hb : Below w.heap.size w w') : PO w' B v ps := by
  obtain ⟨us, h1, h2, h3⟩ := h
  refine ⟨us, h1, Nd.own_belowK h2 hb, fun i x hx => ?_⟩
  obtain ⟨u, h4, h5⟩ := h3 i x hx
  exact ⟨u, h4, h5.below hb⟩
theorem PO.own {w : World} {B : Nat} {v : Value} {ps : List (List Str)} (h : PO w B v ps) (k : Nat) (hk : v.ownBlock = some k) : B ≤ k ∧ k < w.heap.size := by
  obtain ⟨us, _, h2, _⟩ := h
  exact Nd.own_geK h2 k hk
end Go.Proofs.YtngehkmdanhgpaaGreat.Rf
