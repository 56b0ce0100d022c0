/-
  Laws of the walk for a block that is known whole: a load and a store of a whole row or of a part of it, and a result that is a row.
-/
import Derived.Test.YtokjbmpiekadaaaDoorMem
import Derived.Deep.MidRow
import Derived.Laws.CopyOwn
namespace Go.Proofs.YtokjbmpiekadaaaDoor
open Go.RowKit

theorem splice_all {α : Type} (L new : List α) (h : new.length = L.length) : splice L 0 new = new := by
  simp [splice, h]
theorem splice_cons {α : Type} (L : List α) (o : Nat) (v : α) (r : List α) (h : o < L.length) : splice (L.set o v) (o + 1) r = splice L o (v :: r) := by
  unfold splice
  rw [List.take_succ_eq_append_getElem (by simpa using h)]
  have e1 : (L.set o v).take o = L.take o := by
    refine List.ext_getElem? fun j => ?_
    by_cases hj : j < o
    · rw [List.getElem?_take_of_lt hj, List.getElem?_take_of_lt hj, List.getElem?_set_ne (by omega)]
    · rw [List.getElem?_take_eq_none (by omega), List.getElem?_take_eq_none (by omega)]
  have e2 : (L.set o v).drop (o + 1 + r.length) = L.drop (o + (v :: r).length) := by
    rw [show o + (v :: r).length = o + 1 + r.length by simp; omega]
    refine List.ext_getElem? fun j => ?_
    rw [List.getElem?_drop, List.getElem?_drop, List.getElem?_set_ne (by omega)]
  rw [e1, e2]
  simp
theorem Row.setCells {t : TypeId} {b : Nat} : ∀ (new : List Value) (w : World) (vs : List Value) (o : Nat), Row w b vs t → o + new.length ≤ vs.length → Row (w.setCells b o new) b (splice vs o new) t
  | [], w, vs, o, h, _ => by simpa [World.setCells, splice] using h
  | v :: r, w, vs, o, h, hl => by
    simp only [List.length_cons] at hl
    have h' := Row.setCells r (w.setCell ⟨b, o, none⟩ v) (vs.set o v) (o + 1) (h.set_same o v) (by simp; omega)
    rw [splice_cons vs o v r (by omega)] at h'
    exact h'
theorem grownBy_trans {a b c : World} {row : Option Nat} (h : a.grownBy b row) (k : b.grownBy c row) : a.grownBy c row :=
  ⟨k.os.trans h.os, k.tape.trans h.tape, k.output.trans h.output, Nat.le_trans h.size k.size, fun i hi hne => (k.block i (Nat.lt_of_lt_of_le hi h.size) hne).trans (h.block i hi hne)⟩
theorem grownBy_refl (w : World) (row : Option Nat) : w.grownBy w row := ⟨rfl, rfl, rfl, Nat.le_refl _, fun _ _ _ => rfl⟩
theorem grownBy_setCell (w : World) (a : Addr) (v : Value) : w.grownBy (w.setCell a v) (some a.block) :=
  ⟨rfl, rfl, rfl, by simp [World.setCell], fun k _ hne => Below.heap_setCell _ _ _ _ (fun e => hne (by rw [e]))⟩
theorem grownBy_setCells {b : Nat} : ∀ (new : List Value) (w : World) (o : Nat), w.grownBy (w.setCells b o new) (some b)
  | [], w, _ => grownBy_refl w _
  | v :: r, w, o => grownBy_trans (grownBy_setCell w ⟨b, o, none⟩ v) (grownBy_setCells r _ (o + 1))
theorem size_setCells {b : Nat} : ∀ (new : List Value) (w : World) (o : Nat), (w.setCells b o new).heap.size = w.heap.size
  | [], _, _ => rfl
  | v :: r, w, o => (size_setCells r (w.setCell ⟨b, o, none⟩ v) (o + 1)).trans (by simp [World.setCell])
theorem below_of_grown {B : Nat} {a w w' : World} {row : Nat} (h : Below B a w) (hg : w.grownBy w' (some row)) (hB : B ≤ w.heap.size) (hr : B ≤ row) : Below B a w' :=
  h.grown hg hB (fun k e => by cases e; exact hr)
theorem grown_of_below {w w' : World} {row : Option Nat} (h : Below w.heap.size w w') : w.grownBy w' row := ⟨h.os, h.tape, h.output, h.size, fun k hk _ => h.block k hk⟩

theorem one_u8 (l : List Nat) : ∀ v ∈ l.map u8v, v.oneCell' = true := by
  intro v hv; simp only [List.mem_map] at hv; obtain ⟨n, _, rfl⟩ := hv; rfl
theorem one_u32 (l : List Nat) : ∀ v ∈ l.map u32v, v.oneCell' = true := by
  intro v hv; simp only [List.mem_map] at hv; obtain ⟨n, _, rfl⟩ := hv; rfl

theorem wpList_load_Row {P : Program} {ops : Array Oper} {rest : List Oper} {o : Oper} {a : Act} {w : World} {Q : Exit → Act → World → Prop} (hgd : o.guard = none) (ty : TypeId) (x : Operand) (ho : o.op = .load ty x)
    (g : Nat) (hx : a.eval x = .pointer (some ⟨g, 0, none⟩)) (t : TypeId) (vs : List Value) (hr : Row w g vs t) (d : TypeDesc)
    (hu : P.underlying ty = some d) (hd : (match d with | .struct _ | .array _ _ => true | _ => false) = true) (n : Nat) (hi : (P.info? ty).map (·.size) = some n) (hn : vs.length = n)
    (h : wpList P ops Q rest (a.put o.dst (.agg vs.toArray)) w) : wpList P ops Q (o :: rest) a w :=
  wpList_load_row hgd ty x ho g hx t vs.toArray (0, 0) d hr hu hd (by rw [hi]; simp [hn]) h
/-- the same where the operation's guard says yes -/
theorem wpList_load_RowG {P : Program} {ops : Array Oper} {rest : List Oper} {o : Oper} {a : Act} {w : World} {Q : Exit → Act → World → Prop} (hw : Region.wanted o (yielded ops a.tmps) = true) (ty : TypeId) (x : Operand) (ho : o.op = .load ty x)
    (g : Nat) (hx : a.eval x = .pointer (some ⟨g, 0, none⟩)) (t : TypeId) (vs : List Value) (hr : Row w g vs t) (d : TypeDesc)
    (hu : P.underlying ty = some d) (hd : (match d with | .struct _ | .array _ _ => true | _ => false) = true) (n : Nat) (hi : (P.info? ty).map (·.size) = some n) (hn : vs.length = n)
    (h : wpList P ops Q rest (a.put o.dst (.agg vs.toArray)) w) : wpList P ops Q (o :: rest) a w :=
  BigFrame.wpList_want hw fun _ hK => wp_load_row ty x ho g hx t vs.toArray (0, 0) d hr hu hd (by rw [hi]; simp [hn]) (hK _ _ h)
theorem there_of_row {w : World} {g : Nat} {vs : List Value} {t : TypeId} (hr : Row w g vs t) (o n : Nat) (h : o + n ≤ vs.length) : w.there g o n := fun j hj => by
  refine ⟨?_, hr.frozen _⟩
  rw [hr.cell, List.getElem?_eq_getElem (by omega)]; rfl
theorem wpList_store_Row {P : Program} {ops : Array Oper} {rest : List Oper} {op : Oper} {a : Act} {w : World} {Q : Exit → Act → World → Prop} (hgd : op.guard = none) (ty : TypeId) (x y : Operand) (ho : op.op = .store ty x y)
    (g o : Nat) (new : List Value) (hx : a.eval x = .pointer (some ⟨g, o, none⟩)) (hy : a.eval y = .agg new.toArray) (t : TypeId) (vs : List Value) (hr : Row w g vs t) (n : Nat) (hi : (P.info? ty).map (·.size) = some n) (hn : new.length = n)
    (hfit : o + n ≤ vs.length) (h1 : ∀ v ∈ new, v.oneCell' = true)
    (h : ∀ w', Row w' g (splice vs o new) t → w.grownBy w' (some g) → w'.heap.size = w.heap.size → wpList P ops Q rest (a.put op.dst undef) w') : wpList P ops Q (op :: rest) a w := by
  refine wpList_store_mid hgd ty x y ho g o new.toArray hx hy (there_of_row hr o _ (by simp; omega)) (by rw [hi]; simp [hn]) (all_oneCell_toArray h1) ?_
  exact h _ (Row.setCells new w vs o hr (by omega)) (grownBy_setCells _ _ _) (size_setCells _ _ _)
theorem post_Row {P : Program} {fn : Func} {R : Ending → World → Prop} {a : Act} {w : World} (p : Tmp) (ty : TypeId) (hf : fn.results = #[.cell p ty]) (g : Nat) (hp : a.tmps.getD p undef = .pointer (some ⟨g, 0, none⟩))
    (t : TypeId) (vs : List Value) (hr : Row w g vs t) (d : TypeDesc) (hu : P.underlying ty = some d) (hd : (match d with | .struct _ | .array _ _ => true | _ => false) = true) (n : Nat) (hi : (P.info? ty).map (·.size) = some n) (hn : vs.length = n)
    (hdf : a.defers = []) (h : R (.returned (.agg vs.toArray)) w) : bodyPost P fn R .ret a w :=
  bodyPost_ret (results_cell_row hf a.tmps w g t vs.toArray (0, 0) d hp hr hu hd (by rw [hi]; simp [hn])) hdf h

theorem info69 : (Tryd.prog.info? 69).map (·.size) = some 64 := by kernel_rfl
theorem info103 : (Tryd.prog.info? 103).map (·.size) = some 64 := by kernel_rfl
theorem info68 : (Tryd.prog.info? 68).map (·.size) = some 8 := by kernel_rfl
theorem info39 : (Tryd.prog.info? 39).map (·.size) = some 32 := by kernel_rfl
theorem info105 : (Tryd.prog.info? 105).map (·.size) = some 73 := by kernel_rfl
theorem info5 : (Tryd.prog.info? 5).map (·.size) = some 1 := by kernel_rfl
end Go.Proofs.YtokjbmpiekadaaaDoor
