/-
  The contracts again, over values that read as names. The walks of the reference's Show and Parse. The walk of the reference's Parse. Small laws on memory, on rows of a call's own, on slices of bytes; and of the walk for a block that is known whole. The walks of wire.shiftedByByte and wire.Check: the check sum of parts. The walk of wire.Next.
-/
import Derived.Test.YtngehkmdanhgpaaGreatRows
import Derived.WalkKit
import Derived.WalkSpells
import Derived.WalkLawsBesides
import Derived.Deep.AppendLies
import Derived.Deep.MidRow
import Derived.Deep.Light
import Derived.Laws.CopyOwn
import Derived.Laws.AppendOwnNone
import Derived.Laws.BytesArg
import Derived.Lib.Strings
import Derived.BigQuiet
import Derived.BigRegion
import Derived.Deep.RegionHeld3
import Derived.Lib.AppendZeros
import Derived.Deep.DrawnRows
import Derived.Test.YtngehkmdanhgpaaGreatR00
import Derived.Test.YtngehkmdanhgpaaGreatR01
import Derived.Test.YtngehkmdanhgpaaGreatR02
import Derived.Test.YtngehkmdanhgpaaGreatR03
import Derived.Test.YtngehkmdanhgpaaGreatR04
namespace Go.Proofs.YtngehkmdanhgpaaGreat.Vp
open Go.RowKit
/-- the value reads as these names -/
def Val (w : World) (v : Value) (xs : List Str) : Prop := ∃ p cap, v = .slice p xs.length cap ∧ Rd w p xs cap
theorem Rd.val {w : World} {p : Option Addr} {xs : List Str} {cap : Nat} (h : Rd w p xs cap) : Val w (.slice p xs.length cap) xs := ⟨p, cap, rfl, h⟩
theorem Nms.val {W : World} {base : Nat} {v : Value} {xs : List Str} (h : Nms W base v xs) : Val W v xs := h.rd
theorem Rd.drew {w w' : World} {p : Option Addr} {xs : List Str} {cap : Nat} (h : Rd w p xs cap) (hd : ∃ m, w' = w.drewN m) : Rd w' p xs cap := by
  obtain ⟨m, rfl⟩ := hd
  exact h.below (below_drewN (Below.refl _ _) m)
theorem Rd.none (w : World) : Rd w none [] 0 := ⟨by simp, by omega, fun _ => ⟨rfl, rfl⟩, 0, 0, fun h => absurd rfl h, fun j x hx => by simp at hx⟩
theorem Val.none (w : World) : Val w (.slice none 0 0) [] := ⟨_, _, rfl, Rd.none w⟩
theorem Val.below {w w' : World} {v : Value} {xs : List Str} (h : Val w v xs) (hb : Below w.heap.size w w') : Val w' v xs := by
  obtain ⟨p, cap, rfl, hr⟩ := h; exact ⟨p, cap, rfl, hr.below hb⟩
theorem Val.drew {w w' : World} {v : Value} {xs : List Str} (h : Val w v xs) (hd : ∃ m, w' = w.drewN m) : Val w' v xs := by
  obtain ⟨p, cap, rfl, hr⟩ := h; exact ⟨p, cap, rfl, hr.drew hd⟩
theorem within_v {xs ys : List Str} {u v : Value} {w : World} (hx : Val w u xs) (hy : Val w v ys) : Calls Tryz.prog 78 #[u, v] w fun e w' => e = .returned (.bool (withinS xs ys)) ∧ ∃ m, w' = w.drewN m := by
  obtain ⟨p, c, rfl, h1⟩ := hx; obtain ⟨q, d, rfl, h2⟩ := hy; exact within_any xs ys p q c d w h1 h2
theorem compare_v {xs ys : List Str} {u v : Value} {w : World} (hx : Val w u xs) (hy : Val w v ys) : Calls Tryz.prog 81 #[u, v] w fun e w' => e = .returned (.int .i64 (cmpL xs ys)) ∧ w' = w := by
  obtain ⟨p, c, rfl, h1⟩ := hx; obtain ⟨q, d, rfl, h2⟩ := hy; exact compare_any xs ys p q c d w h1 h2
theorem show_v {xs : List Str} {u : Value} {w : World} (hx : Val w u xs) (hl : Lib.lens xs + xs.length ≤ 140737488355328) : Calls Tryz.prog 51 #[u] w fun e w' => e = .returned (.string (B (showS xs))) ∧ Below w.heap.size w w' := by
  obtain ⟨p, c, rfl, h1⟩ := hx; exact show_any xs p c w h1 (by omega) (by have := join_le xs; omega)
end Go.Proofs.YtngehkmdanhgpaaGreat.Vp
namespace Go.Proofs.YtngehkmdanhgpaaGreat.Vp
open Go.RowKit
/-- a path's text, as the reference builds it -/
def showR (xs : List Str) : Str := if xs = [] then [47] else (xs.map (47 :: ·)).flatten
theorem showR_eq (xs : List Str) : showR xs = showS xs := by
  unfold showR showS
  cases xs with
  | nil => rfl
  | cons x r =>
    rw [if_neg (by simp), Lib.join_cons]
    simp [Lib.joinTail]
theorem val_at {w : World} {v : Value} {xs : List Str} (h : Val w v xs) : ∃ p cap b o, v = .slice p xs.length cap ∧ xs.length ≤ cap ∧ cap ≤ 9223372036854775807 ∧ (xs ≠ [] → p = some ⟨b, o, none⟩) ∧ ∀ (j : Nat) x, xs[j]? = some x → w.cell? ⟨b, o + j, none⟩ = some (.string (B x)) := by
  obtain ⟨p, cap, rfl, hr⟩ := h
  obtain ⟨b, o, h1, h2⟩ := hr.cells
  exact ⟨p, cap, b, o, rfl, hr.le, hr.big, fun hne => (h1 hne).1, h2⟩
end Go.Proofs.YtngehkmdanhgpaaGreat.Vp
namespace Go.Proofs.YtngehkmdanhgpaaGreat.Vp
open Go.RowKit
theorem pieces_plain (p : Str) (h : ∀ c ∈ p, c ≠ 47) : piecesS p = [p] := by
  induction p with
  | nil => rfl
  | cons c r ih =>
    unfold piecesS
    rw [if_neg (h c (by simp)), ih (fun d hd => h d (by simp [hd]))]
theorem pieces_stroke (p y : Str) (h : ∀ c ∈ p, c ≠ 47) : piecesS (p ++ 47 :: y) = p :: piecesS y := by
  induction p with
  | nil => simp [piecesS]
  | cons c r ih =>
    have e : piecesS (c :: (r ++ 47 :: y)) = match piecesS (r ++ 47 :: y) with | [] => [[c]] | p :: ps => (c :: p) :: ps := by
      conv => lhs; unfold piecesS
      rw [if_neg (h c (by simp))]
      rfl
    rw [List.cons_append, e, ih (fun d hd => h d (by simp [hd]))]
theorem drop_stroke {l : Str} {f i : Nat} (hf : f ≤ i) (hi : l[i]? = some 47) : l.drop f = (l.take i).drop f ++ 47 :: l.drop (i + 1) := by
  obtain ⟨hlt, he⟩ := List.getElem?_eq_some_iff.1 hi
  have h1 : l = l.take i ++ 47 :: l.drop (i + 1) := by
    conv => lhs; rw [← List.take_append_drop i l, List.drop_eq_getElem_cons hlt, he]
  conv => lhs; rw [h1, List.drop_append_of_le_length (by simp; omega)]
/-- behind the pieces that were read -/
def RA (l : Str) (pre : List Str) (f i : Nat) : Prop := (∀ d ∈ (l.take i).drop f, d ≠ 47) ∧ piecesS (l.drop 1) = pre ++ piecesS (l.drop f) ∧ pre.any long = false
theorem RA.stroke {l : Str} {pre : List Str} {f i : Nat} (h : RA l pre f i) (hf : f ≤ i) (hi : l[i]? = some 47) : piecesS (l.drop 1) = (pre ++ [(l.take i).drop f]) ++ piecesS (l.drop (i + 1)) := by
  rw [h.2.1, drop_stroke hf hi, pieces_stroke _ _ h.1]; simp
theorem RA.last {l : Str} {pre : List Str} {f i : Nat} (h : RA l pre f i) (hi : l.length ≤ i) : piecesS (l.drop 1) = pre ++ [(l.take i).drop f] := by
  have h1 := h.1
  rw [List.take_of_length_le hi] at h1 ⊢
  rw [h.2.1, pieces_plain _ h1]
theorem any_snoc {pre : List Str} {p : Str} (h : pre.any long = false) (hp : p.length ≤ 16) : (pre ++ [p]).any long = false := by
  rw [List.any_append, h]; simp [long]; omega
theorem RA.next {l : Str} {pre : List Str} {f i : Nat} (h : RA l pre f i) (hf : f ≤ i) (hi : l[i]? = some 47) (hp : ((l.take i).drop f).length ≤ 16) : RA l (pre ++ [(l.take i).drop f]) (i + 1) (i + 1) := by
  refine ⟨fun d hd => ?_, h.stroke hf hi, any_snoc h.2.2 hp⟩
  rw [List.drop_of_length_le (by simp; omega)] at hd
  cases hd
theorem RA.le {l : Str} {pre : List Str} {f i : Nat} (h : RA l pre f i) : pre.length ≤ l.length + 1 := by
  have h1 := pieces_len (l.drop 1)
  rw [h.2.1, List.length_append, List.length_drop] at h1
  omega
theorem Nms.grown {W W' : World} {base : Nat} {v : Value} {xs : List Str} {row : Option Nat} (h : Nms W base v xs) (hg : W.grownBy W' row) (hne : ∀ k, v.ownBlock = some k → row ≠ some k) : Nms W' base v xs := by
  refine World.ownsRow.kept h hg ?_
  rcases h.2 with ⟨rfl, _⟩ | ⟨g, cap, cur, rfl, _, hgb, _⟩
  · exact .inl rfl
  · exact .inr (fun e => hne g (by simp [Value.ownBlock]) (by simpa [Value.ownBlock] using e.symm))
end Go.Proofs.YtngehkmdanhgpaaGreat.Vp
namespace Go.Proofs.YtngehkmdanhgpaaGreat.Nd
open Go.RowKit
def u8v (n : Nat) : Value := .int .u8 (n : Int)
/-- block b of the world holds just these cells -/
def Row (w : World) (b : Nat) (vs : List Value) (t : TypeId) : Prop := w.heap[b]? = some (.cells vs.toArray t (0, 0))
theorem Row.cell {w : World} {b : Nat} {vs : List Value} {t : TypeId} (h : Row w b vs t) (j : Nat) : w.cell? ⟨b, j, none⟩ = vs[j]? := by
  rw [cell_of_row w b j _ t (0, 0) h]; simp
theorem Row.frozen {w : World} {b : Nat} {vs : List Value} {t : TypeId} (h : Row w b vs t) (j : Nat) : w.frozen? ⟨b, j, none⟩ = false := by
  unfold Row at h; simp [World.frozen?, h]
theorem Row.lt {w : World} {b : Nat} {vs : List Value} {t : TypeId} (h : Row w b vs t) : b < w.heap.size := by
  unfold Row at h
  exact (Array.getElem?_eq_some_iff.1 h).1
theorem Row.of_block {w w' : World} {b : Nat} {vs : List Value} {t : TypeId} (h : Row w b vs t) (hb : w'.heap[b]? = w.heap[b]?) : Row w' b vs t := by
  unfold Row at *; rw [hb]; exact h
theorem Row.drew {w : World} {b : Nat} {vs : List Value} {t : TypeId} (h : Row w b vs t) : Row w.drew b vs t := h
theorem Row.alloc {w : World} {b : Nat} {vs : List Value} {t : TypeId} (h : Row w b vs t) (o : Obj) : Row (w.alloc o) b vs t :=
  h.of_block (Below.heap_alloc _ _ _ h.lt)
theorem Row.new (w : World) (vs : List Value) (t : TypeId) : Row (w.alloc (.cells vs.toArray t)) w.heap.size vs t := heap_alloc_new w _
theorem Row.newAt (w : World) (b : Nat) (vs : List Value) (t : TypeId) (hb : w.heap.size = b) : Row (w.alloc (.cells vs.toArray t)) b vs t := by subst hb; exact heap_alloc_new w _
theorem Row.below {w w' : World} {b B : Nat} {vs : List Value} {t : TypeId} (h : Row w b vs t) (hb : Below B w w') (hB : b < B) : Row w' b vs t :=
  h.of_block (hb.block b hB)
theorem Row.grown {w w' : World} {b : Nat} {row : Option Nat} {vs : List Value} {t : TypeId} (h : Row w b vs t) (hb : w.grownBy w' row) (hB : some b ≠ row) : Row w' b vs t :=
  h.of_block (hb.block b h.lt hB)
theorem Row.set_other {w : World} {b : Nat} {vs : List Value} {t : TypeId} (h : Row w b vs t) (a : Addr) (v : Value) (hne : b ≠ a.block) : Row (w.setCell a v) b vs t :=
  h.of_block (Below.heap_setCell _ _ _ _ hne)
theorem Row.set_same {w : World} {b : Nat} {vs : List Value} {t : TypeId} (h : Row w b vs t) (j : Nat) (v : Value) : Row (w.setCell ⟨b, j, none⟩ v) b (vs.set j v) t := by
  unfold Row at *
  simp only [World.setCell, Array.getElem?_modify, if_true, h]
  simp
theorem splice_all {α : Type} (L new : List α) (h : new.length = L.length) : splice L 0 new = new := by
  simp [splice, h]
theorem splice_cons {α : Type} (L : List α) (o : Nat) (v : α) (r : List α) (h : o < L.length) : splice (L.set o v) (o + 1) r = splice L o (v :: r) := by
  unfold splice
  rw [List.take_succ_eq_append_getElem (by simpa using h)]
  have e1 : (L.set o v).take o = L.take o := by
    refine List.ext_getElem? fun j => ?_
    by_cases hj : j < o
    · rw [List.getElem?_take_of_lt hj, List.getElem?_take_of_lt hj, List.getElem?_set_ne (by omega)]
    · rw [List.getElem?_take_eq_none (by omega), List.getElem?_take_eq_none (by omega)]
  have e2 : (L.set o v).drop (o + 1 + r.length) = L.drop (o + (v :: r).length) := by
    rw [show o + (v :: r).length = o + 1 + r.length by simp; omega]
    refine List.ext_getElem? fun j => ?_
    rw [List.getElem?_drop, List.getElem?_drop, List.getElem?_set_ne (by omega)]
  rw [e1, e2]
  simp
theorem Row.setCells {t : TypeId} {b : Nat} : ∀ (new : List Value) (w : World) (vs : List Value) (o : Nat), Row w b vs t → o + new.length ≤ vs.length → Row (w.setCells b o new) b (splice vs o new) t
  | [], w, vs, o, h, _ => by simpa [World.setCells, splice] using h
  | v :: r, w, vs, o, h, hl => by
    simp only [List.length_cons] at hl
    have h' := Row.setCells r (w.setCell ⟨b, o, none⟩ v) (vs.set o v) (o + 1) (h.set_same o v) (by simp; omega)
    rw [splice_cons vs o v r (by omega)] at h'
    exact h'
theorem grownBy_trans {a b c : World} {row : Option Nat} (h : a.grownBy b row) (k : b.grownBy c row) : a.grownBy c row :=
  ⟨k.os.trans h.os, k.tape.trans h.tape, k.output.trans h.output, Nat.le_trans h.size k.size, fun i hi hne => (k.block i (Nat.lt_of_lt_of_le hi h.size) hne).trans (h.block i hi hne)⟩
theorem grownBy_refl (w : World) (row : Option Nat) : w.grownBy w row := ⟨rfl, rfl, rfl, Nat.le_refl _, fun _ _ _ => rfl⟩
theorem grownBy_setCell (w : World) (a : Addr) (v : Value) : w.grownBy (w.setCell a v) (some a.block) :=
  ⟨rfl, rfl, rfl, by simp [World.setCell], fun k _ hne => Below.heap_setCell _ _ _ _ (fun e => hne (by rw [e]))⟩
theorem grownBy_setCells {b : Nat} : ∀ (new : List Value) (w : World) (o : Nat), w.grownBy (w.setCells b o new) (some b)
  | [], w, _ => grownBy_refl w _
  | v :: r, w, o => grownBy_trans (grownBy_setCell w ⟨b, o, none⟩ v) (grownBy_setCells r _ (o + 1))
theorem size_setCells {b : Nat} : ∀ (new : List Value) (w : World) (o : Nat), (w.setCells b o new).heap.size = w.heap.size
  | [], _, _ => rfl
  | v :: r, w, o => (size_setCells r (w.setCell ⟨b, o, none⟩ v) (o + 1)).trans (by simp [World.setCell])
theorem below_of_grown {B : Nat} {a w w' : World} {row : Nat} (h : Below B a w) (hg : w.grownBy w' (some row)) (hB : B ≤ w.heap.size) (hr : B ≤ row) : Below B a w' :=
  h.grown hg hB (fun k e => by cases e; exact hr)
theorem grown_of_below {w w' : World} {row : Option Nat} (h : Below w.heap.size w w') : w.grownBy w' row := ⟨h.os, h.tape, h.output, h.size, fun k hk _ => h.block k hk⟩
theorem one_u8 (l : List Nat) : ∀ v ∈ l.map u8v, v.oneCell' = true := by
  intro v hv; simp only [List.mem_map] at hv; obtain ⟨n, _, rfl⟩ := hv; rfl
theorem there_of_row {w : World} {g : Nat} {vs : List Value} {t : TypeId} (hr : Row w g vs t) (o n : Nat) (h : o + n ≤ vs.length) : w.there g o n := fun j hj => by
  refine ⟨?_, hr.frozen _⟩
  rw [hr.cell, List.getElem?_eq_getElem (by omega)]; rfl
theorem wpList_store_Row {P : Program} {ops : Array Oper} {rest : List Oper} {op : Oper} {a : Act} {w : World} {Q : Exit → Act → World → Prop} (hgd : op.guard = none) (ty : TypeId) (x y : Operand) (ho : op.op = .store ty x y)
    (g o : Nat) (new : List Value) (hx : a.eval x = .pointer (some ⟨g, o, none⟩)) (hy : a.eval y = .agg new.toArray) (t : TypeId) (vs : List Value) (hr : Row w g vs t) (n : Nat) (hi : (P.info? ty).map (·.size) = some n) (hn : new.length = n)
    (hfit : o + n ≤ vs.length) (h1 : ∀ v ∈ new, v.oneCell' = true)
    (h : ∀ w', Row w' g (splice vs o new) t → w.grownBy w' (some g) → w'.heap.size = w.heap.size → wpList P ops Q rest (a.put op.dst undef) w') : wpList P ops Q (op :: rest) a w := by
  refine wpList_store_mid hgd ty x y ho g o new.toArray hx hy (there_of_row hr o _ (by simp; omega)) (by rw [hi]; simp [hn]) (all_oneCell_toArray h1) ?_
  exact h _ (Row.setCells new w vs o hr (by omega)) (grownBy_setCells _ _ _) (size_setCells _ _ _)
theorem post_Row {P : Program} {fn : Func} {R : Ending → World → Prop} {a : Act} {w : World} (p : Tmp) (ty : TypeId) (hf : fn.results = #[.cell p ty]) (g : Nat) (hp : a.tmps.getD p undef = .pointer (some ⟨g, 0, none⟩))
    (t : TypeId) (vs : List Value) (hr : Row w g vs t) (d : TypeDesc) (hu : P.underlying ty = some d) (hd : (match d with | .struct _ | .array _ _ => true | _ => false) = true) (n : Nat) (hi : (P.info? ty).map (·.size) = some n) (hn : vs.length = n)
    (hdf : a.defers = []) (h : R (.returned (.agg vs.toArray)) w) : bodyPost P fn R .ret a w :=
  bodyPost_ret (results_cell_row hf a.tmps w g t vs.toArray (0, 0) d hp hr hu hd (by rw [hi]; simp [hn])) hdf h
/-- a slice of bytes that lies in the world -/
structure Sl (w : World) (p : Option Addr) (bs : List Nat) (cap : Nat) (b off : Nat) : Prop where
  lt : ∀ x ∈ bs, x < 256
  cap1 : bs.length ≤ cap
  cap2 : cap ≤ 9223372036854775807
  at_ : 0 < bs.length → p = some ⟨b, off, none⟩
  src : ∀ j, j < bs.length → w.cell? ⟨b, off + j, none⟩ = some (u8v (bs.getD j 0))
theorem Sl.below {w w' : World} {p : Option Addr} {bs : List Nat} {cap b off : Nat} (h : Sl w p bs cap b off) (hb : Below w.heap.size w w') : Sl w' p bs cap b off :=
  ⟨h.lt, h.cap1, h.cap2, h.at_, fun j hj => by rw [hb.cell (World.block_lt_of_cell? w _ (h.src j hj))]; exact h.src j hj⟩
theorem own_step {w w' : World} {B : Nat} {v : Value} {row : Option Nat} {a : World} (hb : Below B a w) (hg : w.grownBy w' row) (hB : B ≤ w.heap.size) (hv : row = v.ownBlock) {e : TypeId} {size n : Nat} {xs : List Value} (ho : w.ownsRow B e size v n xs) : Below B a w' := by
  subst hv
  exact hb.grown hg hB (fun k hk => (ho.lt k hk).1)
/-- a string's bytes -/
def str (l : List Nat) : ByteArray := ⟨(l.map UInt8.ofNat).toArray⟩
end Go.Proofs.YtngehkmdanhgpaaGreat.Nd
namespace Go.Proofs.YtngehkmdanhgpaaGreat.Nd.Wire
/-- one bit goes -/
def step (x : Nat) : Nat := if x % 2 = 1 then (x / 2) ^^^ 3988292384 else x / 2
def steps : Nat → Nat → Nat
  | 0, x => x
  | k + 1, x => step (steps k x)
/-- one byte comes -/
def byte (s b : Nat) : Nat := steps 8 (s ^^^ b)
def run (s : Nat) (bs : List Nat) : Nat := bs.foldl byte s
def val (b : List Nat) : Nat := b.getD 0 0 + b.getD 1 0 * 256 + b.getD 2 0 * 65536 + b.getD 3 0 * 16777216
end Go.Proofs.YtngehkmdanhgpaaGreat.Nd.Wire
namespace Go.Proofs.YtngehkmdanhgpaaGreat.Nd
open Go.RowKit
/-- a slice of bytes among several: where it lies, its bytes -/
structure Part where
  p : Option Addr
  bs : List Nat
  cap : Nat
  b : Nat
  off : Nat
def Part.val (x : Part) : Value := .slice x.p x.bs.length x.cap
def Part.ok (w : World) (x : Part) : Prop := Sl w x.p x.bs x.cap x.b x.off
/-- slices of bytes that lie one behind the other -/
structure Parts (w : World) (pb po : Nat) (ps : List Part) : Prop where
  at_ : ∀ i x, ps[i]? = some x → w.cell? ⟨pb, po + i, none⟩ = some x.val
  ok : ∀ x ∈ ps, x.ok w
  no : ∀ x ∈ ps, x.p = none → x.bs.length = 0 ∧ x.cap = 0
theorem Parts.below {w w' : World} {pb po : Nat} {ps : List Part} (h : Parts w pb po ps) (hb : Below w.heap.size w w') : Parts w' pb po ps :=
  ⟨fun i x hx => by rw [hb.cell (World.block_lt_of_cell? w _ (h.at_ i x hx))]; exact h.at_ i x hx, fun x hx => (h.ok x hx).below hb, h.no⟩
theorem Sl.grown {w w' : World} {p : Option Addr} {bs : List Nat} {cap b off : Nat} {row : Option Nat} (h : Sl w p bs cap b off) (hb : w.grownBy w' row) (hne : 0 < bs.length → some b ≠ row) : Sl w' p bs cap b off :=
  ⟨h.lt, h.cap1, h.cap2, h.at_, fun j hj => hb.cell (h.src j hj) (hne (by omega))⟩
theorem Sl.blk {w : World} {p : Option Addr} {bs : List Nat} {cap b off : Nat} (h : Sl w p bs cap b off) (h0 : 0 < bs.length) : b < w.heap.size := World.block_lt_of_cell? w _ (h.src 0 h0)
end Go.Proofs.YtngehkmdanhgpaaGreat.Nd
namespace Go.Proofs.YtngehkmdanhgpaaGreat.Nd
open Go.RowKit
theorem hid_in {p : Prop} (h : p) : Hid p := h
/-- a part of a slice of bytes -/
theorem Sl.part {w : World} {p : Option Addr} {bs : List Nat} {cap b off : Nat} (h : Sl w p bs cap b off) (n m c : Nat) (hnm : n + m ≤ bs.length) (hc : m ≤ c) (hc2 : c ≤ 9223372036854775807) : Sl w (some ⟨b, off + n, none⟩) ((bs.drop n).take m) c b (off + n) :=
  ⟨fun x hx => h.lt x (List.mem_of_mem_drop (List.mem_of_mem_take hx)), by simp; omega, hc2, fun _ => rfl, fun j hj => by
    have hj' : j < m := by simp at hj; omega
    rw [Nat.add_assoc, h.src (n + j) (by omega)]
    simp [hj']⟩
end Go.Proofs.YtngehkmdanhgpaaGreat.Nd
