/-
  SHA-256 in plain numbers: what the digest of bytes is, by the document's chapter 1. No program in it. Small laws on memory: a block that is known whole, behind a store, a new block, a draw; and on numbers' lists. Laws of the walk for a block that is known whole: a load and a store of a whole row or of a part of it, and a result that is a row. Two digests are compared. A slice of bytes that lies in the world. Digests as keys of a map: what the map's operations do with them. A map whose keys are digests, as a function; what look-up, store, delete and len do to it.
-/
import Derived.Test.YtamaejlbojbbeaaGreatDoorRows
import Derived.WalkKit
import Derived.WalkSpells
import Derived.WalkLawsBesides
import Derived.Deep.AppendLies
import Derived.Deep.MidRow
import Derived.Laws.CopyOwn
import Derived.Maps.OwnSet
namespace Go.Proofs.YtamaejlbojbbeaaGreatDoor.Sb.Sha
/-- a word turned right by n bits -/
def rotr (x n : Nat) : Nat := (x * 2 ^ (32 - n) % 4294967296) ||| (x / 2 ^ n)
def s0 (x : Nat) : Nat := rotr x 7 ^^^ rotr x 18 ^^^ x / 8
def s1 (x : Nat) : Nat := rotr x 17 ^^^ rotr x 19 ^^^ x / 1024
def S0 (x : Nat) : Nat := rotr x 2 ^^^ rotr x 13 ^^^ rotr x 22
def S1 (x : Nat) : Nat := rotr x 6 ^^^ rotr x 11 ^^^ rotr x 25
def ch (e f g : Nat) : Nat := (e &&& f) ^^^ ((4294967295 - e) &&& g)
def maj (a b c : Nat) : Nat := (a &&& b) ^^^ (a &&& c) ^^^ (b &&& c)
/-- a block's word, of its first sixteen -/
def word0 (bl : List Nat) (t : Nat) : Nat := bl.getD (4 * t) 0 * 16777216 + bl.getD (4 * t + 1) 0 * 65536 + bl.getD (4 * t + 2) 0 * 256 + bl.getD (4 * t + 3) 0
/-- the word behind t words -/
def wnext (l : List Nat) (t : Nat) : Nat := (s1 (l.getD (t - 2) 0) + l.getD (t - 7) 0 + s0 (l.getD (t - 15) 0) + l.getD (t - 16) 0) % 4294967296
/-- the first t words of a block's schedule -/
def wl (bl : List Nat) : Nat → List Nat
  | 0 => []
  | t + 1 => wl bl t ++ [if t < 16 then word0 bl t else wnext (wl bl t) t]
structure St where
  a : Nat
  b : Nat
  c : Nat
  d : Nat
  e : Nat
  f : Nat
  g : Nat
  h : Nat
def St.list (s : St) : List Nat := [s.a, s.b, s.c, s.d, s.e, s.f, s.g, s.h]
def t1 (s : St) (k w : Nat) : Nat := (s.h + S1 s.e + ch s.e s.f s.g + k + w) % 4294967296
def t2 (s : St) : Nat := (S0 s.a + maj s.a s.b s.c) % 4294967296
def rnd (s : St) (k w : Nat) : St := ⟨(t1 s k w + t2 s) % 4294967296, s.a, s.b, s.c, (s.d + t1 s k w) % 4294967296, s.e, s.f, s.g⟩
def K : List Nat := [1116352408, 1899447441, 3049323471, 3921009573, 961987163, 1508970993, 2453635748, 2870763221, 3624381080, 310598401, 607225278, 1426881987, 1925078388, 2162078206, 2614888103, 3248222580, 3835390401, 4022224774, 264347078, 604807628, 770255983, 1249150122, 1555081692, 1996064986, 2554220882, 2821834349, 2952996808, 3210313671, 3336571891, 3584528711, 113926993, 338241895, 666307205, 773529912, 1294757372, 1396182291, 1695183700, 1986661051, 2177026350, 2456956037, 2730485921, 2820302411, 3259730800, 3345764771, 3516065817, 3600352804, 4094571909, 275423344, 430227734, 506948616, 659060556, 883997877, 958139571, 1322822218, 1537002063, 1747873779, 1955562222, 2024104815, 2227730452, 2361852424, 2428436474, 2756734187, 3204031479, 3329325298]
def rounds (s : St) (w : List Nat) : Nat → St
  | 0 => s
  | t + 1 => rnd (rounds s w t) (K.getD t 0) (w.getD t 0)
def plus (s r : St) : St := ⟨(s.a + r.a) % 4294967296, (s.b + r.b) % 4294967296, (s.c + r.c) % 4294967296, (s.d + r.d) % 4294967296, (s.e + r.e) % 4294967296, (s.f + r.f) % 4294967296, (s.g + r.g) % 4294967296, (s.h + r.h) % 4294967296⟩
/-- the state behind a block -/
def comp (s : St) (bl : List Nat) : St := plus s (rounds s (wl bl 64) 64)
def H0 : St := ⟨1779033703, 3144134277, 1013904242, 2773480762, 1359893119, 2600822924, 528734635, 1541459225⟩
/-- the state behind the first n blocks of some bytes -/
def run (m : List Nat) : Nat → St
  | 0 => H0
  | n + 1 => comp (run m n) ((m.drop (64 * n)).take 64)
/-- what comes behind n bytes to make the whole message -/
def ending (n : Nat) : List Nat := 128 :: (List.replicate ((119 - n % 64) % 64) 0 ++ [n * 8 / 2 ^ 56 % 256, n * 8 / 2 ^ 48 % 256, n * 8 / 2 ^ 40 % 256, n * 8 / 2 ^ 32 % 256, n * 8 / 2 ^ 24 % 256, n * 8 / 2 ^ 16 % 256, n * 8 / 2 ^ 8 % 256, n * 8 % 256])
def bytesOf (x : Nat) : List Nat := [x / 16777216 % 256, x / 65536 % 256, x / 256 % 256, x % 256]
def digestOf (s : St) : List Nat := s.list.flatMap bytesOf
/-- the digest of some bytes -/
def sum (m : List Nat) : List Nat := digestOf (run (m ++ ending m.length) ((m ++ ending m.length).length / 64))
end Go.Proofs.YtamaejlbojbbeaaGreatDoor.Sb.Sha
namespace Go.Proofs.YtamaejlbojbbeaaGreatDoor.Sb
open Go.RowKit
def u8v (n : Nat) : Value := .int .u8 (n : Int)
def u32v (n : Nat) : Value := .int .u32 (n : Int)
/-- block b of the world holds just these cells -/
def Row (w : World) (b : Nat) (vs : List Value) (t : TypeId) : Prop := w.heap[b]? = some (.cells vs.toArray t (0, 0))
theorem Row.cell {w : World} {b : Nat} {vs : List Value} {t : TypeId} (h : Row w b vs t) (j : Nat) : w.cell? ⟨b, j, none⟩ = vs[j]? := by
  rw [cell_of_row w b j _ t (0, 0) h]; simp
theorem Row.cellMap {w : World} {b : Nat} {l : List Nat} {f : Nat → Value} {t : TypeId} (h : Row w b (l.map f) t) (j : Nat) (hj : j < l.length) : w.cell? ⟨b, j, none⟩ = some (f (l.getD j 0)) := by
  rw [h.cell]; simp [hj]
theorem Row.frozen {w : World} {b : Nat} {vs : List Value} {t : TypeId} (h : Row w b vs t) (j : Nat) : w.frozen? ⟨b, j, none⟩ = false := by
  unfold Row at h; simp [World.frozen?, h]
theorem Row.lt {w : World} {b : Nat} {vs : List Value} {t : TypeId} (h : Row w b vs t) : b < w.heap.size := by
  unfold Row at h
  exact (Array.getElem?_eq_some_iff.1 h).1
theorem Row.of_block {w w' : World} {b : Nat} {vs : List Value} {t : TypeId} (h : Row w b vs t) (hb : w'.heap[b]? = w.heap[b]?) : Row w' b vs t := by
  unfold Row at *; rw [hb]; exact h
theorem Row.drew {w : World} {b : Nat} {vs : List Value} {t : TypeId} (h : Row w b vs t) : Row w.drew b vs t := h
theorem Row.drewN {w : World} {b : Nat} {vs : List Value} {t : TypeId} (h : Row w b vs t) (n : Nat) : Row (w.drewN n) b vs t := by
  refine h.of_block ?_; simp
theorem Row.alloc {w : World} {b : Nat} {vs : List Value} {t : TypeId} (h : Row w b vs t) (o : Obj) : Row (w.alloc o) b vs t :=
  h.of_block (Below.heap_alloc _ _ _ h.lt)
theorem Row.new (w : World) (vs : List Value) (t : TypeId) : Row (w.alloc (.cells vs.toArray t)) w.heap.size vs t := heap_alloc_new w _
theorem Row.newAt (w : World) (b : Nat) (vs : List Value) (t : TypeId) (hb : w.heap.size = b) : Row (w.alloc (.cells vs.toArray t)) b vs t := by subst hb; exact heap_alloc_new w _
theorem Row.below {w w' : World} {b B : Nat} {vs : List Value} {t : TypeId} (h : Row w b vs t) (hb : Below B w w') (hB : b < B) : Row w' b vs t :=
  h.of_block (hb.block b hB)
theorem Row.grown {w w' : World} {b : Nat} {row : Option Nat} {vs : List Value} {t : TypeId} (h : Row w b vs t) (hb : w.grownBy w' row) (hB : some b ≠ row) : Row w' b vs t :=
  h.of_block (hb.block b h.lt hB)
theorem Row.set_other {w : World} {b : Nat} {vs : List Value} {t : TypeId} (h : Row w b vs t) (a : Addr) (v : Value) (hne : b ≠ a.block) : Row (w.setCell a v) b vs t :=
  h.of_block (Below.heap_setCell _ _ _ _ hne)
theorem Row.set_same {w : World} {b : Nat} {vs : List Value} {t : TypeId} (h : Row w b vs t) (j : Nat) (v : Value) : Row (w.setCell ⟨b, j, none⟩ v) b (vs.set j v) t := by
  unfold Row at *
  simp only [World.setCell, Array.getElem?_modify, if_true, h]
  simp
theorem getD_lt {l : List Nat} {m : Nat} (h : ∀ x ∈ l, x < m) (j : Nat) (hm : 0 < m := by decide) : l.getD j 0 < m := by
  by_cases hj : j < l.length
  · simp only [List.getD_eq_getElem?_getD, List.getElem?_eq_getElem hj, Option.getD_some]; exact h _ (List.getElem_mem hj)
  · simp only [List.getD_eq_getElem?_getD, List.getElem?_eq_none (Nat.le_of_not_lt hj), Option.getD_none]; exact hm
theorem getD_take {l : List Nat} {t j : Nat} (h : j < t) : (l.take t).getD j 0 = l.getD j 0 := by
  simp [h]
theorem take_set_succ {l : List Nat} {t : Nat} (x : Nat) (h : t < l.length) : (l.set t x).take (t + 1) = l.take t ++ [x] := by
  rw [List.take_succ_eq_append_getElem (by simpa using h)]
  simp only [List.getElem_set_self]
  congr 1
  refine List.ext_getElem? fun j => ?_
  by_cases hj : j < t
  · rw [List.getElem?_take_of_lt hj, List.getElem?_take_of_lt hj, List.getElem?_set_ne (by omega)]
  · rw [List.getElem?_take_eq_none (by omega), List.getElem?_take_eq_none (by omega)]
end Go.Proofs.YtamaejlbojbbeaaGreatDoor.Sb
namespace Go.Proofs.YtamaejlbojbbeaaGreatDoor.Sb
open Go.RowKit
theorem splice_all {α : Type} (L new : List α) (h : new.length = L.length) : splice L 0 new = new := by
  simp [splice, h]
theorem splice_cons {α : Type} (L : List α) (o : Nat) (v : α) (r : List α) (h : o < L.length) : splice (L.set o v) (o + 1) r = splice L o (v :: r) := by
  unfold splice
  rw [List.take_succ_eq_append_getElem (by simpa using h)]
  have e1 : (L.set o v).take o = L.take o := by
    refine List.ext_getElem? fun j => ?_
    by_cases hj : j < o
    · rw [List.getElem?_take_of_lt hj, List.getElem?_take_of_lt hj, List.getElem?_set_ne (by omega)]
    · rw [List.getElem?_take_eq_none (by omega), List.getElem?_take_eq_none (by omega)]
  have e2 : (L.set o v).drop (o + 1 + r.length) = L.drop (o + (v :: r).length) := by
    rw [show o + (v :: r).length = o + 1 + r.length by simp; omega]
    refine List.ext_getElem? fun j => ?_
    rw [List.getElem?_drop, List.getElem?_drop, List.getElem?_set_ne (by omega)]
  rw [e1, e2]
  simp
theorem Row.setCells {t : TypeId} {b : Nat} : ∀ (new : List Value) (w : World) (vs : List Value) (o : Nat), Row w b vs t → o + new.length ≤ vs.length → Row (w.setCells b o new) b (splice vs o new) t
  | [], w, vs, o, h, _ => by simpa [World.setCells, splice] using h
  | v :: r, w, vs, o, h, hl => by
    simp only [List.length_cons] at hl
    have h' := Row.setCells r (w.setCell ⟨b, o, none⟩ v) (vs.set o v) (o + 1) (h.set_same o v) (by simp; omega)
    rw [splice_cons vs o v r (by omega)] at h'
    exact h'
theorem grownBy_trans {a b c : World} {row : Option Nat} (h : a.grownBy b row) (k : b.grownBy c row) : a.grownBy c row :=
  ⟨k.os.trans h.os, k.tape.trans h.tape, k.output.trans h.output, Nat.le_trans h.size k.size, fun i hi hne => (k.block i (Nat.lt_of_lt_of_le hi h.size) hne).trans (h.block i hi hne)⟩
theorem grownBy_refl (w : World) (row : Option Nat) : w.grownBy w row := ⟨rfl, rfl, rfl, Nat.le_refl _, fun _ _ _ => rfl⟩
theorem grownBy_setCell (w : World) (a : Addr) (v : Value) : w.grownBy (w.setCell a v) (some a.block) :=
  ⟨rfl, rfl, rfl, by simp [World.setCell], fun k _ hne => Below.heap_setCell _ _ _ _ (fun e => hne (by rw [e]))⟩
theorem grownBy_setCells {b : Nat} : ∀ (new : List Value) (w : World) (o : Nat), w.grownBy (w.setCells b o new) (some b)
  | [], w, _ => grownBy_refl w _
  | v :: r, w, o => grownBy_trans (grownBy_setCell w ⟨b, o, none⟩ v) (grownBy_setCells r _ (o + 1))
theorem size_setCells {b : Nat} : ∀ (new : List Value) (w : World) (o : Nat), (w.setCells b o new).heap.size = w.heap.size
  | [], _, _ => rfl
  | v :: r, w, o => (size_setCells r (w.setCell ⟨b, o, none⟩ v) (o + 1)).trans (by simp [World.setCell])
theorem below_of_grown {B : Nat} {a w w' : World} {row : Nat} (h : Below B a w) (hg : w.grownBy w' (some row)) (hB : B ≤ w.heap.size) (hr : B ≤ row) : Below B a w' :=
  h.grown hg hB (fun k e => by cases e; exact hr)
theorem grown_of_below {w w' : World} {row : Option Nat} (h : Below w.heap.size w w') : w.grownBy w' row := ⟨h.os, h.tape, h.output, h.size, fun k hk _ => h.block k hk⟩
theorem one_u8 (l : List Nat) : ∀ v ∈ l.map u8v, v.oneCell' = true := by
  intro v hv; simp only [List.mem_map] at hv; obtain ⟨n, _, rfl⟩ := hv; rfl
theorem one_u32 (l : List Nat) : ∀ v ∈ l.map u32v, v.oneCell' = true := by
  intro v hv; simp only [List.mem_map] at hv; obtain ⟨n, _, rfl⟩ := hv; rfl
theorem wpList_load_Row {P : Program} {ops : Array Oper} {rest : List Oper} {o : Oper} {a : Act} {w : World} {Q : Exit → Act → World → Prop} (hgd : o.guard = none) (ty : TypeId) (x : Operand) (ho : o.op = .load ty x)
    (g : Nat) (hx : a.eval x = .pointer (some ⟨g, 0, none⟩)) (t : TypeId) (vs : List Value) (hr : Row w g vs t) (d : TypeDesc)
    (hu : P.underlying ty = some d) (hd : (match d with | .struct _ | .array _ _ => true | _ => false) = true) (n : Nat) (hi : (P.info? ty).map (·.size) = some n) (hn : vs.length = n)
    (h : wpList P ops Q rest (a.put o.dst (.agg vs.toArray)) w) : wpList P ops Q (o :: rest) a w :=
  wpList_load_row hgd ty x ho g hx t vs.toArray (0, 0) d hr hu hd (by rw [hi]; simp [hn]) h
/-- the same where the operation's guard says yes -/
theorem wpList_load_RowG {P : Program} {ops : Array Oper} {rest : List Oper} {o : Oper} {a : Act} {w : World} {Q : Exit → Act → World → Prop} (hw : Region.wanted o (yielded ops a.tmps) = true) (ty : TypeId) (x : Operand) (ho : o.op = .load ty x)
    (g : Nat) (hx : a.eval x = .pointer (some ⟨g, 0, none⟩)) (t : TypeId) (vs : List Value) (hr : Row w g vs t) (d : TypeDesc)
    (hu : P.underlying ty = some d) (hd : (match d with | .struct _ | .array _ _ => true | _ => false) = true) (n : Nat) (hi : (P.info? ty).map (·.size) = some n) (hn : vs.length = n)
    (h : wpList P ops Q rest (a.put o.dst (.agg vs.toArray)) w) : wpList P ops Q (o :: rest) a w :=
  BigFrame.wpList_want hw fun _ hK => wp_load_row ty x ho g hx t vs.toArray (0, 0) d hr hu hd (by rw [hi]; simp [hn]) (hK _ _ h)
theorem there_of_row {w : World} {g : Nat} {vs : List Value} {t : TypeId} (hr : Row w g vs t) (o n : Nat) (h : o + n ≤ vs.length) : w.there g o n := fun j hj => by
  refine ⟨?_, hr.frozen _⟩
  rw [hr.cell, List.getElem?_eq_getElem (by omega)]; rfl
theorem wpList_store_Row {P : Program} {ops : Array Oper} {rest : List Oper} {op : Oper} {a : Act} {w : World} {Q : Exit → Act → World → Prop} (hgd : op.guard = none) (ty : TypeId) (x y : Operand) (ho : op.op = .store ty x y)
    (g o : Nat) (new : List Value) (hx : a.eval x = .pointer (some ⟨g, o, none⟩)) (hy : a.eval y = .agg new.toArray) (t : TypeId) (vs : List Value) (hr : Row w g vs t) (n : Nat) (hi : (P.info? ty).map (·.size) = some n) (hn : new.length = n)
    (hfit : o + n ≤ vs.length) (h1 : ∀ v ∈ new, v.oneCell' = true)
    (h : ∀ w', Row w' g (splice vs o new) t → w.grownBy w' (some g) → w'.heap.size = w.heap.size → wpList P ops Q rest (a.put op.dst undef) w') : wpList P ops Q (op :: rest) a w := by
  refine wpList_store_mid hgd ty x y ho g o new.toArray hx hy (there_of_row hr o _ (by simp; omega)) (by rw [hi]; simp [hn]) (all_oneCell_toArray h1) ?_
  exact h _ (Row.setCells new w vs o hr (by omega)) (grownBy_setCells _ _ _) (size_setCells _ _ _)
theorem post_Row {P : Program} {fn : Func} {R : Ending → World → Prop} {a : Act} {w : World} (p : Tmp) (ty : TypeId) (hf : fn.results = #[.cell p ty]) (g : Nat) (hp : a.tmps.getD p undef = .pointer (some ⟨g, 0, none⟩))
    (t : TypeId) (vs : List Value) (hr : Row w g vs t) (d : TypeDesc) (hu : P.underlying ty = some d) (hd : (match d with | .struct _ | .array _ _ => true | _ => false) = true) (n : Nat) (hi : (P.info? ty).map (·.size) = some n) (hn : vs.length = n)
    (hdf : a.defers = []) (h : R (.returned (.agg vs.toArray)) w) : bodyPost P fn R .ret a w :=
  bodyPost_ret (results_cell_row hf a.tmps w g t vs.toArray (0, 0) d hp hr hu hd (by rw [hi]; simp [hn])) hdf h
theorem info69 : (Tryz.prog.info? 157).map (·.size) = some 64 := by kernel_rfl
theorem info103 : (Tryz.prog.info? 241).map (·.size) = some 64 := by kernel_rfl
theorem info68 : (Tryz.prog.info? 156).map (·.size) = some 8 := by kernel_rfl
theorem info39 : (Tryz.prog.info? 30).map (·.size) = some 32 := by kernel_rfl
theorem info105 : (Tryz.prog.info? 243).map (·.size) = some 73 := by kernel_rfl
theorem info5 : (Tryz.prog.info? 5).map (·.size) = some 1 := by kernel_rfl
end Go.Proofs.YtamaejlbojbbeaaGreatDoor.Sb
namespace Go.Proofs.YtamaejlbojbbeaaGreatDoor.Sb
open Go.RowKit
theorem eq_loop {P : Program} {w : World} (f : Nat → Option Bool × Unit → Sem (ForInStep (Option Bool × Unit))) (c : Nat → Bool) :
    ∀ (L : List Nat), (∀ i ∈ L, ∀ s, (f i s).run P w = .ok (if c i = true then .yield (none, ()) else .done (some false, ())) w) → (forIn L (none, ()) f).run P w = .ok (if L.all c = true then (none, ()) else (some false, ())) w
  | [], _ => by simp [Sem.run_pure]
  | i :: L, h => by
    simp only [List.forIn_cons, Sem.run_bind, h i (by simp)]
    by_cases hc : c i = true
    · simp only [hc, if_true, Result.andThen, List.all_cons, Bool.true_and]
      exact eq_loop f c L (fun j hj => h j (by simp [hj]))
    · simp [hc, Result.andThen, Sem.run_pure]
theorem part5 (d : List Nat) (hd : d.length = 32) (i : Nat) (h : i < 32) (w : World) : (part 5 (d.map u8v).toArray i).run Tryz.prog w = .ok (u8v (d.getD i 0)) w := by
  have hagg : (isAgg 5).run Tryz.prog w = .ok false w := by kernel_rfl
  have hi : i < d.length := by omega
  simp [part, Sem.run_bind, hagg, hi]
theorem eqin5 (d x y : Nat) (w : World) : (Op.equalIn (d + 1) 5 (u8v x) (u8v y)).run Tryz.prog w = .ok (decide (x = y)) w := by
  simp only [Op.equalIn, Sem.run_bind, run_underlying Tryz.underlying5, Result.andThen_ok, u8v, if_true, Sem.run_pure]
  congr 1
  rw [Bool.eq_iff_iff]
  simp
  omega
theorem all_range (a b : List Nat) (ha : a.length = 32) (hb : b.length = 32) : (List.range' 0 32).all (fun i => decide (a.getD i 0 = b.getD i 0)) = decide (a = b) := by
  rw [Bool.eq_iff_iff]
  simp only [List.all_eq_true, decide_eq_true_eq, List.mem_range'_1]
  constructor
  · intro h
    refine List.ext_getElem (by omega) fun i h1 h2 => ?_
    have := h i ⟨by omega, by omega⟩
    simpa [h1, h2] using this
  · rintro rfl i _; rfl
theorem eq25g (d : Nat) (a b : List Nat) (ha : a.length = 32) (hb : b.length = 32) (w : World) : (Op.equalIn (d + 1 + 1) 30 (.agg (a.map u8v).toArray) (.agg (b.map u8v).toArray)).run Tryz.prog w = .ok (decide (a = b)) w := by
  have hsz : (sizeOf 5).run Tryz.prog w = .ok 1 w := by kernel_rfl
  rw [Op.equalIn]
  simp only [Sem.run_bind, run_underlying Tryz.underlying30, Result.andThen_ok, hsz, Nat.mul_one]
  rw [Std.Legacy.Range.forIn_eq_forIn_range']
  rw [eq_loop _ (fun i => decide (a.getD i 0 = b.getD i 0)) _ ?_]
  · simp only [Result.andThen_ok]
    rw [show (List.range' 0 [:32].size) = List.range' 0 32 from rfl, all_range a b ha hb]
    by_cases h : a = b
    · simp [h, Sem.run_pure]
    · simp [h, Sem.run_pure]
  · intro i hi s
    have hi' : i < 32 := by simp only [List.mem_range'_1] at hi; have : [:32].size = 32 := rfl; omega
    simp only [Sem.run_bind, part5 a ha i hi', part5 b hb i hi', eqin5, Result.andThen_ok]
    by_cases h : a.getD i 0 = b.getD i 0
    · simp only [h, decide_true, Bool.not_true, Bool.false_eq_true, if_false, if_true, Sem.run_pure]
    · simp only [h, decide_false, Bool.not_false, if_true, Bool.false_eq_true, if_false, Sem.run_pure]
theorem eq25 (a b : List Nat) (ha : a.length = 32) (hb : b.length = 32) (w : World) : (Op.equalIn 10000 30 (.agg (a.map u8v).toArray) (.agg (b.map u8v).toArray)).run Tryz.prog w = .ok (decide (a = b)) w := eq25g 9998 a b ha hb w
end Go.Proofs.YtamaejlbojbbeaaGreatDoor.Sb
namespace Go.Proofs.YtamaejlbojbbeaaGreatDoor.Sb
open Go.RowKit
/-- a slice of bytes that lies in the world -/
structure Sl (w : World) (p : Option Addr) (bs : List Nat) (cap : Nat) (b off : Nat) : Prop where
  lt : ∀ x ∈ bs, x < 256
  cap1 : bs.length ≤ cap
  cap2 : cap ≤ 9223372036854775807
  at_ : 0 < bs.length → p = some ⟨b, off, none⟩
  src : ∀ j, j < bs.length → w.cell? ⟨b, off + j, none⟩ = some (u8v (bs.getD j 0))
theorem Sl.below {w w' : World} {p : Option Addr} {bs : List Nat} {cap b off : Nat} (h : Sl w p bs cap b off) (hb : Below w.heap.size w w') : Sl w' p bs cap b off :=
  ⟨h.lt, h.cap1, h.cap2, h.at_, fun j hj => by rw [hb.cell (World.block_lt_of_cell? w _ (h.src j hj))]; exact h.src j hj⟩
end Go.Proofs.YtamaejlbojbbeaaGreatDoor.Sb
namespace Go.Proofs.YtamaejlbojbbeaaGreatDoor.Sb
open Go.RowKit
/-- a digest as the program has it -/
def dv (d : List Nat) : Value := .agg (d.map u8v).toArray
theorem u8v_inj {x y : Nat} (h : u8v x = u8v y) : x = y := by
  simp only [u8v, Value.int.injEq] at h
  omega
theorem dv_inj {a b : List Nat} (h : dv a = dv b) : a = b := by
  simp only [dv, Value.agg.injEq] at h
  have h2 : a.map u8v = b.map u8v := by simpa using congrArg Array.toList h
  exact (List.map_inj_right (fun _ _ h => u8v_inj h)).1 h2
theorem unit_loop {P : Program} {w : World} (f : Nat → Unit → Sem (ForInStep Unit)) :
    ∀ (L : List Nat), (∀ i ∈ L, ∀ s, (f i s).run P w = .ok (.yield ()) w) → (forIn L () f).run P w = .ok () w
  | [], _ => by simp [Sem.run_pure]
  | i :: L, h => by
    simp only [List.forIn_cons, Sem.run_bind, h i (by simp), Result.andThen]
    exact unit_loop f L (fun j hj => h j (by simp [hj]))
theorem check5 (em : Bool) (n x : Nat) (w : World) : (Instr.checkKey em (n + 1) 5 (u8v x)).run Tryz.prog w = .ok () w := by
  simp only [Instr.checkKey, Sem.run_bind, run_underlying Tryz.underlying5, Result.andThen_ok, u8v, Sem.run_pure]
theorem check39g (em : Bool) (n : Nat) (d : List Nat) (hd : d.length = 32) (w : World) : (Instr.checkKey em (n + 1 + 1) 30 (dv d)).run Tryz.prog w = .ok () w := by
  have hsz : (sizeOf 5).run Tryz.prog w = .ok 1 w := by kernel_rfl
  rw [Instr.checkKey]
  simp only [dv, Sem.run_bind, run_underlying Tryz.underlying30, Result.andThen_ok]
  rw [Std.Legacy.Range.forIn_eq_forIn_range']
  rw [unit_loop _ _ ?_]
  · simp only [Result.andThen_ok, Sem.run_pure]
  intro i hi s
  have hi' : i < 32 := by simp only [List.mem_range'_1] at hi; have : [:32].size = 32 := rfl; omega
  simp only [Sem.run_bind, hsz, Result.andThen_ok, Nat.mul_one, part5 d hd i hi', check5, Sem.run_pure]
theorem check39 (em : Bool) (d : List Nat) (hd : d.length = 32) (w : World) : (Instr.checkKey em 10000 30 (dv d)).run Tryz.prog w = .ok () w := check39g em 9998 d hd w
/-- entries whose keys are digests -/
def Dk (es : List MapEntry) : Prop := ∀ e ∈ es, ∃ d : List Nat, d.length = 32 ∧ e.key = dv d
theorem ask39 (d : List Nat) (hd : d.length = 32) (w : World) : ∀ (es : List MapEntry) (i : Nat), Dk es →
    ((Instr.findAsking 30 (dv d) es i).run Tryz.prog w = .ok none w ∧ ∀ e ∈ es, e.key ≠ dv d) ∨
    ∃ j e, (Instr.findAsking 30 (dv d) es i).run Tryz.prog w = .ok (some (i + j, e.val)) w ∧ es[j]? = some e ∧ e.key = dv d
  | [], i, _ => .inl ⟨by simp [Instr.findAsking, Sem.run_pure], by simp⟩
  | e :: es, i, h => by
    obtain ⟨d', hd', hk⟩ := h e (by simp)
    have heq : (Op.equal 30 (dv d) e.key).run Tryz.prog w = .ok (decide (d = d')) w := by rw [hk]; exact eq25 d d' hd hd' w
    by_cases hc : d = d'
    · refine .inr ⟨0, e, ?_, by simp, by rw [hk, hc]⟩
      rw [decide_eq_true hc] at heq
      simp only [Instr.findAsking, Sem.run_bind, heq, Result.andThen_ok, if_true, Sem.run_pure, Nat.add_zero]
    · have hrest := ask39 d hd w es (i + 1) (fun x hx => h x (by simp [hx]))
      have hstep : (Instr.findAsking 30 (dv d) (e :: es) i).run Tryz.prog w = (Instr.findAsking 30 (dv d) es (i + 1)).run Tryz.prog w := by
        simp only [Instr.findAsking, Sem.run_bind, heq, Result.andThen_ok, hc, decide_false, Bool.false_eq_true, if_false]
      rw [hstep]
      rcases hrest with ⟨h1, h2⟩ | ⟨j, e2, h1, h2, h3⟩
      · refine .inl ⟨h1, fun x hx => ?_⟩
        rcases List.mem_cons.1 hx with rfl | hx
        · rw [hk]; exact fun hh => hc (dv_inj hh).symm
        · exact h2 x hx
      · exact .inr ⟨j + 1, e2, by rw [h1, show i + 1 + j = i + (j + 1) by omega], by simpa using h2, h3⟩
theorem find39 (d : List Nat) (hd : d.length = 32) (w : World) (es : List MapEntry) (h : Dk es) :
    ((Instr.findKey 30 (dv d) es).run Tryz.prog w = .ok none w ∧ ∀ e ∈ es, e.key ≠ dv d) ∨
    ∃ j e, (Instr.findKey 30 (dv d) es).run Tryz.prog w = .ok (some (j, e.val)) w ∧ es[j]? = some e ∧ e.key = dv d := by
  cases es with
  | nil => exact .inl ⟨by simp [Instr.findKey, Instr.findNow, run_underlying Tryz.underlying30, Result.andThen_ok], by simp⟩
  | cons e es =>
    have hstep : (Instr.findKey 30 (dv d) (e :: es)).run Tryz.prog w = (Instr.findAsking 30 (dv d) (e :: es)).run Tryz.prog w := by
      simp only [Instr.findKey, Sem.run_bind, run_underlying Tryz.underlying30, Result.andThen_ok, Instr.findNow, Instr.sameNow]
    rw [hstep]
    have := ask39 d hd w (e :: es) 0 h
    simpa only [Nat.zero_add] using this
theorem stays39 (d : List Nat) (w : World) : (Instr.keyThatStays (dv d) (dv d)).run Tryz.prog w = .ok (dv d) w := by
  have h : Instr.sameBits 10000 (dv d) (dv d) = true := by
    show Instr.sameBits (9999 + 1) (dv d) (dv d) = true
    simp only [dv, Instr.sameBits, beq_self_eq_true, Bool.true_and, List.all_eq_true]
    rintro ⟨x, y⟩ hx
    obtain ⟨i, hi, hh⟩ := List.getElem_of_mem hx
    simp at hh
    obtain ⟨rfl, rfl⟩ := hh
    simp [u8v, Instr.sameBits]
  simp only [Instr.keyThatStays, h, if_true, Sem.run_pure]
end Go.Proofs.YtamaejlbojbbeaaGreatDoor.Sb
namespace Go.Proofs.YtamaejlbojbbeaaGreatDoor.Sb
open Go.RowKit
open Go.ChangeMaps (setBlock heap_setBlock_same heap_setBlock_other)
def upd (V : List Nat → Option Value) (d : List Nat) (v : Value) : List Nat → Option Value := fun x => if x = d then some v else V x
def del (V : List Nat → Option Value) (d : List Nat) : List Nat → Option Value := fun x => if x = d then none else V x
structure MapL (l : List MapEntry) (V : List Nat → Option Value) : Prop where
  keys : Dk l
  val : ∀ e ∈ l, ∀ d, e.key = dv d → V d = some e.val
  all : ∀ d v, V d = some v → ∃ e ∈ l, e.key = dv d
  one : ∀ (i j : Nat) (e e' : MapEntry), l[i]? = some e → l[j]? = some e' → e.key = e'.key → i = j
theorem MapL.nil : MapL [] (fun _ => none) := ⟨by intro e he; simp at he, by simp, by simp, by simp⟩
theorem MapL.push {l : List MapEntry} {V : List Nat → Option Value} (h : MapL l V) (d : List Nat) (hd : d.length = 32) (v : Value) (c : Nat) (hn : ∀ e ∈ l, e.key ≠ dv d) : MapL (l ++ [⟨dv d, v, c⟩]) (upd V d v) where
  keys e he := by
    rcases List.mem_append.1 he with he | he
    · exact h.keys e he
    · obtain rfl := List.mem_singleton.1 he
      exact ⟨d, hd, rfl⟩
  val e he d' hk := by
    unfold upd
    rcases List.mem_append.1 he with he | he
    · rw [if_neg (fun x => hn e he (by rw [hk, x]))]
      exact h.val e he d' hk
    · obtain rfl := List.mem_singleton.1 he
      rw [if_pos (dv_inj hk).symm]
  all d' v' hv := by
    unfold upd at hv
    by_cases hc : d' = d
    · exact ⟨_, List.mem_append_right _ (List.mem_singleton.2 rfl), by rw [hc]⟩
    · rw [if_neg hc] at hv
      obtain ⟨e, he, hk⟩ := h.all d' v' hv
      exact ⟨e, List.mem_append_left _ he, hk⟩
  one i j e e' hi hj hk := by
    rw [List.getElem?_append] at hi hj
    split at hi <;> split at hj
    · exact h.one i j e e' hi hj hk
    · rename_i h1 h2
      obtain ⟨h3, rfl⟩ := List.getElem?_eq_some_iff.1 hj
      simp at h3
      exact absurd (by rw [hk]; simp [h3]) (hn e (List.mem_of_getElem? hi))
    · rename_i h1 h2
      obtain ⟨h3, rfl⟩ := List.getElem?_eq_some_iff.1 hi
      simp at h3
      exact absurd (by rw [← hk]; simp [h3]) (hn e' (List.mem_of_getElem? hj))
    · rename_i h1 h2
      have h3 := (List.getElem?_eq_some_iff.1 hi).1
      have h4 := (List.getElem?_eq_some_iff.1 hj).1
      simp at h3 h4
      omega
theorem MapL.set {l : List MapEntry} {V : List Nat → Option Value} (h : MapL l V) (d : List Nat) (hd : d.length = 32) (v : Value) (i : Nat) (e0 : MapEntry) (h0 : l[i]? = some e0) (hk0 : e0.key = dv d) : MapL (l.set i { e0 with key := dv d, val := v }) (upd V d v) where
  keys e he := by
    rcases List.mem_or_eq_of_mem_set he with he | rfl
    · exact h.keys e he
    · exact ⟨d, hd, rfl⟩
  val e he d' hk := by
    unfold upd
    obtain ⟨j, hj, hje⟩ := List.getElem_of_mem he
    have hjq : (l.set i { e0 with key := dv d, val := v })[j]? = some e := by rw [List.getElem?_eq_getElem hj, hje]
    have hil : i < l.length := (List.getElem?_eq_some_iff.1 h0).1
    rw [List.getElem?_set] at hjq
    split at hjq
    · obtain rfl := Option.some.inj hjq
      rw [if_pos (dv_inj hk).symm]
    · rename_i hne
      have hm := List.mem_of_getElem? hjq
      rw [if_neg (fun x => hne (h.one i j e0 e h0 hjq (by rw [hk0, hk, x])))]
      exact h.val e hm d' hk
  all d' v' hv := by
    unfold upd at hv
    have hil : i < l.length := (List.getElem?_eq_some_iff.1 h0).1
    by_cases hc : d' = d
    · exact ⟨_, List.mem_set hil _, by rw [hc]⟩
    · rw [if_neg hc] at hv
      obtain ⟨e, he, hk⟩ := h.all d' v' hv
      obtain ⟨j, hj, hje⟩ := List.getElem_of_mem he
      have hne : i ≠ j := fun x => hc (by
        subst x
        rw [List.getElem?_eq_getElem hj, hje] at h0
        obtain rfl := Option.some.inj h0
        exact dv_inj (hk.symm.trans hk0))
      refine ⟨e, ?_, hk⟩
      refine List.mem_of_getElem? (i := j) ?_
      rw [List.getElem?_set_ne hne, List.getElem?_eq_getElem hj, hje]
  one a b e e' ha hb hk := by
    have key : ∀ (a : Nat) (e : MapEntry), (l.set i { e0 with key := dv d, val := v })[a]? = some e → ∃ e1, l[a]? = some e1 ∧ e1.key = e.key := by
      intro a e ha
      rw [List.getElem?_set] at ha
      split at ha
      · rename_i hia
        split at ha
        · obtain rfl := Option.some.inj ha
          exact ⟨e0, hia ▸ h0, hk0⟩
        · cases ha
      · exact ⟨e, ha, rfl⟩
    obtain ⟨e1, h1, k1⟩ := key a e ha
    obtain ⟨e2, h2, k2⟩ := key b e' hb
    exact h.one a b e1 e2 h1 h2 (by rw [k1, k2, hk])
theorem MapL.erase {l : List MapEntry} {V : List Nat → Option Value} (h : MapL l V) (d : List Nat) (i : Nat) (e0 : MapEntry) (h0 : l[i]? = some e0) (hk0 : e0.key = dv d) : MapL (l.eraseIdx i) (del V d) where
  keys e he := h.keys e ((List.eraseIdx_sublist _ _).subset he)
  val e he d' hk := by
    unfold del
    have hm := (List.eraseIdx_sublist _ _).subset he
    rw [if_neg ?_]
    · exact h.val e hm d' hk
    · intro hc
      subst hc
      obtain ⟨j, hj, hje⟩ := List.getElem_of_mem he
      have hjq : (l.eraseIdx i)[j]? = some e := by rw [List.getElem?_eq_getElem hj, hje]
      rw [List.getElem?_eraseIdx] at hjq
      split at hjq
      · have := h.one i j e0 e h0 hjq (by rw [hk0, hk]); omega
      · have := h.one i (j + 1) e0 e h0 hjq (by rw [hk0, hk]); omega
  all d' v' hv := by
    unfold del at hv
    by_cases hc : d' = d
    · rw [if_pos hc] at hv; cases hv
    · rw [if_neg hc] at hv
      obtain ⟨e, he, hk⟩ := h.all d' v' hv
      obtain ⟨j, hj, hje⟩ := List.getElem_of_mem he
      have hjq : l[j]? = some e := by rw [List.getElem?_eq_getElem hj, hje]
      have hne : j ≠ i := fun x => hc (by
        subst x
        rw [hjq] at h0
        obtain rfl := Option.some.inj h0
        exact dv_inj (hk.symm.trans hk0))
      refine ⟨e, ?_, hk⟩
      by_cases hlt : j < i
      · refine List.mem_of_getElem? (i := j) ?_
        rw [List.getElem?_eraseIdx, if_pos hlt, hjq]
      · refine List.mem_of_getElem? (i := j - 1) ?_
        rw [List.getElem?_eraseIdx, if_neg (by omega), show j - 1 + 1 = j by omega, hjq]
  one a b e e' ha hb hk := by
    rw [List.getElem?_eraseIdx] at ha hb
    split at ha <;> split at hb
    · exact h.one a b e e' ha hb hk
    · have := h.one a (b + 1) e e' ha hb hk; omega
    · have := h.one (a + 1) b e e' ha hb hk; omega
    · have := h.one (a + 1) (b + 1) e e' ha hb hk; omega
/-- block m of the world is a map with n keys, that reads as V -/
def MapOk (w : World) (m : Nat) (V : List Nat → Option Value) (n : Nat) : Prop := ∃ es clock, w.heap[m]? = some (.map es clock) ∧ MapL es.toList V ∧ es.size = n
theorem MapOk.lt {w : World} {m n : Nat} {V : List Nat → Option Value} (h : MapOk w m V n) : m < w.heap.size := by
  obtain ⟨es, clock, hb, _⟩ := h
  exact (Array.getElem?_eq_some_iff.1 hb).1
theorem MapOk.of_block {w w' : World} {m n : Nat} {V : List Nat → Option Value} (h : MapOk w m V n) (hb : w'.heap[m]? = w.heap[m]?) : MapOk w' m V n := by
  obtain ⟨es, clock, h1, h2⟩ := h
  exact ⟨es, clock, by rw [hb, h1], h2⟩
theorem MapOk.new (w : World) : MapOk (w.alloc (.map #[] 0)) w.heap.size (fun _ => none) 0 := ⟨#[], 0, (MapKept.heap_alloc w _).1, MapL.nil, rfl⟩
theorem MapOk.look {w : World} {m n : Nat} {V : List Nat → Option Value} (h : MapOk w m V n) (t e : TypeId) (ht : Tryz.prog.underlying t = some (.map 30 e)) (z : Value) (hz : (zeroValue e).run Tryz.prog w = .ok z w) (d : List Nat) (hd : d.length = 32) :
    (Instr.lookup t (.map (some m)) (dv d) true).run Tryz.prog w = .ok (.tuple #[(V d).getD z, .bool (V d).isSome]) w := by
  obtain ⟨es, clock, hb, hl, _⟩ := h
  rcases find39 d hd w es.toList hl.keys with ⟨h1, h2⟩ | ⟨j, e0, h1, h2, h3⟩
  · have hv : V d = none := by
      cases hc : V d with
      | none => rfl
      | some v => obtain ⟨e1, he, hk⟩ := hl.all d v hc; exact absurd hk (h2 e1 he)
    simp [Instr.lookup, run_underlying ht, MapKept.run_getObj_map hb, check39 _ d hd, h1, hz, Result.andThen, hv]
  · have hv := hl.val e0 (List.mem_of_getElem? h2) d h3
    simp [Instr.lookup, run_underlying ht, MapKept.run_getObj_map hb, check39 _ d hd, h1, Result.andThen, hv]
theorem MapOk.len {w : World} {m n : Nat} {V : List Nat → Option Value} (h : MapOk w m V n) (t e : TypeId) (ht : Tryz.prog.underlying t = some (.map 30 e)) (ty : TypeId) :
    (Builtin.len_ #[t] ty #[.map (some m)]).run Tryz.prog w = .ok (.int .i64 (n : Int)) w := by
  obtain ⟨es, clock, hb, hl, hn⟩ := h
  simp [Builtin.len_, run_underlying ht, MapKept.run_getObj_map hb, goInt, Result.andThen, hn]
theorem MapOk.store {w : World} {m n : Nat} {V : List Nat → Option Value} (h : MapOk w m V n) (t e : TypeId) (ht : Tryz.prog.underlying t = some (.map 30 e)) (d : List Nat) (hd : d.length = 32) (v : Value) :
    ∃ w', (Instr.mapUpdate t (.map (some m)) (dv d) v).run Tryz.prog w = .ok () w' ∧ MapOk w' m (upd V d v) (if (V d).isSome then n else n + 1) ∧ w.grownBy w' (some m) ∧ w'.heap.size = w.heap.size := by
  obtain ⟨es, clock, hb, hl, hn⟩ := h
  have hgr : ∀ o, w.grownBy (setBlock w m o) (some m) ∧ (setBlock w m o).heap.size = w.heap.size := fun o => ⟨⟨rfl, rfl, rfl, by simp [setBlock], fun i _ hi => heap_setBlock_other hb _ (fun e => hi (by rw [e]))⟩, by simp [setBlock]⟩
  rcases find39 d hd w es.toList hl.keys with ⟨h1, h2⟩ | ⟨j, e0, h1, h2, h3⟩
  · have hv : V d = none := by
      cases hc : V d with
      | none => rfl
      | some v => obtain ⟨e1, he, hk⟩ := hl.all d v hc; exact absurd hk (h2 e1 he)
    refine ⟨setBlock w m (.map (es.push ⟨dv d, v, clock⟩) (clock + 1)), ?_, ⟨_, _, heap_setBlock_same hb _, ?_, ?_⟩, hgr _⟩
    · simp [Instr.mapUpdate, run_underlying ht, MapKept.run_getObj_map hb, check39 _ d hd, h1, MapKept.run_setObj_map _ hb, Result.andThen, setBlock]
    · rw [Array.toList_push]; exact hl.push d hd v clock h2
    · rw [hv]; simp [hn]
  · have hv := hl.val e0 (List.mem_of_getElem? h2) d h3
    have hj : es[j]? = some e0 := by simpa using h2
    have hjs : j < es.size := (Array.getElem?_eq_some_iff.1 hj).1
    have hset : es.modify j (fun e => { e with key := dv d, val := v }) = es.set j { e0 with key := dv d, val := v } hjs := by
      apply Array.ext
      · simp
      · intro i h1 h2
        obtain ⟨_, rfl⟩ := Array.getElem?_eq_some_iff.1 hj
        rw [Array.getElem_modify, Array.getElem_set]
        by_cases hc : j = i
        · subst hc; simp
        · simp [hc]
    refine ⟨setBlock w m (.map (es.modify j (fun e => { e with key := dv d, val := v })) clock), ?_, ⟨_, _, heap_setBlock_same hb _, ?_, ?_⟩, hgr _⟩
    · simp [Instr.mapUpdate, run_underlying ht, MapKept.run_getObj_map hb, check39 _ d hd, h1, hj, h3, stays39, MapKept.run_setObj_map _ hb, Result.andThen, setBlock]
    · rw [hset, Array.toList_set]; exact hl.set d hd v j e0 h2 h3
    · rw [hv]; simp [hn]
theorem MapOk.drop {w : World} {m n : Nat} {V : List Nat → Option Value} (h : MapOk w m V n) (t e : TypeId) (ht : Tryz.prog.underlying t = some (.map 30 e)) (d : List Nat) (hd : d.length = 32) (hV : (V d).isSome = true) (ty : TypeId) :
    ∃ w', (Builtin.delete_ #[t, 30] ty #[.map (some m), dv d]).run Tryz.prog w = .ok (.tuple #[]) w' ∧ MapOk w' m (del V d) (n - 1) ∧ w.grownBy w' (some m) ∧ w'.heap.size = w.heap.size := by
  obtain ⟨es, clock, hb, hl, hn⟩ := h
  have hgr : ∀ o, w.grownBy (setBlock w m o) (some m) ∧ (setBlock w m o).heap.size = w.heap.size := fun o => ⟨⟨rfl, rfl, rfl, by simp [setBlock], fun i _ hi => heap_setBlock_other hb _ (fun e => hi (by rw [e]))⟩, by simp [setBlock]⟩
  rcases find39 d hd w es.toList hl.keys with ⟨h1, h2⟩ | ⟨j, e0, h1, h2, h3⟩
  · obtain ⟨v, hc⟩ := Option.isSome_iff_exists.1 hV
    obtain ⟨e1, he, hk⟩ := hl.all d v hc
    exact absurd hk (h2 e1 he)
  · have hjs : j < es.size := by simpa using (List.getElem?_eq_some_iff.1 h2).1
    have hsub : (es.eraseIdxIfInBounds j).toList = es.toList.eraseIdx j := by
      unfold Array.eraseIdxIfInBounds
      rw [dif_pos hjs]
      simp
    refine ⟨setBlock w m (.map (es.eraseIdxIfInBounds j) clock), ?_, ⟨_, _, heap_setBlock_same hb _, ?_, ?_⟩, hgr _⟩
    · simp [Builtin.delete_, run_underlying ht, MapKept.run_getObj_map hb, check39 _ d hd, h1, MapKept.run_setObj_map _ hb, Result.andThen, setBlock]
    · rw [hsub]; exact hl.erase d j e0 h2 h3
    · rw [← Array.length_toList, hsub, List.length_eraseIdx_of_lt (by simpa using hjs)]; simp [hn]
end Go.Proofs.YtamaejlbojbbeaaGreatDoor.Sb
