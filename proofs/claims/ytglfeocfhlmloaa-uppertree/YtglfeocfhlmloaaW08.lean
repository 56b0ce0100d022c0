/-
  Small laws on memory, on rows of a call's own, on slices of bytes; and of the walk for a block that is known whole. The walks of wire.shiftedByByte and wire.Check: the check sum of parts. The walk of wire.Next. Fields as bytes: what an Out is; the walks of its Num, Int and Bytes. The walks of (*wire.Out).Int and Bytes, and wire.Read. The walk of (*wire.In).Num. The walk of awake: answers that the document fixes.
-/
import Derived.Test.YtglfeocfhlmloaaRows
import Derived.WalkKit
import Derived.WalkSpells
import Derived.WalkLawsBesides
import Derived.Deep.AppendLies
import Derived.Deep.MidRow
import Derived.Deep.Light
import Derived.Laws.CopyOwn
import Derived.Laws.AppendOwnNone
import Derived.Laws.BytesArg
import Derived.Lib.Strings
import Derived.BigQuiet
import Derived.BigRegion
import Derived.Deep.RegionHeld3
import Derived.Lib.AppendZeros
import Derived.Deep.DrawnRows
import Derived.Maps.AppendAt
import Derived.Lib.SlBytesConst
namespace Go.Proofs.Ytglfeocfhlmloaa.Nd
open Go.RowKit
def u8v (n : Nat) : Value := .int .u8 (n : Int)
/-- block b of the world holds just these cells -/
def Row (w : World) (b : Nat) (vs : List Value) (t : TypeId) : Prop := w.heap[b]? = some (.cells vs.toArray t (0, 0))
theorem Row.cell {w : World} {b : Nat} {vs : List Value} {t : TypeId} (h : Row w b vs t) (j : Nat) : w.cell? ⟨b, j, none⟩ = vs[j]? := by
  rw [cell_of_row w b j _ t (0, 0) h]; simp
theorem Row.frozen {w : World} {b : Nat} {vs : List Value} {t : TypeId} (h : Row w b vs t) (j : Nat) : w.frozen? ⟨b, j, none⟩ = false := by
  unfold Row at h; simp [World.frozen?, h]
theorem Row.lt {w : World} {b : Nat} {vs : List Value} {t : TypeId} (h : Row w b vs t) : b < w.heap.size := by
  unfold Row at h
  exact (Array.getElem?_eq_some_iff.1 h).1
theorem Row.of_block {w w' : World} {b : Nat} {vs : List Value} {t : TypeId} (h : Row w b vs t) (hb : w'.heap[b]? = w.heap[b]?) : Row w' b vs t := by
  unfold Row at *; rw [hb]; exact h
theorem Row.drew {w : World} {b : Nat} {vs : List Value} {t : TypeId} (h : Row w b vs t) : Row w.drew b vs t := h
theorem Row.alloc {w : World} {b : Nat} {vs : List Value} {t : TypeId} (h : Row w b vs t) (o : Obj) : Row (w.alloc o) b vs t :=
  h.of_block (Below.heap_alloc _ _ _ h.lt)
theorem Row.new (w : World) (vs : List Value) (t : TypeId) : Row (w.alloc (.cells vs.toArray t)) w.heap.size vs t := heap_alloc_new w _
theorem Row.newAt (w : World) (b : Nat) (vs : List Value) (t : TypeId) (hb : w.heap.size = b) : Row (w.alloc (.cells vs.toArray t)) b vs t := by subst hb; exact heap_alloc_new w _
theorem Row.below {w w' : World} {b B : Nat} {vs : List Value} {t : TypeId} (h : Row w b vs t) (hb : Below B w w') (hB : b < B) : Row w' b vs t :=
  h.of_block (hb.block b hB)
theorem Row.grown {w w' : World} {b : Nat} {row : Option Nat} {vs : List Value} {t : TypeId} (h : Row w b vs t) (hb : w.grownBy w' row) (hB : some b ≠ row) : Row w' b vs t :=
  h.of_block (hb.block b h.lt hB)
theorem Row.set_same {w : World} {b : Nat} {vs : List Value} {t : TypeId} (h : Row w b vs t) (j : Nat) (v : Value) : Row (w.setCell ⟨b, j, none⟩ v) b (vs.set j v) t := by
  unfold Row at *
  simp only [World.setCell, Array.getElem?_modify, if_true, h]
  simp
theorem splice_all {α : Type} (L new : List α) (h : new.length = L.length) : splice L 0 new = new := by
  simp [splice, h]
theorem splice_cons {α : Type} (L : List α) (o : Nat) (v : α) (r : List α) (h : o < L.length) : splice (L.set o v) (o + 1) r = splice L o (v :: r) := by
  unfold splice
  rw [List.take_succ_eq_append_getElem (by simpa using h)]
  have e1 : (L.set o v).take o = L.take o := by
    refine List.ext_getElem? fun j => ?_
    by_cases hj : j < o
    · rw [List.getElem?_take_of_lt hj, List.getElem?_take_of_lt hj, List.getElem?_set_ne (by omega)]
    · rw [List.getElem?_take_eq_none (by omega), List.getElem?_take_eq_none (by omega)]
  have e2 : (L.set o v).drop (o + 1 + r.length) = L.drop (o + (v :: r).length) := by
    rw [show o + (v :: r).length = o + 1 + r.length by simp; omega]
    refine List.ext_getElem? fun j => ?_
    rw [List.getElem?_drop, List.getElem?_drop, List.getElem?_set_ne (by omega)]
  rw [e1, e2]
  simp
theorem Row.setCells {t : TypeId} {b : Nat} : ∀ (new : List Value) (w : World) (vs : List Value) (o : Nat), Row w b vs t → o + new.length ≤ vs.length → Row (w.setCells b o new) b (splice vs o new) t
  | [], w, vs, o, h, _ => by simpa [World.setCells, splice] using h
  | v :: r, w, vs, o, h, hl => by
    simp only [List.length_cons] at hl
    have h' := Row.setCells r (w.setCell ⟨b, o, none⟩ v) (vs.set o v) (o + 1) (h.set_same o v) (by simp; omega)
    rw [splice_cons vs o v r (by omega)] at h'
    exact h'
theorem grownBy_trans {a b c : World} {row : Option Nat} (h : a.grownBy b row) (k : b.grownBy c row) : a.grownBy c row :=
  ⟨k.os.trans h.os, k.tape.trans h.tape, k.output.trans h.output, Nat.le_trans h.size k.size, fun i hi hne => (k.block i (Nat.lt_of_lt_of_le hi h.size) hne).trans (h.block i hi hne)⟩
theorem grownBy_refl (w : World) (row : Option Nat) : w.grownBy w row := ⟨rfl, rfl, rfl, Nat.le_refl _, fun _ _ _ => rfl⟩
theorem grownBy_setCell (w : World) (a : Addr) (v : Value) : w.grownBy (w.setCell a v) (some a.block) :=
  ⟨rfl, rfl, rfl, by simp [World.setCell], fun k _ hne => Below.heap_setCell _ _ _ _ (fun e => hne (by rw [e]))⟩
theorem grownBy_setCells {b : Nat} : ∀ (new : List Value) (w : World) (o : Nat), w.grownBy (w.setCells b o new) (some b)
  | [], w, _ => grownBy_refl w _
  | v :: r, w, o => grownBy_trans (grownBy_setCell w ⟨b, o, none⟩ v) (grownBy_setCells r _ (o + 1))
theorem size_setCells {b : Nat} : ∀ (new : List Value) (w : World) (o : Nat), (w.setCells b o new).heap.size = w.heap.size
  | [], _, _ => rfl
  | v :: r, w, o => (size_setCells r (w.setCell ⟨b, o, none⟩ v) (o + 1)).trans (by simp [World.setCell])
theorem below_of_grown {B : Nat} {a w w' : World} {row : Nat} (h : Below B a w) (hg : w.grownBy w' (some row)) (hB : B ≤ w.heap.size) (hr : B ≤ row) : Below B a w' :=
  h.grown hg hB (fun k e => by cases e; exact hr)
theorem grown_of_below {w w' : World} {row : Option Nat} (h : Below w.heap.size w w') : w.grownBy w' row := ⟨h.os, h.tape, h.output, h.size, fun k hk _ => h.block k hk⟩
theorem one_u8 (l : List Nat) : ∀ v ∈ l.map u8v, v.oneCell' = true := by
  intro v hv; simp only [List.mem_map] at hv; obtain ⟨n, _, rfl⟩ := hv; rfl
theorem there_of_row {w : World} {g : Nat} {vs : List Value} {t : TypeId} (hr : Row w g vs t) (o n : Nat) (h : o + n ≤ vs.length) : w.there g o n := fun j hj => by
  refine ⟨?_, hr.frozen _⟩
  rw [hr.cell, List.getElem?_eq_getElem (by omega)]; rfl
theorem wpList_store_Row {P : Program} {ops : Array Oper} {rest : List Oper} {op : Oper} {a : Act} {w : World} {Q : Exit → Act → World → Prop} (hgd : op.guard = none) (ty : TypeId) (x y : Operand) (ho : op.op = .store ty x y)
    (g o : Nat) (new : List Value) (hx : a.eval x = .pointer (some ⟨g, o, none⟩)) (hy : a.eval y = .agg new.toArray) (t : TypeId) (vs : List Value) (hr : Row w g vs t) (n : Nat) (hi : (P.info? ty).map (·.size) = some n) (hn : new.length = n)
    (hfit : o + n ≤ vs.length) (h1 : ∀ v ∈ new, v.oneCell' = true)
    (h : ∀ w', Row w' g (splice vs o new) t → w.grownBy w' (some g) → w'.heap.size = w.heap.size → wpList P ops Q rest (a.put op.dst undef) w') : wpList P ops Q (op :: rest) a w := by
  refine wpList_store_mid hgd ty x y ho g o new.toArray hx hy (there_of_row hr o _ (by simp; omega)) (by rw [hi]; simp [hn]) (all_oneCell_toArray h1) ?_
  exact h _ (Row.setCells new w vs o hr (by omega)) (grownBy_setCells _ _ _) (size_setCells _ _ _)
/-- a slice of bytes that lies in the world -/
structure Sl (w : World) (p : Option Addr) (bs : List Nat) (cap : Nat) (b off : Nat) : Prop where
  lt : ∀ x ∈ bs, x < 256
  cap1 : bs.length ≤ cap
  cap2 : cap ≤ 9223372036854775807
  at_ : 0 < bs.length → p = some ⟨b, off, none⟩
  src : ∀ j, j < bs.length → w.cell? ⟨b, off + j, none⟩ = some (u8v (bs.getD j 0))
theorem Sl.below {w w' : World} {p : Option Addr} {bs : List Nat} {cap b off : Nat} (h : Sl w p bs cap b off) (hb : Below w.heap.size w w') : Sl w' p bs cap b off :=
  ⟨h.lt, h.cap1, h.cap2, h.at_, fun j hj => by rw [hb.cell (World.block_lt_of_cell? w _ (h.src j hj))]; exact h.src j hj⟩
theorem own_step {w w' : World} {B : Nat} {v : Value} {row : Option Nat} {a : World} (hb : Below B a w) (hg : w.grownBy w' row) (hB : B ≤ w.heap.size) (hv : row = v.ownBlock) {e : TypeId} {size n : Nat} {xs : List Value} (ho : w.ownsRow B e size v n xs) : Below B a w' := by
  subst hv
  exact hb.grown hg hB (fun k hk => (ho.lt k hk).1)
/-- a string's bytes -/
def str (l : List Nat) : ByteArray := ⟨(l.map UInt8.ofNat).toArray⟩
theorem conv_sl {w : World} {p : Option Addr} {bs : List Nat} {cap b off : Nat} (h : Sl w p bs cap b off) : (convert 43 9 (.slice p bs.length cap)).run Try.prog w = .ok (.string (str bs)) w := by
  by_cases h0 : 0 < bs.length
  · obtain rfl := h.at_ h0
    rw [run_convert_bytes_arg w 43 5 Try.underlying43 Try.underlying5 b off bs.length cap (bs.map fun (n : Nat) => (n : Int)) (by simp) (fun i hi => by rw [h.src i hi]; simp [u8v, hi]) 9 Try.underlying9]
    congr 2
    simp [strOfNums, str, Function.comp_def]
  · obtain rfl : bs = [] := List.eq_nil_of_length_eq_zero (by omega)
    rcases p with _ | ⟨b', o', m'⟩
    · exact run_convert_bytes_nil w 43 5 Try.underlying43 Try.underlying5 0 cap 9 Try.underlying9
    · rw [run_convert_bytes_string w 43 9 5 _ _ _ Try.underlying43 Try.underlying5 Try.underlying9]
      rw [List.length_nil, run_bytesToString w _ 0 cap [] (by simp [loadCells, loadCellsFrom, Sem.run_pure])]
      rfl
end Go.Proofs.Ytglfeocfhlmloaa.Nd
namespace Go.Proofs.Ytglfeocfhlmloaa.Nd.Wire
/-- one bit goes -/
def step (x : Nat) : Nat := if x % 2 = 1 then (x / 2) ^^^ 3988292384 else x / 2
def steps : Nat → Nat → Nat
  | 0, x => x
  | k + 1, x => step (steps k x)
/-- one byte comes -/
def byte (s b : Nat) : Nat := steps 8 (s ^^^ b)
def run (s : Nat) (bs : List Nat) : Nat := bs.foldl byte s
def val (b : List Nat) : Nat := b.getD 0 0 + b.getD 1 0 * 256 + b.getD 2 0 * 65536 + b.getD 3 0 * 16777216
end Go.Proofs.Ytglfeocfhlmloaa.Nd.Wire
namespace Go.Proofs.Ytglfeocfhlmloaa.Nd
open Go.RowKit
/-- a slice of bytes among several: where it lies, its bytes -/
structure Part where
  p : Option Addr
  bs : List Nat
  cap : Nat
  b : Nat
  off : Nat
def Part.val (x : Part) : Value := .slice x.p x.bs.length x.cap
def Part.ok (w : World) (x : Part) : Prop := Sl w x.p x.bs x.cap x.b x.off
/-- slices of bytes that lie one behind the other -/
structure Parts (w : World) (pb po : Nat) (ps : List Part) : Prop where
  at_ : ∀ i x, ps[i]? = some x → w.cell? ⟨pb, po + i, none⟩ = some x.val
  ok : ∀ x ∈ ps, x.ok w
  no : ∀ x ∈ ps, x.p = none → x.bs.length = 0 ∧ x.cap = 0
theorem Parts.below {w w' : World} {pb po : Nat} {ps : List Part} (h : Parts w pb po ps) (hb : Below w.heap.size w w') : Parts w' pb po ps :=
  ⟨fun i x hx => by rw [hb.cell (World.block_lt_of_cell? w _ (h.at_ i x hx))]; exact h.at_ i x hx, fun x hx => (h.ok x hx).below hb, h.no⟩
theorem Sl.grown {w w' : World} {p : Option Addr} {bs : List Nat} {cap b off : Nat} {row : Option Nat} (h : Sl w p bs cap b off) (hb : w.grownBy w' row) (hne : 0 < bs.length → some b ≠ row) : Sl w' p bs cap b off :=
  ⟨h.lt, h.cap1, h.cap2, h.at_, fun j hj => hb.cell (h.src j hj) (hne (by omega))⟩
theorem Sl.blk {w : World} {p : Option Addr} {bs : List Nat} {cap b off : Nat} (h : Sl w p bs cap b off) (h0 : 0 < bs.length) : b < w.heap.size := World.block_lt_of_cell? w _ (h.src 0 h0)
theorem own_below {w w' : World} {B : Nat} {v : Value} {n : Nat} {xs : List Value} (h : w.ownsRow B 5 1 v n xs) (hb : Below w.heap.size w w') : w'.ownsRow B 5 1 v n xs := by
  refine h.kept (grown_of_below (row := none) hb) ?_
  cases v.ownBlock <;> simp
end Go.Proofs.Ytglfeocfhlmloaa.Nd
namespace Go.Proofs.Ytglfeocfhlmloaa.Nd
open Go.RowKit
theorem hid_in {p : Prop} (h : p) : Hid p := h
/-- a part of a slice of bytes -/
theorem Sl.part {w : World} {p : Option Addr} {bs : List Nat} {cap b off : Nat} (h : Sl w p bs cap b off) (n m c : Nat) (hnm : n + m ≤ bs.length) (hc : m ≤ c) (hc2 : c ≤ 9223372036854775807) : Sl w (some ⟨b, off + n, none⟩) ((bs.drop n).take m) c b (off + n) :=
  ⟨fun x hx => h.lt x (List.mem_of_mem_drop (List.mem_of_mem_take hx)), by simp; omega, hc2, fun _ => rfl, fun j hj => by
    have hj' : j < m := by simp at hj; omega
    rw [Nat.add_assoc, h.src (n + j) (by omega)]
    simp [hj']⟩
end Go.Proofs.Ytglfeocfhlmloaa.Nd
namespace Go.Proofs.Ytglfeocfhlmloaa.Nd
open Go.RowKit
/-- the world has grown; of its blocks only those in S may have turned -/
structure Grew (w w' : World) (S : Nat → Prop) : Prop where
  os : w'.os = w.os
  tape : w'.tape = w.tape
  output : w'.output = w.output
  size : w.heap.size ≤ w'.heap.size
  block : ∀ k, k < w.heap.size → ¬ S k → w'.heap[k]? = w.heap[k]?
theorem Grew.refl (w : World) (S : Nat → Prop) : Grew w w S := ⟨rfl, rfl, rfl, Nat.le_refl _, fun _ _ _ => rfl⟩
theorem Grew.trans {a b c : World} {S T : Nat → Prop} (h : Grew a b S) (k : Grew b c T) (hT : ∀ q, q < a.heap.size → T q → S q) : Grew a c S :=
  ⟨k.os.trans h.os, k.tape.trans h.tape, k.output.trans h.output, Nat.le_trans h.size k.size, fun q hq hS => (k.block q (Nat.lt_of_lt_of_le hq h.size) (fun hT' => hS (hT q hq hT'))).trans (h.block q hq hS)⟩
theorem Grew.mono {a b : World} {S T : Nat → Prop} (h : Grew a b S) (hT : ∀ q, S q → T q) : Grew a b T := ⟨h.os, h.tape, h.output, h.size, fun q hq hn => h.block q hq (fun hs => hn (hT q hs))⟩
theorem Grew.below {a w w' : World} {S : Nat → Prop} {B : Nat} (h : Grew w w' S) (hb : Below B a w) (hB : B ≤ w.heap.size) (hS : ∀ k, S k → B ≤ k) : Below B a w' :=
  ⟨h.os.trans hb.os, h.tape.trans hb.tape, h.output.trans hb.output, Nat.le_trans hb.size h.size, fun k hk => (h.block k (by omega) (fun hs => by have := hS k hs; omega)).trans (hb.block k hk)⟩
/-- the Out at block g has made the bytes xs; its row is v -/
structure OutIs (w : World) (B g : Nat) (v : Value) (xs : List Nat) : Prop where
  row : Row w g [v] 72
  own : w.ownsRow B 5 1 v xs.length (xs.map u8v)
  apart : v.ownBlock ≠ some g
  base : B ≤ w.heap.size
  lt : ∀ x ∈ xs, x < 256
/-- where a row lies behind a call -/
def Moved (w : World) (v v' : Value) : Prop := v'.ownBlock = v.ownBlock ∨ ∃ q, v'.ownBlock = some q ∧ w.heap.size ≤ q
theorem Moved.refl (w : World) (v : Value) : Moved w v v := .inl rfl
theorem Moved.trans {a b : World} {u v x : Value} (h : Moved a u v) (k : Moved b v x) (hs : a.heap.size ≤ b.heap.size) : Moved a u x := by
  rcases k with k | ⟨q, k, hq⟩
  · rcases h with h | ⟨q, h, hq⟩
    · exact .inl (k.trans h)
    · exact .inr ⟨q, k.trans h, hq⟩
  · exact .inr ⟨q, k, by omega⟩
namespace Wire
def numF : Nat → Nat → List Nat
  | 0, n => [n]
  | k + 1, n => if n < 128 then [n] else (n % 128 + 128) :: numF k (n / 128)
/-- a number's bytes -/
def num (n : Nat) : List Nat := numF 9 n
end Wire
end Go.Proofs.Ytglfeocfhlmloaa.Nd
namespace Go.Proofs.Ytglfeocfhlmloaa.Nd
open Go.RowKit
namespace Wire
end Wire
/-- the In at block g has still to read the bytes bs; what was wrong is e -/
structure InIs (B : Nat) (w : World) (g : Nat) (bs : List Nat) (e : Nat) : Prop where
  ex : ∃ p cap b off, Row w g [.slice p bs.length cap, .int .i64 (e : Int)] 100 ∧ Sl w p bs cap b off ∧ (p = none → bs.length = 0 ∧ cap = 0) ∧ (0 < bs.length → b ≠ g ∧ b < B)
end Go.Proofs.Ytglfeocfhlmloaa.Nd
namespace Go.Proofs.Ytglfeocfhlmloaa.Nd
open Go.RowKit
namespace Wire
/-- a number that is read, its first k bytes passed: what it is, what is left, what is wrong -/
def rnumF : Nat → Nat → Nat → List Nat → Nat × List Nat × Nat
  | 0, _, _, _ => (0, [], 21)
  | _ + 1, _, _, [] => (0, [], 20)
  | f + 1, k, acc, c :: r => if (c = 0 ∧ 0 < k) ∨ (1 < c ∧ k = 9) then (0, [], 21) else if c < 128 then (acc + c * 128 ^ k, r, 0) else rnumF f (k + 1) (acc + c % 128 * 128 ^ k) r
def rnum (bs : List Nat) : Nat × List Nat × Nat := rnumF 10 0 0 bs
end Wire
end Go.Proofs.Ytglfeocfhlmloaa.Nd
namespace Go.Proofs.Ytglfeocfhlmloaa.Nd
open Go.RowKit
theorem OutIs.below {w w' : World} {B g : Nat} {v : Value} {xs : List Nat} (h : OutIs w B g v xs) (hb : Below w.heap.size w w') : OutIs w' B g v xs :=
  ⟨h.row.below hb h.row.lt, own_below h.own hb, h.apart, Nat.le_trans h.base hb.size, h.lt⟩
theorem InIs.below {B : Nat} {w w' : World} {g e : Nat} {bs : List Nat} (h : InIs B w g bs e) (hb : Below w.heap.size w w') : InIs B w' g bs e := by
  obtain ⟨p, cap, b, off, hr, hsl, hno, hne⟩ := h.ex
  exact ⟨p, cap, b, off, hr.below hb hr.lt, hsl.below hb, hno, hne⟩
end Go.Proofs.Ytglfeocfhlmloaa.Nd
