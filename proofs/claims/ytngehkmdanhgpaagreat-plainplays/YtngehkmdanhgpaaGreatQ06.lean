/-
  Small laws on memory, on rows of a call's own, on slices of bytes; and of the walk for a block that is known whole. The walks of wire.shiftedByByte and wire.Check: the check sum of parts. The walk of wire.Next. Fields as bytes: what an Out is; the walks of its Num, Int and Bytes. . Names: what the document says of them, and the tests of the program and of the reference (as of layer 4). . Append of a string's bytes, and where the row then lies; the walks of (*wire.Out).Text and Flag. . What was written is read back; what was cut off is short. Plain numbers, no program in it. The walk of the reference's Digest.
-/
import Derived.Test.YtngehkmdanhgpaaGreatRows
import Derived.WalkKit
import Derived.WalkSpells
import Derived.WalkLawsBesides
import Derived.Deep.AppendLies
import Derived.Deep.MidRow
import Derived.Deep.Light
import Derived.Laws.CopyOwn
import Derived.Laws.AppendOwnNone
import Derived.Laws.BytesArg
import Derived.Lib.Strings
import Derived.BigQuiet
import Derived.BigRegion
import Derived.Deep.RegionHeld3
import Derived.Lib.AppendZeros
import Derived.Deep.DrawnRows
import Derived.Maps.AppendAt
import Derived.Lib.SlBytesConst
import Derived.Lib.AppendStr
import Derived.Deep.RegionLaw
import Derived.Deep.Cut
namespace Go.Proofs.YtngehkmdanhgpaaGreat.Nd
open Go.RowKit
def u8v (n : Nat) : Value := .int .u8 (n : Int)
/-- block b of the world holds just these cells -/
def Row (w : World) (b : Nat) (vs : List Value) (t : TypeId) : Prop := w.heap[b]? = some (.cells vs.toArray t (0, 0))
theorem Row.cell {w : World} {b : Nat} {vs : List Value} {t : TypeId} (h : Row w b vs t) (j : Nat) : w.cell? ⟨b, j, none⟩ = vs[j]? := by
  rw [cell_of_row w b j _ t (0, 0) h]; simp
theorem Row.frozen {w : World} {b : Nat} {vs : List Value} {t : TypeId} (h : Row w b vs t) (j : Nat) : w.frozen? ⟨b, j, none⟩ = false := by
  unfold Row at h; simp [World.frozen?, h]
theorem Row.lt {w : World} {b : Nat} {vs : List Value} {t : TypeId} (h : Row w b vs t) : b < w.heap.size := by
  unfold Row at h
  exact (Array.getElem?_eq_some_iff.1 h).1
theorem Row.of_block {w w' : World} {b : Nat} {vs : List Value} {t : TypeId} (h : Row w b vs t) (hb : w'.heap[b]? = w.heap[b]?) : Row w' b vs t := by
  unfold Row at *; rw [hb]; exact h
theorem Row.drew {w : World} {b : Nat} {vs : List Value} {t : TypeId} (h : Row w b vs t) : Row w.drew b vs t := h
theorem Row.alloc {w : World} {b : Nat} {vs : List Value} {t : TypeId} (h : Row w b vs t) (o : Obj) : Row (w.alloc o) b vs t :=
  h.of_block (Below.heap_alloc _ _ _ h.lt)
theorem Row.new (w : World) (vs : List Value) (t : TypeId) : Row (w.alloc (.cells vs.toArray t)) w.heap.size vs t := heap_alloc_new w _
theorem Row.newAt (w : World) (b : Nat) (vs : List Value) (t : TypeId) (hb : w.heap.size = b) : Row (w.alloc (.cells vs.toArray t)) b vs t := by subst hb; exact heap_alloc_new w _
theorem Row.below {w w' : World} {b B : Nat} {vs : List Value} {t : TypeId} (h : Row w b vs t) (hb : Below B w w') (hB : b < B) : Row w' b vs t :=
  h.of_block (hb.block b hB)
theorem Row.grown {w w' : World} {b : Nat} {row : Option Nat} {vs : List Value} {t : TypeId} (h : Row w b vs t) (hb : w.grownBy w' row) (hB : some b ≠ row) : Row w' b vs t :=
  h.of_block (hb.block b h.lt hB)
theorem Row.set_other {w : World} {b : Nat} {vs : List Value} {t : TypeId} (h : Row w b vs t) (a : Addr) (v : Value) (hne : b ≠ a.block) : Row (w.setCell a v) b vs t :=
  h.of_block (Below.heap_setCell _ _ _ _ hne)
theorem Row.set_same {w : World} {b : Nat} {vs : List Value} {t : TypeId} (h : Row w b vs t) (j : Nat) (v : Value) : Row (w.setCell ⟨b, j, none⟩ v) b (vs.set j v) t := by
  unfold Row at *
  simp only [World.setCell, Array.getElem?_modify, if_true, h]
  simp
theorem splice_all {α : Type} (L new : List α) (h : new.length = L.length) : splice L 0 new = new := by
  simp [splice, h]
theorem splice_cons {α : Type} (L : List α) (o : Nat) (v : α) (r : List α) (h : o < L.length) : splice (L.set o v) (o + 1) r = splice L o (v :: r) := by
  unfold splice
  rw [List.take_succ_eq_append_getElem (by simpa using h)]
  have e1 : (L.set o v).take o = L.take o := by
    refine List.ext_getElem? fun j => ?_
    by_cases hj : j < o
    · rw [List.getElem?_take_of_lt hj, List.getElem?_take_of_lt hj, List.getElem?_set_ne (by omega)]
    · rw [List.getElem?_take_eq_none (by omega), List.getElem?_take_eq_none (by omega)]
  have e2 : (L.set o v).drop (o + 1 + r.length) = L.drop (o + (v :: r).length) := by
    rw [show o + (v :: r).length = o + 1 + r.length by simp; omega]
    refine List.ext_getElem? fun j => ?_
    rw [List.getElem?_drop, List.getElem?_drop, List.getElem?_set_ne (by omega)]
  rw [e1, e2]
  simp
theorem Row.setCells {t : TypeId} {b : Nat} : ∀ (new : List Value) (w : World) (vs : List Value) (o : Nat), Row w b vs t → o + new.length ≤ vs.length → Row (w.setCells b o new) b (splice vs o new) t
  | [], w, vs, o, h, _ => by simpa [World.setCells, splice] using h
  | v :: r, w, vs, o, h, hl => by
    simp only [List.length_cons] at hl
    have h' := Row.setCells r (w.setCell ⟨b, o, none⟩ v) (vs.set o v) (o + 1) (h.set_same o v) (by simp; omega)
    rw [splice_cons vs o v r (by omega)] at h'
    exact h'
theorem grownBy_trans {a b c : World} {row : Option Nat} (h : a.grownBy b row) (k : b.grownBy c row) : a.grownBy c row :=
  ⟨k.os.trans h.os, k.tape.trans h.tape, k.output.trans h.output, Nat.le_trans h.size k.size, fun i hi hne => (k.block i (Nat.lt_of_lt_of_le hi h.size) hne).trans (h.block i hi hne)⟩
theorem grownBy_refl (w : World) (row : Option Nat) : w.grownBy w row := ⟨rfl, rfl, rfl, Nat.le_refl _, fun _ _ _ => rfl⟩
theorem grownBy_setCell (w : World) (a : Addr) (v : Value) : w.grownBy (w.setCell a v) (some a.block) :=
  ⟨rfl, rfl, rfl, by simp [World.setCell], fun k _ hne => Below.heap_setCell _ _ _ _ (fun e => hne (by rw [e]))⟩
theorem grownBy_setCells {b : Nat} : ∀ (new : List Value) (w : World) (o : Nat), w.grownBy (w.setCells b o new) (some b)
  | [], w, _ => grownBy_refl w _
  | v :: r, w, o => grownBy_trans (grownBy_setCell w ⟨b, o, none⟩ v) (grownBy_setCells r _ (o + 1))
theorem size_setCells {b : Nat} : ∀ (new : List Value) (w : World) (o : Nat), (w.setCells b o new).heap.size = w.heap.size
  | [], _, _ => rfl
  | v :: r, w, o => (size_setCells r (w.setCell ⟨b, o, none⟩ v) (o + 1)).trans (by simp [World.setCell])
theorem below_of_grown {B : Nat} {a w w' : World} {row : Nat} (h : Below B a w) (hg : w.grownBy w' (some row)) (hB : B ≤ w.heap.size) (hr : B ≤ row) : Below B a w' :=
  h.grown hg hB (fun k e => by cases e; exact hr)
theorem grown_of_below {w w' : World} {row : Option Nat} (h : Below w.heap.size w w') : w.grownBy w' row := ⟨h.os, h.tape, h.output, h.size, fun k hk _ => h.block k hk⟩
theorem one_u8 (l : List Nat) : ∀ v ∈ l.map u8v, v.oneCell' = true := by
  intro v hv; simp only [List.mem_map] at hv; obtain ⟨n, _, rfl⟩ := hv; rfl
theorem there_of_row {w : World} {g : Nat} {vs : List Value} {t : TypeId} (hr : Row w g vs t) (o n : Nat) (h : o + n ≤ vs.length) : w.there g o n := fun j hj => by
  refine ⟨?_, hr.frozen _⟩
  rw [hr.cell, List.getElem?_eq_getElem (by omega)]; rfl
theorem wpList_store_Row {P : Program} {ops : Array Oper} {rest : List Oper} {op : Oper} {a : Act} {w : World} {Q : Exit → Act → World → Prop} (hgd : op.guard = none) (ty : TypeId) (x y : Operand) (ho : op.op = .store ty x y)
    (g o : Nat) (new : List Value) (hx : a.eval x = .pointer (some ⟨g, o, none⟩)) (hy : a.eval y = .agg new.toArray) (t : TypeId) (vs : List Value) (hr : Row w g vs t) (n : Nat) (hi : (P.info? ty).map (·.size) = some n) (hn : new.length = n)
    (hfit : o + n ≤ vs.length) (h1 : ∀ v ∈ new, v.oneCell' = true)
    (h : ∀ w', Row w' g (splice vs o new) t → w.grownBy w' (some g) → w'.heap.size = w.heap.size → wpList P ops Q rest (a.put op.dst undef) w') : wpList P ops Q (op :: rest) a w := by
  refine wpList_store_mid hgd ty x y ho g o new.toArray hx hy (there_of_row hr o _ (by simp; omega)) (by rw [hi]; simp [hn]) (all_oneCell_toArray h1) ?_
  exact h _ (Row.setCells new w vs o hr (by omega)) (grownBy_setCells _ _ _) (size_setCells _ _ _)
theorem post_Row {P : Program} {fn : Func} {R : Ending → World → Prop} {a : Act} {w : World} (p : Tmp) (ty : TypeId) (hf : fn.results = #[.cell p ty]) (g : Nat) (hp : a.tmps.getD p undef = .pointer (some ⟨g, 0, none⟩))
    (t : TypeId) (vs : List Value) (hr : Row w g vs t) (d : TypeDesc) (hu : P.underlying ty = some d) (hd : (match d with | .struct _ | .array _ _ => true | _ => false) = true) (n : Nat) (hi : (P.info? ty).map (·.size) = some n) (hn : vs.length = n)
    (hdf : a.defers = []) (h : R (.returned (.agg vs.toArray)) w) : bodyPost P fn R .ret a w :=
  bodyPost_ret (results_cell_row hf a.tmps w g t vs.toArray (0, 0) d hp hr hu hd (by rw [hi]; simp [hn])) hdf h
/-- a slice of bytes that lies in the world -/
structure Sl (w : World) (p : Option Addr) (bs : List Nat) (cap : Nat) (b off : Nat) : Prop where
  lt : ∀ x ∈ bs, x < 256
  cap1 : bs.length ≤ cap
  cap2 : cap ≤ 9223372036854775807
  at_ : 0 < bs.length → p = some ⟨b, off, none⟩
  src : ∀ j, j < bs.length → w.cell? ⟨b, off + j, none⟩ = some (u8v (bs.getD j 0))
theorem Sl.below {w w' : World} {p : Option Addr} {bs : List Nat} {cap b off : Nat} (h : Sl w p bs cap b off) (hb : Below w.heap.size w w') : Sl w' p bs cap b off :=
  ⟨h.lt, h.cap1, h.cap2, h.at_, fun j hj => by rw [hb.cell (World.block_lt_of_cell? w _ (h.src j hj))]; exact h.src j hj⟩
theorem own_step {w w' : World} {B : Nat} {v : Value} {row : Option Nat} {a : World} (hb : Below B a w) (hg : w.grownBy w' row) (hB : B ≤ w.heap.size) (hv : row = v.ownBlock) {e : TypeId} {size n : Nat} {xs : List Value} (ho : w.ownsRow B e size v n xs) : Below B a w' := by
  subst hv
  exact hb.grown hg hB (fun k hk => (ho.lt k hk).1)
/-- a string's bytes -/
def str (l : List Nat) : ByteArray := ⟨(l.map UInt8.ofNat).toArray⟩
end Go.Proofs.YtngehkmdanhgpaaGreat.Nd
namespace Go.Proofs.YtngehkmdanhgpaaGreat.Nd.Wire
/-- one bit goes -/
def step (x : Nat) : Nat := if x % 2 = 1 then (x / 2) ^^^ 3988292384 else x / 2
def steps : Nat → Nat → Nat
  | 0, x => x
  | k + 1, x => step (steps k x)
/-- one byte comes -/
def byte (s b : Nat) : Nat := steps 8 (s ^^^ b)
def run (s : Nat) (bs : List Nat) : Nat := bs.foldl byte s
def val (b : List Nat) : Nat := b.getD 0 0 + b.getD 1 0 * 256 + b.getD 2 0 * 65536 + b.getD 3 0 * 16777216
end Go.Proofs.YtngehkmdanhgpaaGreat.Nd.Wire
namespace Go.Proofs.YtngehkmdanhgpaaGreat.Nd
open Go.RowKit
/-- a slice of bytes among several: where it lies, its bytes -/
structure Part where
  p : Option Addr
  bs : List Nat
  cap : Nat
  b : Nat
  off : Nat
def Part.val (x : Part) : Value := .slice x.p x.bs.length x.cap
def Part.ok (w : World) (x : Part) : Prop := Sl w x.p x.bs x.cap x.b x.off
/-- slices of bytes that lie one behind the other -/
structure Parts (w : World) (pb po : Nat) (ps : List Part) : Prop where
  at_ : ∀ i x, ps[i]? = some x → w.cell? ⟨pb, po + i, none⟩ = some x.val
  ok : ∀ x ∈ ps, x.ok w
  no : ∀ x ∈ ps, x.p = none → x.bs.length = 0 ∧ x.cap = 0
theorem Parts.below {w w' : World} {pb po : Nat} {ps : List Part} (h : Parts w pb po ps) (hb : Below w.heap.size w w') : Parts w' pb po ps :=
  ⟨fun i x hx => by rw [hb.cell (World.block_lt_of_cell? w _ (h.at_ i x hx))]; exact h.at_ i x hx, fun x hx => (h.ok x hx).below hb, h.no⟩
theorem Sl.grown {w w' : World} {p : Option Addr} {bs : List Nat} {cap b off : Nat} {row : Option Nat} (h : Sl w p bs cap b off) (hb : w.grownBy w' row) (hne : 0 < bs.length → some b ≠ row) : Sl w' p bs cap b off :=
  ⟨h.lt, h.cap1, h.cap2, h.at_, fun j hj => hb.cell (h.src j hj) (hne (by omega))⟩
theorem Sl.blk {w : World} {p : Option Addr} {bs : List Nat} {cap b off : Nat} (h : Sl w p bs cap b off) (h0 : 0 < bs.length) : b < w.heap.size := World.block_lt_of_cell? w _ (h.src 0 h0)
end Go.Proofs.YtngehkmdanhgpaaGreat.Nd
namespace Go.Proofs.YtngehkmdanhgpaaGreat.Nd
open Go.RowKit
theorem hid_in {p : Prop} (h : p) : Hid p := h
/-- a part of a slice of bytes -/
theorem Sl.part {w : World} {p : Option Addr} {bs : List Nat} {cap b off : Nat} (h : Sl w p bs cap b off) (n m c : Nat) (hnm : n + m ≤ bs.length) (hc : m ≤ c) (hc2 : c ≤ 9223372036854775807) : Sl w (some ⟨b, off + n, none⟩) ((bs.drop n).take m) c b (off + n) :=
  ⟨fun x hx => h.lt x (List.mem_of_mem_drop (List.mem_of_mem_take hx)), by simp; omega, hc2, fun _ => rfl, fun j hj => by
    have hj' : j < m := by simp at hj; omega
    rw [Nat.add_assoc, h.src (n + j) (by omega)]
    simp [hj']⟩
end Go.Proofs.YtngehkmdanhgpaaGreat.Nd
namespace Go.Proofs.YtngehkmdanhgpaaGreat.Nd
open Go.RowKit
/-- the world has grown; of its blocks only those in S may have turned -/
structure Grew (w w' : World) (S : Nat → Prop) : Prop where
  os : w'.os = w.os
  tape : w'.tape = w.tape
  output : w'.output = w.output
  size : w.heap.size ≤ w'.heap.size
  block : ∀ k, k < w.heap.size → ¬ S k → w'.heap[k]? = w.heap[k]?
theorem Grew.refl (w : World) (S : Nat → Prop) : Grew w w S := ⟨rfl, rfl, rfl, Nat.le_refl _, fun _ _ _ => rfl⟩
theorem Grew.trans {a b c : World} {S T : Nat → Prop} (h : Grew a b S) (k : Grew b c T) (hT : ∀ q, q < a.heap.size → T q → S q) : Grew a c S :=
  ⟨k.os.trans h.os, k.tape.trans h.tape, k.output.trans h.output, Nat.le_trans h.size k.size, fun q hq hS => (k.block q (Nat.lt_of_lt_of_le hq h.size) (fun hT' => hS (hT q hq hT'))).trans (h.block q hq hS)⟩
theorem Grew.mono {a b : World} {S T : Nat → Prop} (h : Grew a b S) (hT : ∀ q, S q → T q) : Grew a b T := ⟨h.os, h.tape, h.output, h.size, fun q hq hn => h.block q hq (fun hs => hn (hT q hs))⟩
theorem Grew.below {a w w' : World} {S : Nat → Prop} {B : Nat} (h : Grew w w' S) (hb : Below B a w) (hB : B ≤ w.heap.size) (hS : ∀ k, S k → B ≤ k) : Below B a w' :=
  ⟨h.os.trans hb.os, h.tape.trans hb.tape, h.output.trans hb.output, Nat.le_trans hb.size h.size, fun k hk => (h.block k (by omega) (fun hs => by have := hS k hs; omega)).trans (hb.block k hk)⟩
/-- where a row lies behind a call -/
def Moved (w : World) (v v' : Value) : Prop := v'.ownBlock = v.ownBlock ∨ ∃ q, v'.ownBlock = some q ∧ w.heap.size ≤ q
theorem Moved.refl (w : World) (v : Value) : Moved w v v := .inl rfl
theorem Moved.trans {a b : World} {u v x : Value} (h : Moved a u v) (k : Moved b v x) (hs : a.heap.size ≤ b.heap.size) : Moved a u x := by
  rcases k with k | ⟨q, k, hq⟩
  · rcases h with h | ⟨q, h, hq⟩
    · exact .inl (k.trans h)
    · exact .inr ⟨q, k.trans h, hq⟩
  · exact .inr ⟨q, k, by omega⟩
namespace Wire
def numF : Nat → Nat → List Nat
  | 0, n => [n]
  | k + 1, n => if n < 128 then [n] else (n % 128 + 128) :: numF k (n / 128)
/-- a number's bytes -/
def num (n : Nat) : List Nat := numF 9 n
end Wire
end Go.Proofs.YtngehkmdanhgpaaGreat.Nd
namespace Go.Proofs.YtngehkmdanhgpaaGreat.Nd
open Go.RowKit
namespace Wire
/-- a number that is read, its first k bytes passed: what it is, what is left, what is wrong -/
def rnumF : Nat → Nat → Nat → List Nat → Nat × List Nat × Nat
  | 0, _, _, _ => (0, [], 21)
  | _ + 1, _, _, [] => (0, [], 20)
  | f + 1, k, acc, c :: r => if (c = 0 ∧ 0 < k) ∨ (1 < c ∧ k = 9) then (0, [], 21) else if c < 128 then (acc + c * 128 ^ k, r, 0) else rnumF f (k + 1) (acc + c % 128 * 128 ^ k) r
def rnum (bs : List Nat) : Nat × List Nat × Nat := rnumF 10 0 0 bs
end Wire
end Go.Proofs.YtngehkmdanhgpaaGreat.Nd
namespace Go.Proofs.YtngehkmdanhgpaaGreat.Nd
open Go.RowKit
/-- a text's bytes -/
abbrev Str := List UInt8
/-- a text as the program has it -/
def BA (x : Str) : ByteArray := ⟨x.toArray⟩
def bl (s : ByteArray) : Str := s.data.toList
theorem bl_BA (x : Str) : bl (BA x) = x := by simp [BA, bl]
theorem bl_length (s : ByteArray) : (bl s).length = s.size := by simp only [bl, Array.length_toList]; rfl
theorem BA_size (x : Str) : (BA x).size = x.length := by rw [← bl_length, bl_BA]
/-- may a byte stand in a name? -/
def plainN (n : Nat) : Prop := (97 ≤ n ∧ n ≤ 122) ∨ (65 ≤ n ∧ n ≤ 90) ∨ (48 ≤ n ∧ n ≤ 57) ∨ n = 46 ∨ n = 95 ∨ n = 45
instance (n : Nat) : Decidable (plainN n) := by unfold plainN; infer_instance
def kindN (n : Nat) : Int := if plainN n then 2 else if n = 47 then 1 else 0
/-- may a byte stand in a name? -/
def plain (c : UInt8) : Bool := decide (plainN c.toNat)
theorem index_str (s : ByteArray) (j : Nat) (c : UInt8) (hj : (bl s)[j]? = some c) (k : Int) (hk : k = (j : Int)) (w : World) : (Instr.index 9 (.string s) (.int .i64 k)).run Tryz.prog w = .ok (.int .u8 (c.toNat : Int)) w := by
  subst hk
  have hlt : j < s.size := by rw [← bl_length]; exact (List.getElem?_eq_some_iff.1 hj).1
  have hs : s[j]? = some s[j] := by simp [hlt]
  have hb : s[j] = c := by
    have h1 : j < s.data.size := hlt
    simp only [bl, Array.getElem?_toList, Array.getElem?_eq_getElem h1, Option.some.injEq] at hj
    exact hj
  simp [Instr.index, asIntOf, run_underlying Tryz.underlying9, hs, hb]
set_option maxHeartbeats 400000 in
set_option maxRecDepth 100000 in
theorem kind_any (n : Nat) (w : World) : Calls Tryz.prog 115 #[.int .u8 (n : Int)] w fun e w' => e = .returned (.int .i64 (kindN n)) ∧ w' = w := by
  obtain ⟨K, hK⟩ : ∃ K, Hid (K = kindN n) := ⟨_, rfl⟩
  rw [← hK.out]
  go_enter Tryz.func115, Tryz.ntmps115
  go_wp2
  all_goals
    go_ret
    refine ⟨congrArg (fun z => Ending.returned (Value.int .i64 z)) (Eq.trans ?_ hK.out.symm), rfl⟩
    try simp only [beq_iff_eq, beq_eq_false_iff_ne, ne_eq] at *
    unfold kindN
    first
      | (rw [if_pos (by unfold plainN; omega)])
      | (rw [if_neg (by unfold plainN; omega), if_pos (by omega)])
      | (rw [if_neg (by unfold plainN; omega), if_neg (by omega)])
set_option maxHeartbeats 400000 in
set_option maxRecDepth 100000 in
theorem plain_any (n : Nat) (w : World) : Calls Tryz.prog 83 #[.int .u8 (n : Int)] w fun e w' => e = .returned (.bool (decide (plainN n))) ∧ w' = w := by
  obtain ⟨K, hK⟩ : ∃ K, Hid (K = decide (plainN n)) := ⟨_, rfl⟩
  rw [← hK.out]
  go_enter Tryz.func83, Tryz.ntmps83
  go_wp2
  all_goals
    go_ret
    refine ⟨congrArg (fun z => Ending.returned (Value.bool z)) (Eq.trans ?_ hK.out.symm), rfl⟩
    try simp only [beq_iff_eq, beq_eq_false_iff_ne, ne_eq] at *
    symm
    first
      | (refine decide_eq_true ?_; unfold plainN; omega)
      | (refine decide_eq_false ?_; unfold plainN; omega)
      | (rw [Bool.eq_iff_iff, decide_eq_true_iff]; unfold plainN; simp; omega)
theorem all_snoc {p : UInt8 → Bool} {l : Str} {i : Nat} {c : UInt8} (hc : l[i]? = some c) (h : (l.take i).all p = true) (hp : p c = true) : (l.take (i + 1)).all p = true := by
  rw [List.take_add_one, hc]; simp [List.all_append, h, hp]
theorem all_no {p : UInt8 → Bool} {l : Str} {i : Nat} {c : UInt8} (hc : l[i]? = some c) (hp : p c = false) : l.all p = false := by
  rw [List.all_eq_false]
  exact ⟨c, List.mem_of_getElem? hc, by simp [hp]⟩
def isNameS (x : Str) : Bool := !(x == []) && !(x == [46]) && !(x == [46, 46]) && decide (x.length ≤ 16) && x.all plain
theorem n47 : ¬ plainN 47 := by decide
theorem kind_two (c : UInt8) : (kindN c.toNat != 2) = !plain c := by
  unfold kindN plain
  by_cases h : plainN c.toNat
  · simp [h]
  · by_cases h2 : c.toNat = 47
    · simp [h2, n47]
    · simp [h, h2]
theorem toL (x : Str) : (BA x).toList = x := by rw [Lib.toList_data]; exact bl_BA x
set_option maxHeartbeats 400000 in
set_option maxRecDepth 100000 in
theorem isName_any (x : Str) (hx : x.length ≤ 9223372036854775807) (w : World) : Calls Tryz.prog 137 #[.string (BA x)] w fun e w' => e = .returned (.bool (isNameS x)) ∧ w' = w := by
  by_cases hbad : (x = [] ∨ x = [46] ∨ x = [46, 46]) ∨ 16 < x.length
  · have hT := toL x
    have hsz : (BA x).size = x.length := BA_size _
    have hR : Hid (isNameS x = false) := by
      show _ = _
      unfold isNameS
      rcases hbad with (rfl | rfl | rfl) | h
      · rfl
      · rfl
      · rfl
      · rw [decide_eq_false (by omega : ¬ x.length ≤ 16)]; simp
    rw [hR.out]
    have H16 : Hid (16 < x.length ∨ x.length ≤ 16) := by show _ ∨ _; omega
    generalize BA x = s at hT hsz ⊢
    rcases hbad with (rfl | rfl | rfl) | h
    · go_enter Tryz.func137, Tryz.ntmps137
      go_wp2_with fail
      all_goals (go_ret; exact ⟨rfl, rfl⟩)
    · go_enter Tryz.func137, Tryz.ntmps137
      go_wp2_with fail
      all_goals (go_ret; exact ⟨rfl, rfl⟩)
    · go_enter Tryz.func137, Tryz.ntmps137
      go_wp2_with fail
      all_goals (go_ret; exact ⟨rfl, rfl⟩)
    · have e0 : (s.toList.isEmpty) = false := by rw [hT]; cases x <;> simp_all
      have e1 : (s.toList == [46]) = false := by rw [hT, beq_eq_false_iff_ne]; rintro rfl; simp at h
      have e2 : (s.toList == [46, 46]) = false := by rw [hT, beq_eq_false_iff_ne]; rintro rfl; simp at h
      have e3 : (s.toList = [46]) = False := by rw [hT]; simp only [eq_iff_iff, iff_false]; rintro rfl; simp at h
      have e4 : (s.toList = [46, 46]) = False := by rw [hT]; simp only [eq_iff_iff, iff_false]; rintro rfl; simp at h
      clear hT
      generalize x.length = n at *
      go_enter Tryz.func137, Tryz.ntmps137
      go_wp2_with fail
      all_goals (go_ret; exact ⟨rfl, rfl⟩)
  · have hb : (x ≠ [] ∧ x ≠ [46] ∧ x ≠ [46, 46]) ∧ x.length ≤ 16 := by
      refine ⟨⟨fun e => hbad (.inl (.inl e)), fun e => hbad (.inl (.inr (.inl e))), fun e => hbad (.inl (.inr (.inr e)))⟩, ?_⟩
      omega
    clear hbad
    obtain ⟨⟨b0, b1, b2⟩, b3⟩ := hb
    have hsz : (BA x).size = x.length := BA_size _
    have hix := fun (j : Nat) (d : UInt8) (hj : x[j]? = some d) => index_str (BA x) j d (by rw [bl_BA]; exact hj)
    have hT := toL x
    obtain ⟨R, hR⟩ : ∃ R, Hid (R = x.all plain) := ⟨_, rfl⟩
    have hR2 : isNameS x = R := by
      rw [hR.out]; unfold isNameS
      rw [beq_eq_false_iff_ne.2 b0, beq_eq_false_iff_ne.2 b1, beq_eq_false_iff_ne.2 b2, decide_eq_true b3]; simp
    rw [hR2]
    have HIX := hid_in hix
    clear hix hR2
    generalize BA x = s at hsz HIX hT ⊢
    have e0 : (s.toList.isEmpty) = false := by rw [hT]; cases x <;> simp_all
    have e1 : (s.toList == [46]) = false := by rw [hT, beq_eq_false_iff_ne]; exact b1
    have e2 : (s.toList == [46, 46]) = false := by rw [hT, beq_eq_false_iff_ne]; exact b2
    have e3 : (s.toList = [46]) = False := by rw [hT]; simpa using b1
    have e4 : (s.toList = [46, 46]) = False := by rw [hT]; simpa using b2
    have h1 : 1 ≤ x.length := by cases x; exact absurd rfl b0; simp
    clear hT b0 b1 b2
    generalize hl : x = l at *
    clear hl
    generalize hn : l.length = n at hsz hx b3 h1
    have Hn := hid_in hn
    clear hn
    go_enter Tryz.func137, Tryz.ntmps137
    go_wp2_with fail
    go_loopw [21] (fun vi w' => w' = w ∧ ∃ i : Nat, i ≤ n ∧ vi = .int .i64 (i : Int) ∧ Hid ((l.take i).all plain = true)) (fun vi _ => n - (intOf vi).toNat)
    case atStart => exact ⟨rfl, 0, by omega, rfl, rfl⟩
    case round =>
      obtain ⟨rfl, i, hi, rfl, hall⟩ := hrel
      by_cases hlt : i < n
      · obtain ⟨d, hd⟩ : ∃ d, l[i]? = some d := ⟨_, List.getElem?_eq_getElem (by rw [Hn.out]; exact hlt)⟩
        have ix := HIX.out i d hd (i : Int) rfl
        cases hp : plain d
        all_goals
          have kd := kind_two d
          rw [hp] at kd
          try simp only [Bool.not_true, Bool.not_false] at kd
          have HP := hid_in hp
          clear hp
          have Hd := hid_in hd
          have Hl := hid_in hlt
          clear hd
          go_wp2_with (first | (go_at_call 115; refine (kind_any _ _).mono ?_; rintro e w' ⟨rfl, hw⟩; obtain rfl := hw.symm))
        · go_ret
          refine ⟨congrArg (fun z => Ending.returned (Value.bool z)) (Eq.trans ?_ hR.out.symm), rfl⟩
          exact (all_no Hd.out HP.out).symm
        · go_roundw
          case rel =>
            go_light
            exact ⟨trivial, i + 1, by omega, by go_num, all_snoc Hd.out hall.out HP.out⟩
          case measure => simp [intOf]; omega
      · have hin : i = n := by omega
        have hall2 : l.all plain = true := by have := hall.out; rw [hin, ← Hn.out, List.take_length] at this; exact this
        clear hin
        go_wp2_with fail
        go_ret
        refine ⟨congrArg (fun z => Ending.returned (Value.bool z)) (Eq.trans ?_ hR.out.symm), rfl⟩
        rw [hall2]
end Go.Proofs.YtngehkmdanhgpaaGreat.Nd
namespace Go.Proofs.YtngehkmdanhgpaaGreat.Nd
open Go.RowKit
namespace Wire
/-- a text that is read: what it is, what is left, what is wrong -/
def rtext (most : Int) (bs : List Nat) : List Nat × List Nat × Nat :=
  if (rnum bs).2.2 ≠ 0 then ([], (rnum bs).2.1, (rnum bs).2.2) else if most.toNat < (rnum bs).1 then ([], [], 2) else if (rnum bs).2.1.length < (rnum bs).1 then ([], [], 20) else ((rnum bs).2.1.take (rnum bs).1, (rnum bs).2.1.drop (rnum bs).1, 0)
end Wire
end Go.Proofs.YtngehkmdanhgpaaGreat.Nd
namespace Go.Proofs.YtngehkmdanhgpaaGreat.Nd
open Go.RowKit
/-- a string's bytes, as numbers -/
def bytesS (s : ByteArray) : List Nat := s.data.toList.map (·.toNat)
theorem bytesS_length (s : ByteArray) : (bytesS s).length = s.size := by unfold bytesS; rw [List.length_map]; rfl
end Go.Proofs.YtngehkmdanhgpaaGreat.Nd
namespace Go.Proofs.YtngehkmdanhgpaaGreat.Nd
open Go.RowKit
/-- a part of a slice of bytes from a place on -/
theorem Sl.rest {w : World} {p q : Option Addr} {bs : List Nat} {cap b off : Nat} (h : Sl w p bs cap b off) (n : Nat) (hn : n ≤ bs.length) (hq : n < bs.length → q = some ⟨b, off + n, none⟩) : Sl w q (bs.drop n) (cap - n) b (off + n) :=
  ⟨fun x hx => h.lt x (List.mem_of_mem_drop hx), by have := h.cap1; simp; omega, by have := h.cap2; omega, fun h0 => hq (by simp at h0; omega), fun j hj => by
    have hj' : n + j < bs.length := by simp at hj; omega
    rw [Nat.add_assoc, h.src (n + j) hj']
    simp⟩
end Go.Proofs.YtngehkmdanhgpaaGreat.Nd
namespace Go.Proofs.YtngehkmdanhgpaaGreat.Nd
open Go.RowKit
end Go.Proofs.YtngehkmdanhgpaaGreat.Nd
namespace Go.Proofs.YtngehkmdanhgpaaGreat.Nd
open Go.RowKit
end Go.Proofs.YtngehkmdanhgpaaGreat.Nd
namespace Go.Proofs.YtngehkmdanhgpaaGreat.Nd
open Go.RowKit
theorem rnumF_numF : ∀ (f k n acc : Nat) (r : List Nat), k + f = 9 → n * 128 ^ k < 18446744073709551616 → (0 < k → 0 < n) → Wire.rnumF (f + 1) k acc (Wire.numF f n ++ r) = (acc + n * 128 ^ k, r, 0)
  | 0, k, n, acc, r, hk, hn, h0 => by
    have hk9 : k = 9 := by omega
    subst hk9
    have e9 : (128 : Nat) ^ 9 = 9223372036854775808 := by decide
    rw [e9] at hn
    have hn1 : n ≤ 1 := by omega
    have hn0 := h0 (by omega)
    simp only [Wire.numF, List.singleton_append, Wire.rnumF]
    rw [if_neg (by omega), if_pos (by omega)]
  | f + 1, k, n, acc, r, hk, hn, h0 => by
    by_cases hl : n < 128
    · simp only [Wire.numF, if_pos hl, List.singleton_append, Wire.rnumF]
      rw [if_neg (by omega)]
    · simp only [Wire.numF, if_neg hl, List.cons_append]
      rw [show f + 1 + 1 = (f + 1) + 1 from rfl]
      conv => lhs; unfold Wire.rnumF
      rw [if_neg (by omega), if_neg (by omega)]
      have hm : n = n % 128 + 128 * (n / 128) := (Nat.mod_add_div n 128).symm
      have e1 : (128 : Nat) ^ (k + 1) = 128 ^ k * 128 := Nat.pow_succ ..
      have hd : n / 128 * 128 ^ (k + 1) ≤ n * 128 ^ k := by
        rw [e1, Nat.mul_comm (128 ^ k) 128, ← Nat.mul_assoc]
        exact Nat.mul_le_mul_right _ (Nat.div_mul_le_self n 128)
      rw [rnumF_numF f (k + 1) (n / 128) _ r (by omega) (by omega) (fun _ => by omega)]
      have e2 : (n % 128 + 128) % 128 = n % 128 := by omega
      have e3 : acc + n % 128 * 128 ^ k + n / 128 * 128 ^ (k + 1) = acc + n * 128 ^ k := by
        rw [e1, Nat.mul_comm (128 ^ k) 128, ← Nat.mul_assoc, Nat.add_assoc, ← Nat.add_mul]
        congr 2
        omega
      rw [e2, e3]
theorem rnum_num (n : Nat) (r : List Nat) (hn : n < 18446744073709551616) : Wire.rnum (Wire.num n ++ r) = (n, r, 0) := by
  have := rnumF_numF 9 0 n 0 r rfl (by simpa using hn) (by omega)
  simpa [Wire.rnum, Wire.num] using this
theorem str_bytesS (S : ByteArray) : str (bytesS S) = S := by
  unfold str bytesS
  rw [List.map_map]
  have : (UInt8.ofNat ∘ fun x : UInt8 => x.toNat) = id := by funext x; simp
  rw [this, List.map_id]
end Go.Proofs.YtngehkmdanhgpaaGreat.Nd
namespace Go.Proofs.YtngehkmdanhgpaaGreat.Nd
open Go.RowKit
theorem wp_world {P : Program} {c : Code} {Q : Exit → Act → World → Prop} {a : Act} {W W' : World} (h : W = W') (k : Code.wp P c Q a W') : Code.wp P c Q a W := h ▸ k
end Go.Proofs.YtngehkmdanhgpaaGreat.Nd
