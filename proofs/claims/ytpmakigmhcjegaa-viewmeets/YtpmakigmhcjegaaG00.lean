/-
  Small laws on memory, on rows of a call's own, on slices of bytes; and of the walk for a block that is known whole. The walks of wire.shiftedByByte and wire.Check: the check sum of parts. The walk of wire.Next. Fields as bytes: what an Out is; the walks of its Num, Int and Bytes. Names: what the document says of them, and the tests of the program and of the reference (as of layer 4). Append of a string's bytes, and where the row then lies; the walks of (*wire.Out).Text and Flag. . The walk of the reference's Digest. Nodes as the document has them: when one is right, its bytes; slices of cells in the world. The walk of areItems. The walks of isRight and of node.Check. What a node reads as; the walk of node.read. The walk of node.Decode. Fields that are written; the walks of writeParts and writeItems. The walk of node.Encode. Slices of one element; rows of elements of the call's own. Votes in memory: values that read as votes; a row of votes of the call's own, and what is put behind it.
-/
import Derived.Test.YtpmakigmhcjegaaRows
import Derived.WalkKit
import Derived.WalkSpells
import Derived.WalkLawsBesides
import Derived.Deep.AppendLies
import Derived.Deep.MidRow
import Derived.Deep.Light
import Derived.Laws.CopyOwn
import Derived.Laws.AppendOwnNone
import Derived.Laws.BytesArg
import Derived.Lib.Strings
import Derived.BigQuiet
import Derived.BigRegion
import Derived.Deep.RegionHeld3
import Derived.Lib.AppendZeros
import Derived.Deep.DrawnRows
import Derived.Maps.AppendAt
import Derived.Lib.SlBytesConst
import Derived.Lib.AppendStr
import Derived.Deep.RegionLaw
import Derived.Deep.Cut
import Derived.Deep.CutRange
import Derived.OwnWalk
import Derived.Laws.Tables
import Derived.Laws.StructEq
namespace Go.Proofs.Ytpmakigmhcjegaa.Nd
open Go.RowKit
def u8v (n : Nat) : Value := .int .u8 (n : Int)
/-- block b of the world holds just these cells -/
def Row (w : World) (b : Nat) (vs : List Value) (t : TypeId) : Prop := w.heap[b]? = some (.cells vs.toArray t (0, 0))
theorem Row.cell {w : World} {b : Nat} {vs : List Value} {t : TypeId} (h : Row w b vs t) (j : Nat) : w.cell? ⟨b, j, none⟩ = vs[j]? := by
  rw [cell_of_row w b j _ t (0, 0) h]; simp
theorem Row.lt {w : World} {b : Nat} {vs : List Value} {t : TypeId} (h : Row w b vs t) : b < w.heap.size := by
  unfold Row at h
  exact (Array.getElem?_eq_some_iff.1 h).1
theorem Row.of_block {w w' : World} {b : Nat} {vs : List Value} {t : TypeId} (h : Row w b vs t) (hb : w'.heap[b]? = w.heap[b]?) : Row w' b vs t := by
  unfold Row at *; rw [hb]; exact h
theorem Row.drew {w : World} {b : Nat} {vs : List Value} {t : TypeId} (h : Row w b vs t) : Row w.drew b vs t := h
theorem Row.alloc {w : World} {b : Nat} {vs : List Value} {t : TypeId} (h : Row w b vs t) (o : Obj) : Row (w.alloc o) b vs t :=
  h.of_block (Below.heap_alloc _ _ _ h.lt)
theorem Row.new (w : World) (vs : List Value) (t : TypeId) : Row (w.alloc (.cells vs.toArray t)) w.heap.size vs t := heap_alloc_new w _
theorem Row.newAt (w : World) (b : Nat) (vs : List Value) (t : TypeId) (hb : w.heap.size = b) : Row (w.alloc (.cells vs.toArray t)) b vs t := by subst hb; exact heap_alloc_new w _
theorem Row.below {w w' : World} {b B : Nat} {vs : List Value} {t : TypeId} (h : Row w b vs t) (hb : Below B w w') (hB : b < B) : Row w' b vs t :=
  h.of_block (hb.block b hB)
theorem Row.grown {w w' : World} {b : Nat} {row : Option Nat} {vs : List Value} {t : TypeId} (h : Row w b vs t) (hb : w.grownBy w' row) (hB : some b ≠ row) : Row w' b vs t :=
  h.of_block (hb.block b h.lt hB)
theorem one_u8 (l : List Nat) : ∀ v ∈ l.map u8v, v.oneCell' = true := by
  intro v hv; simp only [List.mem_map] at hv; obtain ⟨n, _, rfl⟩ := hv; rfl
/-- a slice of bytes that lies in the world -/
structure Sl (w : World) (p : Option Addr) (bs : List Nat) (cap : Nat) (b off : Nat) : Prop where
  lt : ∀ x ∈ bs, x < 256
  cap1 : bs.length ≤ cap
  cap2 : cap ≤ 9223372036854775807
  at_ : 0 < bs.length → p = some ⟨b, off, none⟩
  src : ∀ j, j < bs.length → w.cell? ⟨b, off + j, none⟩ = some (u8v (bs.getD j 0))
theorem Sl.below {w w' : World} {p : Option Addr} {bs : List Nat} {cap b off : Nat} (h : Sl w p bs cap b off) (hb : Below w.heap.size w w') : Sl w' p bs cap b off :=
  ⟨h.lt, h.cap1, h.cap2, h.at_, fun j hj => by rw [hb.cell (World.block_lt_of_cell? w _ (h.src j hj))]; exact h.src j hj⟩
end Go.Proofs.Ytpmakigmhcjegaa.Nd
namespace Go.Proofs.Ytpmakigmhcjegaa.Nd.Wire
/-- one bit goes -/
def step (x : Nat) : Nat := if x % 2 = 1 then (x / 2) ^^^ 3988292384 else x / 2
def steps : Nat → Nat → Nat
  | 0, x => x
  | k + 1, x => step (steps k x)
/-- one byte comes -/
def byte (s b : Nat) : Nat := steps 8 (s ^^^ b)
def run (s : Nat) (bs : List Nat) : Nat := bs.foldl byte s
def val (b : List Nat) : Nat := b.getD 0 0 + b.getD 1 0 * 256 + b.getD 2 0 * 65536 + b.getD 3 0 * 16777216
end Go.Proofs.Ytpmakigmhcjegaa.Nd.Wire
namespace Go.Proofs.Ytpmakigmhcjegaa.Nd
open Go.RowKit
/-- a slice of bytes among several: where it lies, its bytes -/
structure Part where
  p : Option Addr
  bs : List Nat
  cap : Nat
  b : Nat
  off : Nat
def Part.val (x : Part) : Value := .slice x.p x.bs.length x.cap
def Part.ok (w : World) (x : Part) : Prop := Sl w x.p x.bs x.cap x.b x.off
/-- slices of bytes that lie one behind the other -/
structure Parts (w : World) (pb po : Nat) (ps : List Part) : Prop where
  at_ : ∀ i x, ps[i]? = some x → w.cell? ⟨pb, po + i, none⟩ = some x.val
  ok : ∀ x ∈ ps, x.ok w
  no : ∀ x ∈ ps, x.p = none → x.bs.length = 0 ∧ x.cap = 0
theorem Parts.below {w w' : World} {pb po : Nat} {ps : List Part} (h : Parts w pb po ps) (hb : Below w.heap.size w w') : Parts w' pb po ps :=
  ⟨fun i x hx => by rw [hb.cell (World.block_lt_of_cell? w _ (h.at_ i x hx))]; exact h.at_ i x hx, fun x hx => (h.ok x hx).below hb, h.no⟩
theorem Sl.grown {w w' : World} {p : Option Addr} {bs : List Nat} {cap b off : Nat} {row : Option Nat} (h : Sl w p bs cap b off) (hb : w.grownBy w' row) (hne : 0 < bs.length → some b ≠ row) : Sl w' p bs cap b off :=
  ⟨h.lt, h.cap1, h.cap2, h.at_, fun j hj => hb.cell (h.src j hj) (hne (by omega))⟩
theorem Sl.blk {w : World} {p : Option Addr} {bs : List Nat} {cap b off : Nat} (h : Sl w p bs cap b off) (h0 : 0 < bs.length) : b < w.heap.size := World.block_lt_of_cell? w _ (h.src 0 h0)
end Go.Proofs.Ytpmakigmhcjegaa.Nd
namespace Go.Proofs.Ytpmakigmhcjegaa.Nd
open Go.RowKit
theorem hid_in {p : Prop} (h : p) : Hid p := h
/-- a part of a slice of bytes -/
theorem Sl.part {w : World} {p : Option Addr} {bs : List Nat} {cap b off : Nat} (h : Sl w p bs cap b off) (n m c : Nat) (hnm : n + m ≤ bs.length) (hc : m ≤ c) (hc2 : c ≤ 9223372036854775807) : Sl w (some ⟨b, off + n, none⟩) ((bs.drop n).take m) c b (off + n) :=
  ⟨fun x hx => h.lt x (List.mem_of_mem_drop (List.mem_of_mem_take hx)), by simp; omega, hc2, fun _ => rfl, fun j hj => by
    have hj' : j < m := by simp at hj; omega
    rw [Nat.add_assoc, h.src (n + j) (by omega)]
    simp [hj']⟩
end Go.Proofs.Ytpmakigmhcjegaa.Nd
namespace Go.Proofs.Ytpmakigmhcjegaa.Nd
open Go.RowKit
/-- the world has grown; of its blocks only those in S may have turned -/
structure Grew (w w' : World) (S : Nat → Prop) : Prop where
  os : w'.os = w.os
  tape : w'.tape = w.tape
  output : w'.output = w.output
  size : w.heap.size ≤ w'.heap.size
  block : ∀ k, k < w.heap.size → ¬ S k → w'.heap[k]? = w.heap[k]?
theorem Grew.refl (w : World) (S : Nat → Prop) : Grew w w S := ⟨rfl, rfl, rfl, Nat.le_refl _, fun _ _ _ => rfl⟩
theorem Grew.trans {a b c : World} {S T : Nat → Prop} (h : Grew a b S) (k : Grew b c T) (hT : ∀ q, q < a.heap.size → T q → S q) : Grew a c S :=
  ⟨k.os.trans h.os, k.tape.trans h.tape, k.output.trans h.output, Nat.le_trans h.size k.size, fun q hq hS => (k.block q (Nat.lt_of_lt_of_le hq h.size) (fun hT' => hS (hT q hq hT'))).trans (h.block q hq hS)⟩
theorem Grew.mono {a b : World} {S T : Nat → Prop} (h : Grew a b S) (hT : ∀ q, S q → T q) : Grew a b T := ⟨h.os, h.tape, h.output, h.size, fun q hq hn => h.block q hq (fun hs => hn (hT q hs))⟩
theorem Grew.of_below {w w' : World} (S : Nat → Prop) (h : Below w.heap.size w w') : Grew w w' S := ⟨h.os, h.tape, h.output, h.size, fun k hk _ => h.block k hk⟩
theorem Grew.below {a w w' : World} {S : Nat → Prop} {B : Nat} (h : Grew w w' S) (hb : Below B a w) (hB : B ≤ w.heap.size) (hS : ∀ k, S k → B ≤ k) : Below B a w' :=
  ⟨h.os.trans hb.os, h.tape.trans hb.tape, h.output.trans hb.output, Nat.le_trans hb.size h.size, fun k hk => (h.block k (by omega) (fun hs => by have := hS k hs; omega)).trans (hb.block k hk)⟩
/-- where a row lies behind a call -/
def Moved (w : World) (v v' : Value) : Prop := v'.ownBlock = v.ownBlock ∨ ∃ q, v'.ownBlock = some q ∧ w.heap.size ≤ q
theorem Moved.refl (w : World) (v : Value) : Moved w v v := .inl rfl
theorem Moved.trans {a b : World} {u v x : Value} (h : Moved a u v) (k : Moved b v x) (hs : a.heap.size ≤ b.heap.size) : Moved a u x := by
  rcases k with k | ⟨q, k, hq⟩
  · rcases h with h | ⟨q, h, hq⟩
    · exact .inl (k.trans h)
    · exact .inr ⟨q, k.trans h, hq⟩
  · exact .inr ⟨q, k, by omega⟩
namespace Wire
def numF : Nat → Nat → List Nat
  | 0, n => [n]
  | k + 1, n => if n < 128 then [n] else (n % 128 + 128) :: numF k (n / 128)
/-- a number's bytes -/
def num (n : Nat) : List Nat := numF 9 n
end Wire
end Go.Proofs.Ytpmakigmhcjegaa.Nd
namespace Go.Proofs.Ytpmakigmhcjegaa.Nd
open Go.RowKit
/-- a text's bytes -/
abbrev Str := List UInt8
def bl (s : ByteArray) : Str := s.data.toList
/-- may a byte stand in a name? -/
def plainN (n : Nat) : Prop := (97 ≤ n ∧ n ≤ 122) ∨ (65 ≤ n ∧ n ≤ 90) ∨ (48 ≤ n ∧ n ≤ 57) ∨ n = 46 ∨ n = 95 ∨ n = 45
instance (n : Nat) : Decidable (plainN n) := by unfold plainN; infer_instance
/-- may a byte stand in a name? -/
def plain (c : UInt8) : Bool := decide (plainN c.toNat)
def isNameS (x : Str) : Bool := !(x == []) && !(x == [46]) && !(x == [46, 46]) && decide (x.length ≤ 16) && x.all plain
end Go.Proofs.Ytpmakigmhcjegaa.Nd
namespace Go.Proofs.Ytpmakigmhcjegaa.Nd
open Go.RowKit
/-- a string's bytes, as numbers -/
def bytesS (s : ByteArray) : List Nat := s.data.toList.map (·.toNat)
end Go.Proofs.Ytpmakigmhcjegaa.Nd
namespace Go.Proofs.Ytpmakigmhcjegaa.Nd
open Go.RowKit
/-- a part of a slice of bytes from a place on -/
theorem Sl.rest {w : World} {p q : Option Addr} {bs : List Nat} {cap b off : Nat} (h : Sl w p bs cap b off) (n : Nat) (hn : n ≤ bs.length) (hq : n < bs.length → q = some ⟨b, off + n, none⟩) : Sl w q (bs.drop n) (cap - n) b (off + n) :=
  ⟨fun x hx => h.lt x (List.mem_of_mem_drop hx), by have := h.cap1; simp; omega, by have := h.cap2; omega, fun h0 => hq (by simp at h0; omega), fun j hj => by
    have hj' : n + j < bs.length := by simp at hj; omega
    rw [Nat.add_assoc, h.src (n + j) hj']
    simp⟩
end Go.Proofs.Ytpmakigmhcjegaa.Nd
namespace Go.Proofs.Ytpmakigmhcjegaa.Nd
open Go.RowKit
end Go.Proofs.Ytpmakigmhcjegaa.Nd
namespace Go.Proofs.Ytpmakigmhcjegaa.Nd
open Go.RowKit
theorem wp_world {P : Program} {c : Code} {Q : Exit → Act → World → Prop} {a : Act} {W W' : World} (h : W = W') (k : Code.wp P c Q a W') : Code.wp P c Q a W := h ▸ k
end Go.Proofs.Ytpmakigmhcjegaa.Nd
namespace Go.Proofs.Ytpmakigmhcjegaa.Nd
open Go.RowKit
/-- a directory's item -/
structure It where
  name : ByteArray
  kind : Int
  sum : List Nat
/-- a node -/
structure Nd where
  kind : Int
  data : ByteArray
  size : Int
  parts : List (List Nat)
  items : List It
def It.cells (x : It) : List Value := .string x.name :: .int .i64 x.kind :: x.sum.map u8v
def dcells (d : List Nat) : List Value := d.map u8v
/-- 32 bytes -/
def Dg (d : List Nat) : Prop := d.length = 32 ∧ ∀ x ∈ d, x < 256
def i64 (n : Int) : Prop := -9223372036854775808 ≤ n ∧ n ≤ 9223372036854775807
structure It.ok (x : It) : Prop where
  sum : Dg x.sum
  kind : i64 x.kind
structure Nd.ok (n : Nd) : Prop where
  parts : ∀ d ∈ n.parts, Dg d
  items : ∀ x ∈ n.items, x.ok
  kind : i64 n.kind
  size : i64 n.size
/-- a slice whose elements have k cells each -/
structure Els (w : World) (v : Value) (k : Nat) (xs : List (List Value)) : Prop where
  ex : ∃ p cap b o, v = .slice p xs.length cap ∧ xs.length ≤ cap ∧ cap ≤ 9223372036854775807 ∧ (xs ≠ [] → p = some ⟨b, o, none⟩ ∧ b < w.heap.size) ∧ ∀ (i : Nat) us, xs[i]? = some us → w.rangeAt b (o + i * k) us
  each : ∀ us ∈ xs, us.length = k
theorem rangeAt_below {w w' : World} {B b o : Nat} {cs : List Value} (h : w.rangeAt b o cs) (hb : Below B w w') (hlt : b < B) : w'.rangeAt b o cs := fun j v hv => by
  rw [hb.cell (p := ⟨b, o + j, none⟩) hlt]; exact h j v hv
theorem Els.below {w w' : World} {v : Value} {k : Nat} {xs : List (List Value)} (h : Els w v k xs) (hb : Below w.heap.size w w') : Els w' v k xs := by
  obtain ⟨p, cap, b, o, rfl, h1, h2, h3, h4⟩ := h.ex
  refine ⟨⟨p, cap, b, o, rfl, h1, h2, fun hne => ⟨(h3 hne).1, Nat.lt_of_lt_of_le (h3 hne).2 hb.size⟩, fun i us hi => ?_⟩, h.each⟩
  have hne : xs ≠ [] := by rintro rfl; simp at hi
  exact rangeAt_below (h4 i us hi) hb (h3 hne).2
theorem Els.grown {w w' : World} {v : Value} {k z : Nat} {xs : List (List Value)} (h : Els w v k xs) (hg : w.grownBy w' (some z)) (hz : ∀ q, v.ownBlock = some q → q ≠ z) : Els w' v k xs := by
  obtain ⟨p, cap, b, o, rfl, h1, h2, h3, h4⟩ := h.ex
  refine ⟨⟨p, cap, b, o, rfl, h1, h2, fun hne => ⟨(h3 hne).1, Nat.lt_of_lt_of_le (h3 hne).2 hg.size⟩, fun i us hi => ?_⟩, h.each⟩
  have hne : xs ≠ [] := by rintro rfl; simp at hi
  have hbz : b ≠ z := hz b (by rw [(h3 hne).1]; rfl)
  intro j u hu
  rw [World.cell?_of_block (a := ⟨b, o + i * k + j, none⟩) (hg.block b (h3 hne).2 (by simpa using hbz))]
  exact h4 i us hi j u hu
theorem Els.nil (w : World) (k : Nat) : Els w (.slice none 0 0) k [] :=
  ⟨⟨none, 0, 0, 0, rfl, Nat.le_refl _, by decide, fun h => absurd rfl h, fun i us h => by simp at h⟩, fun us h => by cases h⟩
/-- the value of a node that lies in the world -/
structure IsN (w : World) (v : Value) (n : Nd) : Prop where
  ex : ∃ vp vi, v = .agg #[.int .i64 n.kind, .string n.data, .int .i64 n.size, vp, vi] ∧ Els w vp 32 (n.parts.map dcells) ∧ Els w vi 34 (n.items.map It.cells)
  ok : n.ok
theorem IsN.below {w w' : World} {v : Value} {n : Nd} (h : IsN w v n) (hb : Below w.heap.size w w') : IsN w' v n := by
  obtain ⟨vp, vi, h1, h2, h3⟩ := h.ex
  exact ⟨⟨vp, vi, h1, h2.below hb, h3.below hb⟩, h.ok⟩
/-- does the first text come behind the second, or is it the same? -/
def geS (a b : ByteArray) : Bool := !Op.bytesLess a.toList b.toList
def itemOk (x : It) : Bool := (x.kind == 2 || x.kind == 3) && isNameS (bl x.name)
def okAt (l : List It) (i : Nat) : Prop := ∀ x, l[i]? = some x → itemOk x = true ∧ (0 < i → ∀ y, l[i - 1]? = some y → geS y.name x.name = false)
def itemsOk (l : List It) : Prop := l.length ≤ 64 ∧ ∀ i, i < l.length → okAt l i
def pieces (n : Int) : Nat := ((n + 63) / 64).toNat
def right (n : Nd) : Prop :=
  (n.kind = 1 ∧ 1 ≤ n.data.size ∧ n.data.size ≤ 64 ∧ n.size = 0 ∧ n.parts = [] ∧ n.items = []) ∨
  (n.kind = 2 ∧ n.data.size = 0 ∧ 0 ≤ n.size ∧ n.size ≤ 1024 ∧ n.parts.length = pieces n.size ∧ n.items = []) ∨
  (n.kind = 3 ∧ n.data.size = 0 ∧ n.size = 0 ∧ n.parts = [] ∧ itemsOk n.items)
def It.bytes (x : It) : List Nat := Wire.num x.name.size ++ bytesS x.name ++ Wire.num x.kind.toNat ++ x.sum
/-- the bytes of a right node -/
def enc (n : Nd) : List Nat :=
  Wire.num n.kind.toNat ++ (if n.kind = 1 then Wire.num n.data.size ++ bytesS n.data else if n.kind = 2 then Wire.num n.size.toNat ++ n.parts.flatten else Wire.num n.items.length ++ n.items.flatMap It.bytes)
end Go.Proofs.Ytpmakigmhcjegaa.Nd
namespace Go.Proofs.Ytpmakigmhcjegaa.Nd
open Go.RowKit
/-- a call says whether P -/
def Says (e : Ending) (P : Prop) : Prop := ∃ R, e = .returned (.bool R) ∧ (R = true ↔ P)
theorem Says.no {e : Ending} {P : Prop} (h : e = .returned (.bool false)) (hp : ¬ P) : Says e P := ⟨false, h, ⟨fun h => (by cases h), fun h => absurd h hp⟩⟩
theorem Says.cases {e : Ending} {P : Prop} (h : Says e P) : (e = .returned (.bool true) ∧ P) ∨ (e = .returned (.bool false) ∧ ¬ P) := by
  obtain ⟨R, h1, h2⟩ := h
  cases R
  · exact .inr ⟨h1, fun h => by cases h2.2 h⟩
  · exact .inl ⟨h1, h2.1 rfl⟩
theorem It.one (x : It) : ∀ v ∈ x.cells, v.oneCell' = true := by
  intro v hv
  simp only [It.cells, List.mem_cons] at hv
  rcases hv with rfl | rfl | hv
  · rfl
  · rfl
  · exact one_u8 _ v hv
/-- an element of a slice of items -/
theorem Els.item {w : World} {l : List It} {b o : Nat} (h : ∀ (i : Nat) us, (l.map It.cells)[i]? = some us → w.rangeAt b (o + i * 34) us) {i : Nat} {x : It} (hx : l[i]? = some x) : w.rangeAt b (o + i * 34) x.cells := h i x.cells (by simp [hx])
/-- k cells lie there -/
def has (k : Nat) (w : World) (b o : Nat) : Prop := ∀ j, j < k → (w.cell? ⟨b, o + j, none⟩).isSome = true
def cellsAt (k : Nat) (w : World) (b o : Nat) : List Value := (List.range k).map fun j => (w.cell? ⟨b, o + j, none⟩).getD undef
def ptrB : Value → Nat
  | .pointer (some a) => a.block
  | _ => 0
def ptrO : Value → Nat
  | .pointer (some a) => a.off
  | _ => 0
theorem ptrB_pointer (a : Addr) : ptrB (.pointer (some a)) = a.block := by simp only [ptrB]
theorem ptrO_pointer (a : Addr) : ptrO (.pointer (some a)) = a.off := by simp only [ptrO]
theorem has_drewN (k : Nat) (w : World) (b o n : Nat) : has k (w.drewN n) b o = has k w b o := by simp [has]
theorem cellsAt_drewN (k : Nat) (w : World) (b o n : Nat) : cellsAt k (w.drewN n) b o = cellsAt k w b o := by simp [cellsAt]
theorem has_drew (k : Nat) (w : World) (b o : Nat) : has k w.drew b o = has k w b o := rfl
theorem cellsAt_drew (k : Nat) (w : World) (b o : Nat) : cellsAt k w.drew b o = cellsAt k w b o := rfl
attribute [local go_sem] has_drewN cellsAt_drewN has_drew cellsAt_drew ptrB_pointer ptrO_pointer
end Go.Proofs.Ytpmakigmhcjegaa.Nd
namespace Go.Proofs.Ytpmakigmhcjegaa.Nd
open Go.RowKit
theorem Says.mono {e : Ending} {P Q : Prop} (h : Says e P) (hpq : P ↔ Q) : Says e Q := by
  obtain ⟨R, h1, h2⟩ := h
  exact ⟨R, h1, h2.trans hpq⟩
end Go.Proofs.Ytpmakigmhcjegaa.Nd
namespace Go.Proofs.Ytpmakigmhcjegaa.Nd
open Go.RowKit
/-- the slices of a node lie in blocks from lo on -/
def Fresh (lo : Nat) (v : Value) : Prop := ∀ k d s vp vi, v = .agg #[.int .i64 k, .string d, .int .i64 s, vp, vi] → (∀ q, Value.ownBlock vp = some q → lo ≤ q) ∧ ∀ q, Value.ownBlock vi = some q → lo ≤ q
theorem Fresh.mono {lo lo' : Nat} {v : Value} (h : Fresh lo v) (hl : lo' ≤ lo) : Fresh lo' v := fun k d s vp vi e => ⟨fun q hq => Nat.le_trans hl ((h k d s vp vi e).1 q hq), fun q hq => Nat.le_trans hl ((h k d s vp vi e).2 q hq)⟩
theorem IsN.grown {w w' : World} {v : Value} {n : Nd} {lo z : Nat} (h : IsN w v n) (hg : w.grownBy w' (some z)) (hf : Fresh lo v) (hz : z < lo) : IsN w' v n := by
  obtain ⟨vp, vi, e, hp, hi⟩ := h.ex
  obtain ⟨f1, f2⟩ := hf _ _ _ _ _ e
  exact ⟨⟨vp, vi, e, hp.grown hg (fun q hq => by have := f1 q hq; omega), hi.grown hg (fun q hq => by have := f2 q hq; omega)⟩, h.ok⟩
end Go.Proofs.Ytpmakigmhcjegaa.Nd
namespace Go.Proofs.Ytpmakigmhcjegaa.Nd
open Go.RowKit
theorem IsN.form {w : World} {v : Value} {n : Nd} (h : IsN w v n) : ∃ pp cp pi ci, v = .agg #[.int .i64 n.kind, .string n.data, .int .i64 n.size, .slice pp n.parts.length cp, .slice pi n.items.length ci] := by
  obtain ⟨vp, vi, rfl, hp, hi⟩ := h.ex
  obtain ⟨pp, cp, _, _, rfl, _⟩ := hp.ex
  obtain ⟨pi, ci, _, _, rfl, _⟩ := hi.ex
  exact ⟨pp, cp, pi, ci, by simp⟩
end Go.Proofs.Ytpmakigmhcjegaa.Nd
namespace Go.Proofs.Ytpmakigmhcjegaa.Nd
open Go.RowKit
theorem Els.own {w : World} {v : Value} {k : Nat} {xs : List (List Value)} (h : Els w v k xs) (hne : xs ≠ []) : ∀ q, v.ownBlock = some q → q < w.heap.size := by
  obtain ⟨p, cap, b, o, rfl, _, _, h3, _⟩ := h.ex
  obtain ⟨rfl, hb⟩ := h3 hne
  intro q hq
  cases hq
  exact hb
end Go.Proofs.Ytpmakigmhcjegaa.Nd
namespace Go.Proofs.Ytpmakigmhcjegaa.Nd
open Go.RowKit
theorem Els.keep {w w' : World} {v : Value} {k B : Nat} {xs : List (List Value)} (h : Els w v k xs) (hb : Below B w w') (hB : w.heap.size ≤ B) : Els w' v k xs := h.below (hb.mono hB)
end Go.Proofs.Ytpmakigmhcjegaa.Nd
namespace Go.Proofs.Ytpmakigmhcjegaa.Nd
open Go.RowKit
theorem own_belowK {w w' : World} {B n k : Nat} {e : TypeId} {v : Value} {xs : List Value} (h : w.ownsRow B e k v n xs) (hb : Below w.heap.size w w') : w'.ownsRow B e k v n xs := by
  obtain ⟨h1, h2 | ⟨g, cap, cur, rfl, hB, hh, r⟩⟩ := h
  · exact ⟨h1, .inl h2⟩
  · refine ⟨h1, .inr ⟨g, cap, cur, rfl, hB, ?_, r⟩⟩
    have hlt : g < w.heap.size := (Array.getElem?_eq_some_iff.1 hh).1
    rw [hb.block g hlt]
    exact hh
theorem flatten_get {k : Nat} {xs : List (List Value)} (h : ∀ us ∈ xs, us.length = k) : ∀ (i : Nat) us, xs[i]? = some us → ∀ (y : Nat) u, us[y]? = some u → xs.flatten[i * k + y]? = some u := by
  induction xs with
  | nil => intro i us hi; simp at hi
  | cons x r ih =>
    intro i us hi y u hy
    have hx := h x (by simp)
    cases i with
    | zero =>
      simp at hi
      subst hi
      rw [List.flatten_cons, Nat.zero_mul, Nat.zero_add, List.getElem?_append_left (by exact (List.getElem?_eq_some_iff.1 hy).1)]
      exact hy
    | succ i =>
      rw [List.flatten_cons, List.getElem?_append_right (by rw [hx, Nat.add_mul]; omega), hx]
      have := ih (fun us hus => h us (by simp [hus])) i us (by simpa using hi) y u hy
      rw [show (i + 1) * k + y - k = i * k + y by rw [Nat.add_mul]; omega]
      exact this
end Go.Proofs.Ytpmakigmhcjegaa.Nd
namespace Go.Proofs.Ytpmakigmhcjegaa.Vw
open Go.RowKit
open Nd (Row wp_world u8v Grew Sl hid_in)
def ir (n : Int) : Prop := -9223372036854775808 ≤ n ∧ n ≤ 9223372036854775807
/-- a vote -/
structure Vt where
  r : Int
  n : Int
  l : Int
  deriving DecidableEq
def Vt.cells (e : Vt) : List Value := [.int .i64 e.r, .int .i64 e.n, .int .i64 e.l]
def Vt.val (e : Vt) : Value := .agg #[.int .i64 e.r, .int .i64 e.n, .int .i64 e.l]
structure Vt.ok (e : Vt) : Prop where
  r : ir e.r
  n : ir e.n
  l : ir e.l
def ecells (es : List Vt) : List Value := es.flatMap Vt.cells
theorem ecells_cons (e : Vt) (es : List Vt) : ecells (e :: es) = e.cells ++ ecells es := by simp [ecells]
theorem ecells_app (a b : List Vt) : ecells (a ++ b) = ecells a ++ ecells b := by simp [ecells]
theorem ecells_len (es : List Vt) : (ecells es).length = es.length * 3 := by
  induction es with
  | nil => rfl
  | cons f r ih =>
    rw [ecells_cons, List.length_append, ih, List.length_cons]
    simp [Vt.cells]
    omega
theorem ecells_at {es : List Vt} {i : Nat} {e : Vt} (h : es[i]? = some e) (y : Nat) (u : Value) (hy : e.cells[y]? = some u) : (ecells es)[i * 3 + y]? = some u := by
  have h1 := Nd.flatten_get (k := 3) (xs := es.map Vt.cells) (fun us hus => by obtain ⟨g, _, rfl⟩ := List.mem_map.1 hus; rfl) i e.cells (by rw [List.getElem?_map, h]; rfl) y u hy
  rw [List.flatMap_def.symm] at h1
  exact h1
/-- a value that reads as entries -/
def Es (w : World) (v : Value) (es : List Vt) : Prop := ∃ p cap b o, v = .slice p es.length cap ∧ es.length ≤ cap ∧ cap ≤ 9223372036854775807 ∧ (es ≠ [] → p = some ⟨b, o, none⟩ ∧ b < w.heap.size) ∧ (∀ j u, (ecells es)[j]? = some u → w.cell? ⟨b, o + j, none⟩ = some u) ∧ (p = none → es = [] ∧ cap = 0)
theorem Es.keep {w w' : World} {S : Nat → Prop} {v : Value} {es : List Vt} (h : Es w v es) (hg : Grew w w' S) (hn : ∀ b, v.ownBlock = some b → ¬ S b) : Es w' v es := by
  obtain ⟨p, cap, b, o, rfl, h2, h3, h4, h5, h6⟩ := h
  refine ⟨p, cap, b, o, rfl, h2, h3, fun he => ⟨(h4 he).1, Nat.lt_of_lt_of_le (h4 he).2 hg.size⟩, fun j u hj => ?_, h6⟩
  have hne : es ≠ [] := by rintro rfl; simp [ecells] at hj
  obtain ⟨rfl, hb⟩ := h4 hne
  rw [World.cell?_of_block (a := ⟨b, o + j, none⟩) (hg.block b hb (hn b rfl))]
  exact h5 j u hj
theorem Es.below {w w' : World} {v : Value} {es : List Vt} (h : Es w v es) (hb : Below w.heap.size w w') : Es w' v es :=
  h.keep (Grew.of_below (fun _ => False) hb) (fun _ _ h => h)
theorem Es.grown {w w' : World} {z : Nat} {v : Value} {es : List Vt} (h : Es w v es) (hg : w.grownBy w' (some z)) (hz : v.ownBlock ≠ some z) : Es w' v es := by
  obtain ⟨p, cap, b, o, rfl, h2, h3, h4, h5, h6⟩ := h
  refine ⟨p, cap, b, o, rfl, h2, h3, fun he => ⟨(h4 he).1, Nat.lt_of_lt_of_le (h4 he).2 hg.size⟩, fun j u hj => ?_, h6⟩
  have hne : es ≠ [] := by rintro rfl; simp [ecells] at hj
  obtain ⟨rfl, hb⟩ := h4 hne
  rw [World.cell?_of_block (a := ⟨b, o + j, none⟩) (hg.block b hb (by intro e; exact hz (by simpa [Value.ownBlock] using e)))]
  exact h5 j u hj
theorem Es.form {w : World} {v : Value} {es : List Vt} (h : Es w v es) : ∃ p cap, v = .slice p es.length cap ∧ es.length ≤ cap ∧ cap ≤ 9223372036854775807 := by
  obtain ⟨p, cap, _, _, h1, h2, h3, _⟩ := h
  exact ⟨p, cap, h1, h2, h3⟩
theorem Es.nil (w : World) : Es w (.slice none 0 0) [] := ⟨none, 0, 0, 0, rfl, Nat.le_refl _, by decide, fun h => absurd rfl h, fun j u h => by simp [ecells] at h, fun _ => ⟨rfl, rfl⟩⟩
theorem Es.at {w : World} {n c : Nat} {p : Option Addr} {es : List Vt} (h : Es w (.slice p n c) es) {i : Nat} {e : Vt} (hi : es[i]? = some e) : ∃ b o, p = some ⟨b, o, none⟩ ∧ ∀ (y : Nat) u, e.cells[y]? = some u → w.cell? ⟨b, o + i * 3 + y, none⟩ = some u := by
  obtain ⟨p', cap, b, o, h1, h2, h3, h4, h5, h6⟩ := h
  simp only [Value.slice.injEq] at h1
  obtain ⟨rfl, rfl, rfl⟩ := h1
  have hne : es ≠ [] := by rintro rfl; simp at hi
  refine ⟨b, o, (h4 hne).1, fun y u hy => ?_⟩
  rw [Nat.add_assoc]
  exact h5 _ _ (ecells_at hi y u hy)
/-- a row of entries of the call's own -/
def EO (w : World) (B : Nat) (v : Value) (es : List Vt) : Prop := w.ownsRow B 31 3 v es.length (ecells es)
theorem EO.below {w w' : World} {B : Nat} {v : Value} {es : List Vt} (h : EO w B v es) (hb : Below w.heap.size w w') : EO w' B v es := Nd.own_belowK h hb
theorem EO.nil (w : World) (B : Nat) : EO w B (.slice none 0 0) [] := ⟨rfl, .inl ⟨rfl, rfl⟩⟩
theorem EO.es {w : World} {B : Nat} {v : Value} {es : List Vt} (h : EO w B v es) : Es w v es := by
  obtain ⟨_, ⟨rfl, h0⟩ | ⟨g, cap, cur, rfl, hB, hh, hn, hm, hs, ht⟩⟩ := h
  · obtain rfl := List.length_eq_zero_iff.1 h0
    exact ⟨none, 0, 0, 0, rfl, by simp, by omega, fun h => absurd rfl h, fun j u h => by simp [ecells] at h, fun _ => ⟨rfl, rfl⟩⟩
  · have hlt : g < w.heap.size := (Array.getElem?_eq_some_iff.1 hh).1
    refine ⟨_, cap, g, 0, rfl, hn, by unfold maxLen at hm; omega, fun _ => ⟨rfl, hlt⟩, fun j u hj => ?_, fun e => by cases e⟩
    have hjl : j < es.length * 3 := by rw [← ecells_len]; exact (List.getElem?_eq_some_iff.1 hj).1
    have ht2 : (cur.toList.take (es.length * 3))[j]? = (ecells es)[j]? := by rw [ht]
    rw [List.getElem?_take, if_pos hjl, hj, Array.getElem?_toList] at ht2
    rw [Nat.zero_add, cell_of_row w g j _ _ (0, 0) hh, ht2]
theorem Es.first {w : World} {p : Option Addr} {n cap : Nat} {es : List Vt} (h : Es w (.slice p n cap) es) (k : Nat) (hk : k ≤ es.length) : n = es.length ∧ k ≤ cap ∧ Es w (.slice p k cap) (es.take k) := by
  obtain ⟨p', cap', b, o, h1, h2, h3, h4, h5, h6⟩ := h
  simp only [Value.slice.injEq] at h1
  obtain ⟨rfl, rfl, rfl⟩ := h1
  refine ⟨rfl, by omega, p, cap, b, o, by rw [List.length_take, Nat.min_eq_left hk], by rw [List.length_take]; omega, h3, fun hne => h4 (by rintro rfl; simp at hne), fun j u hj => h5 j u ?_, fun e => ⟨by rw [(h6 e).1]; simp, (h6 e).2⟩⟩
  have e : ecells es = ecells (es.take k) ++ ecells (es.drop k) := by rw [← ecells_app, List.take_append_drop]
  rw [e, List.getElem?_append_left (List.getElem?_eq_some_iff.1 hj).1]
  exact hj
end Go.Proofs.Ytpmakigmhcjegaa.Vw
