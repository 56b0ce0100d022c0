/-
  Small laws on memory, on rows of a call's own, on slices of bytes; and of the walk for a block that is known whole. The walks of wire.shiftedByByte and wire.Check: the check sum of parts. The walk of wire.Next. Fields as bytes: what an Out is; the walks of its Num, Int and Bytes. The walks of (*wire.Out).Int and Bytes, and wire.Read. The walk of awake: answers that the document fixes. Names: what the document says of them, and the tests of the program and of the reference (as of layer 4). No byte taken; the walk of (*wire.In).Text. Append of a string's bytes, and where the row then lies; the walks of (*wire.Out).Text and Flag. The walk of (*wire.In).Digest, where nothing was wrong yet. The walks of the reference's In: bad, Left, Flag. The walk of the reference's Flag.
-/
import Derived.Test.YtiijlnlkhpneaaaRows
import Derived.WalkKit
import Derived.WalkSpells
import Derived.WalkLawsBesides
import Derived.Deep.AppendLies
import Derived.Deep.MidRow
import Derived.Deep.Light
import Derived.Laws.CopyOwn
import Derived.Laws.AppendOwnNone
import Derived.Laws.BytesArg
import Derived.Lib.Strings
import Derived.BigQuiet
import Derived.BigRegion
import Derived.Deep.RegionHeld3
import Derived.Lib.AppendZeros
import Derived.Deep.DrawnRows
import Derived.Maps.AppendAt
import Derived.Lib.SlBytesConst
import Derived.Lib.AppendStr
import Derived.Deep.RegionLaw
namespace Go.Proofs.Ytiijlnlkhpneaaa.Nd
open Go.RowKit
def u8v (n : Nat) : Value := .int .u8 (n : Int)
/-- block b of the world holds just these cells -/
def Row (w : World) (b : Nat) (vs : List Value) (t : TypeId) : Prop := w.heap[b]? = some (.cells vs.toArray t (0, 0))
theorem Row.cell {w : World} {b : Nat} {vs : List Value} {t : TypeId} (h : Row w b vs t) (j : Nat) : w.cell? ⟨b, j, none⟩ = vs[j]? := by
  rw [cell_of_row w b j _ t (0, 0) h]; simp
theorem Row.frozen {w : World} {b : Nat} {vs : List Value} {t : TypeId} (h : Row w b vs t) (j : Nat) : w.frozen? ⟨b, j, none⟩ = false := by
  unfold Row at h; simp [World.frozen?, h]
theorem Row.lt {w : World} {b : Nat} {vs : List Value} {t : TypeId} (h : Row w b vs t) : b < w.heap.size := by
  unfold Row at h
  exact (Array.getElem?_eq_some_iff.1 h).1
theorem Row.of_block {w w' : World} {b : Nat} {vs : List Value} {t : TypeId} (h : Row w b vs t) (hb : w'.heap[b]? = w.heap[b]?) : Row w' b vs t := by
  unfold Row at *; rw [hb]; exact h
theorem Row.drew {w : World} {b : Nat} {vs : List Value} {t : TypeId} (h : Row w b vs t) : Row w.drew b vs t := h
theorem Row.alloc {w : World} {b : Nat} {vs : List Value} {t : TypeId} (h : Row w b vs t) (o : Obj) : Row (w.alloc o) b vs t :=
  h.of_block (Below.heap_alloc _ _ _ h.lt)
theorem Row.new (w : World) (vs : List Value) (t : TypeId) : Row (w.alloc (.cells vs.toArray t)) w.heap.size vs t := heap_alloc_new w _
theorem Row.below {w w' : World} {b B : Nat} {vs : List Value} {t : TypeId} (h : Row w b vs t) (hb : Below B w w') (hB : b < B) : Row w' b vs t :=
  h.of_block (hb.block b hB)
theorem Row.grown {w w' : World} {b : Nat} {row : Option Nat} {vs : List Value} {t : TypeId} (h : Row w b vs t) (hb : w.grownBy w' row) (hB : some b ≠ row) : Row w' b vs t :=
  h.of_block (hb.block b h.lt hB)
theorem Row.set_same {w : World} {b : Nat} {vs : List Value} {t : TypeId} (h : Row w b vs t) (j : Nat) (v : Value) : Row (w.setCell ⟨b, j, none⟩ v) b (vs.set j v) t := by
  unfold Row at *
  simp only [World.setCell, Array.getElem?_modify, if_true, h]
  simp
theorem grownBy_trans {a b c : World} {row : Option Nat} (h : a.grownBy b row) (k : b.grownBy c row) : a.grownBy c row :=
  ⟨k.os.trans h.os, k.tape.trans h.tape, k.output.trans h.output, Nat.le_trans h.size k.size, fun i hi hne => (k.block i (Nat.lt_of_lt_of_le hi h.size) hne).trans (h.block i hi hne)⟩
theorem grownBy_refl (w : World) (row : Option Nat) : w.grownBy w row := ⟨rfl, rfl, rfl, Nat.le_refl _, fun _ _ _ => rfl⟩
theorem grownBy_setCell (w : World) (a : Addr) (v : Value) : w.grownBy (w.setCell a v) (some a.block) :=
  ⟨rfl, rfl, rfl, by simp [World.setCell], fun k _ hne => Below.heap_setCell _ _ _ _ (fun e => hne (by rw [e]))⟩
theorem below_of_grown {B : Nat} {a w w' : World} {row : Nat} (h : Below B a w) (hg : w.grownBy w' (some row)) (hB : B ≤ w.heap.size) (hr : B ≤ row) : Below B a w' :=
  h.grown hg hB (fun k e => by cases e; exact hr)
theorem grown_of_below {w w' : World} {row : Option Nat} (h : Below w.heap.size w w') : w.grownBy w' row := ⟨h.os, h.tape, h.output, h.size, fun k hk _ => h.block k hk⟩
theorem one_u8 (l : List Nat) : ∀ v ∈ l.map u8v, v.oneCell' = true := by
  intro v hv; simp only [List.mem_map] at hv; obtain ⟨n, _, rfl⟩ := hv; rfl
/-- a slice of bytes that lies in the world -/
structure Sl (w : World) (p : Option Addr) (bs : List Nat) (cap : Nat) (b off : Nat) : Prop where
  lt : ∀ x ∈ bs, x < 256
  cap1 : bs.length ≤ cap
  cap2 : cap ≤ 9223372036854775807
  at_ : 0 < bs.length → p = some ⟨b, off, none⟩
  src : ∀ j, j < bs.length → w.cell? ⟨b, off + j, none⟩ = some (u8v (bs.getD j 0))
theorem Sl.below {w w' : World} {p : Option Addr} {bs : List Nat} {cap b off : Nat} (h : Sl w p bs cap b off) (hb : Below w.heap.size w w') : Sl w' p bs cap b off :=
  ⟨h.lt, h.cap1, h.cap2, h.at_, fun j hj => by rw [hb.cell (World.block_lt_of_cell? w _ (h.src j hj))]; exact h.src j hj⟩
end Go.Proofs.Ytiijlnlkhpneaaa.Nd
namespace Go.Proofs.Ytiijlnlkhpneaaa.Nd.Wire
/-- one bit goes -/
def step (x : Nat) : Nat := if x % 2 = 1 then (x / 2) ^^^ 3988292384 else x / 2
def steps : Nat → Nat → Nat
  | 0, x => x
  | k + 1, x => step (steps k x)
/-- one byte comes -/
def byte (s b : Nat) : Nat := steps 8 (s ^^^ b)
def run (s : Nat) (bs : List Nat) : Nat := bs.foldl byte s
def val (b : List Nat) : Nat := b.getD 0 0 + b.getD 1 0 * 256 + b.getD 2 0 * 65536 + b.getD 3 0 * 16777216
end Go.Proofs.Ytiijlnlkhpneaaa.Nd.Wire
namespace Go.Proofs.Ytiijlnlkhpneaaa.Nd
open Go.RowKit
/-- a slice of bytes among several: where it lies, its bytes -/
structure Part where
  p : Option Addr
  bs : List Nat
  cap : Nat
  b : Nat
  off : Nat
def Part.val (x : Part) : Value := .slice x.p x.bs.length x.cap
def Part.ok (w : World) (x : Part) : Prop := Sl w x.p x.bs x.cap x.b x.off
/-- slices of bytes that lie one behind the other -/
structure Parts (w : World) (pb po : Nat) (ps : List Part) : Prop where
  at_ : ∀ i x, ps[i]? = some x → w.cell? ⟨pb, po + i, none⟩ = some x.val
  ok : ∀ x ∈ ps, x.ok w
  no : ∀ x ∈ ps, x.p = none → x.bs.length = 0 ∧ x.cap = 0
theorem Parts.below {w w' : World} {pb po : Nat} {ps : List Part} (h : Parts w pb po ps) (hb : Below w.heap.size w w') : Parts w' pb po ps :=
  ⟨fun i x hx => by rw [hb.cell (World.block_lt_of_cell? w _ (h.at_ i x hx))]; exact h.at_ i x hx, fun x hx => (h.ok x hx).below hb, h.no⟩
theorem Sl.grown {w w' : World} {p : Option Addr} {bs : List Nat} {cap b off : Nat} {row : Option Nat} (h : Sl w p bs cap b off) (hb : w.grownBy w' row) (hne : 0 < bs.length → some b ≠ row) : Sl w' p bs cap b off :=
  ⟨h.lt, h.cap1, h.cap2, h.at_, fun j hj => hb.cell (h.src j hj) (hne (by omega))⟩
theorem own_below {w w' : World} {B : Nat} {v : Value} {n : Nat} {xs : List Value} (h : w.ownsRow B 5 1 v n xs) (hb : Below w.heap.size w w') : w'.ownsRow B 5 1 v n xs := by
  refine h.kept (grown_of_below (row := none) hb) ?_
  cases v.ownBlock <;> simp
end Go.Proofs.Ytiijlnlkhpneaaa.Nd
namespace Go.Proofs.Ytiijlnlkhpneaaa.Nd
open Go.RowKit
theorem hid_in {p : Prop} (h : p) : Hid p := h
/-- a part of a slice of bytes -/
theorem Sl.part {w : World} {p : Option Addr} {bs : List Nat} {cap b off : Nat} (h : Sl w p bs cap b off) (n m c : Nat) (hnm : n + m ≤ bs.length) (hc : m ≤ c) (hc2 : c ≤ 9223372036854775807) : Sl w (some ⟨b, off + n, none⟩) ((bs.drop n).take m) c b (off + n) :=
  ⟨fun x hx => h.lt x (List.mem_of_mem_drop (List.mem_of_mem_take hx)), by simp; omega, hc2, fun _ => rfl, fun j hj => by
    have hj' : j < m := by simp at hj; omega
    rw [Nat.add_assoc, h.src (n + j) (by omega)]
    simp [hj']⟩
end Go.Proofs.Ytiijlnlkhpneaaa.Nd
namespace Go.Proofs.Ytiijlnlkhpneaaa.Nd
open Go.RowKit
/-- the world has grown; of its blocks only those in S may have turned -/
structure Grew (w w' : World) (S : Nat → Prop) : Prop where
  os : w'.os = w.os
  tape : w'.tape = w.tape
  output : w'.output = w.output
  size : w.heap.size ≤ w'.heap.size
  block : ∀ k, k < w.heap.size → ¬ S k → w'.heap[k]? = w.heap[k]?
theorem Grew.refl (w : World) (S : Nat → Prop) : Grew w w S := ⟨rfl, rfl, rfl, Nat.le_refl _, fun _ _ _ => rfl⟩
theorem Grew.trans {a b c : World} {S T : Nat → Prop} (h : Grew a b S) (k : Grew b c T) (hT : ∀ q, q < a.heap.size → T q → S q) : Grew a c S :=
  ⟨k.os.trans h.os, k.tape.trans h.tape, k.output.trans h.output, Nat.le_trans h.size k.size, fun q hq hS => (k.block q (Nat.lt_of_lt_of_le hq h.size) (fun hT' => hS (hT q hq hT'))).trans (h.block q hq hS)⟩
theorem Grew.mono {a b : World} {S T : Nat → Prop} (h : Grew a b S) (hT : ∀ q, S q → T q) : Grew a b T := ⟨h.os, h.tape, h.output, h.size, fun q hq hn => h.block q hq (fun hs => hn (hT q hs))⟩
theorem Grew.of_grown {w w' : World} {row : Option Nat} (h : w.grownBy w' row) : Grew w w' (fun k => some k = row) := ⟨h.os, h.tape, h.output, h.size, fun k hk hn => h.block k hk hn⟩
theorem Grew.of_below {w w' : World} (S : Nat → Prop) (h : Below w.heap.size w w') : Grew w w' S := ⟨h.os, h.tape, h.output, h.size, fun k hk _ => h.block k hk⟩
theorem Grew.below {a w w' : World} {S : Nat → Prop} {B : Nat} (h : Grew w w' S) (hb : Below B a w) (hB : B ≤ w.heap.size) (hS : ∀ k, S k → B ≤ k) : Below B a w' :=
  ⟨h.os.trans hb.os, h.tape.trans hb.tape, h.output.trans hb.output, Nat.le_trans hb.size h.size, fun k hk => (h.block k (by omega) (fun hs => by have := hS k hs; omega)).trans (hb.block k hk)⟩
/-- the Out at block g has made the bytes xs; its row is v -/
structure OutIs (w : World) (B g : Nat) (v : Value) (xs : List Nat) : Prop where
  row : Row w g [v] 67
  own : w.ownsRow B 5 1 v xs.length (xs.map u8v)
  apart : v.ownBlock ≠ some g
  base : B ≤ w.heap.size
  lt : ∀ x ∈ xs, x < 256
/-- where a row lies behind a call -/
def Moved (w : World) (v v' : Value) : Prop := v'.ownBlock = v.ownBlock ∨ ∃ q, v'.ownBlock = some q ∧ w.heap.size ≤ q
theorem Moved.refl (w : World) (v : Value) : Moved w v v := .inl rfl
theorem Moved.trans {a b : World} {u v x : Value} (h : Moved a u v) (k : Moved b v x) (hs : a.heap.size ≤ b.heap.size) : Moved a u x := by
  rcases k with k | ⟨q, k, hq⟩
  · rcases h with h | ⟨q, h, hq⟩
    · exact .inl (k.trans h)
    · exact .inr ⟨q, k.trans h, hq⟩
  · exact .inr ⟨q, k, by omega⟩
namespace Wire
def numF : Nat → Nat → List Nat
  | 0, n => [n]
  | k + 1, n => if n < 128 then [n] else (n % 128 + 128) :: numF k (n / 128)
/-- a number's bytes -/
def num (n : Nat) : List Nat := numF 9 n
end Wire
end Go.Proofs.Ytiijlnlkhpneaaa.Nd
namespace Go.Proofs.Ytiijlnlkhpneaaa.Nd
open Go.RowKit
namespace Wire
end Wire
/-- the In at block g has still to read the bytes bs; what was wrong is e -/
structure InIs (B : Nat) (w : World) (g : Nat) (bs : List Nat) (e : Nat) : Prop where
  ex : ∃ p cap b off, Row w g [.slice p bs.length cap, .int .i64 (e : Int)] 93 ∧ Sl w p bs cap b off ∧ (p = none → bs.length = 0 ∧ cap = 0) ∧ (0 < bs.length → b ≠ g ∧ b < B)
end Go.Proofs.Ytiijlnlkhpneaaa.Nd
namespace Go.Proofs.Ytiijlnlkhpneaaa.Nd
open Go.RowKit
theorem OutIs.below {w w' : World} {B g : Nat} {v : Value} {xs : List Nat} (h : OutIs w B g v xs) (hb : Below w.heap.size w w') : OutIs w' B g v xs :=
  ⟨h.row.below hb h.row.lt, own_below h.own hb, h.apart, Nat.le_trans h.base hb.size, h.lt⟩
theorem InIs.below {B : Nat} {w w' : World} {g e : Nat} {bs : List Nat} (h : InIs B w g bs e) (hb : Below w.heap.size w w') : InIs B w' g bs e := by
  obtain ⟨p, cap, b, off, hr, hsl, hno, hne⟩ := h.ex
  exact ⟨p, cap, b, off, hr.below hb hr.lt, hsl.below hb, hno, hne⟩
end Go.Proofs.Ytiijlnlkhpneaaa.Nd
namespace Go.Proofs.Ytiijlnlkhpneaaa.Nd
open Go.RowKit
/-- a text's bytes -/
abbrev Str := List UInt8
def bl (s : ByteArray) : Str := s.data.toList
/-- may a byte stand in a name? -/
def plainN (n : Nat) : Prop := (97 ≤ n ∧ n ≤ 122) ∨ (65 ≤ n ∧ n ≤ 90) ∨ (48 ≤ n ∧ n ≤ 57) ∨ n = 46 ∨ n = 95 ∨ n = 45
instance (n : Nat) : Decidable (plainN n) := by unfold plainN; infer_instance
/-- may a byte stand in a name? -/
def plain (c : UInt8) : Bool := decide (plainN c.toNat)
def isNameS (x : Str) : Bool := !(x == []) && !(x == [46]) && !(x == [46, 46]) && decide (x.length ≤ 16) && x.all plain
end Go.Proofs.Ytiijlnlkhpneaaa.Nd
namespace Go.Proofs.Ytiijlnlkhpneaaa.Nd
open Go.RowKit
theorem slice_to0 (p : Option Addr) (L C : Nat) (w : World) : (Instr.slice 50 (.slice p L C) none (some (.int .i64 0)) none).run Try.prog w = .ok (.slice p 0 C) w := by
  have ht : Try.prog.underlying 50 = some (.slice (Try.prog.elem 50)) := by kernel_rfl
  have he : Try.prog.elem 50 = 5 := by kernel_rfl
  have hsz : (sizeOf 5).run Try.prog w = .ok 1 w := by kernel_rfl
  rw [run_slice_h w 50 p L C ht .i64 0 (by omega) (by omega), he, hsz]
  rcases p with _ | ⟨b, o, s⟩ <;> simp [sliced, Addr.add]
theorem slice_from0 (p : Option Addr) (L C : Nat) (w : World) : (Instr.slice 50 (.slice p L C) (some (.int .i64 0)) none none).run Try.prog w = .ok (.slice p L C) w := by
  have ht : Try.prog.underlying 50 = some (.slice (Try.prog.elem 50)) := by kernel_rfl
  have he : Try.prog.elem 50 = 5 := by kernel_rfl
  have hsz : (sizeOf 5).run Try.prog w = .ok 1 w := by kernel_rfl
  rw [run_slice_l w 50 p L C ht .i64 0 (by omega) (by omega), he, hsz]
  rcases p with _ | ⟨b, o, s⟩ <;> simp [sliced, Addr.add]
set_option maxHeartbeats 400000 in
/-- none of the bytes -/
theorem take_zero {B : Nat} (w : World) (g : Nat) (bs : List Nat) (hi : InIs B w g bs 0) :
    Calls Try.prog 58 #[.pointer (some ⟨g, 0, none⟩), .int .i64 0] w fun r w' => ∃ p cap, r = .returned (.tuple #[.slice p 0 cap, .bool true]) ∧ InIs B w' g bs 0 ∧ w.grownBy w' (some g) ∧ w'.heap.size = w.heap.size := by
  obtain ⟨p, cap, b, off, hr, hsl, hno, hne⟩ := hi.ex
  have c0 : w.cell? ⟨g, 0, none⟩ = some (.slice p bs.length cap) := hr.cell 0
  have c1 : w.cell? ⟨g, 1, none⟩ = some (.int .i64 0) := hr.cell 1
  have f0 := hr.frozen 0
  have HR := hid_in hr
  have HSL := hid_in hsl
  have HNO := hid_in hno
  have HNE := hid_in hne
  have k1 : (0 : Int) ≤ (bs.length : Int) := by omega
  have hs1 := slice_to0 p bs.length cap
  have hs2 := slice_from0 p bs.length cap
  clear hi hr hsl hno hne
  go_enter Try.func58, Try.ntmps58
  go_wp2
  go_ret2
  have hg := grownBy_setCell w ⟨g, 0, none⟩ (.slice p bs.length cap)
  refine ⟨p, cap, rfl, ⟨p, cap, b, off, HR.out.set_same 0 _, HSL.out.grown hg (fun h => by simpa using (HNE.out h).1), HNO.out, HNE.out⟩, hg, by simp [World.setCell]⟩
end Go.Proofs.Ytiijlnlkhpneaaa.Nd
namespace Go.Proofs.Ytiijlnlkhpneaaa.Nd
open Go.RowKit
/-- a string's bytes, as numbers -/
def bytesS (s : ByteArray) : List Nat := s.data.toList.map (·.toNat)
end Go.Proofs.Ytiijlnlkhpneaaa.Nd
namespace Go.Proofs.Ytiijlnlkhpneaaa.Nd
open Go.RowKit
/-- a part of a slice of bytes from a place on -/
theorem Sl.rest {w : World} {p q : Option Addr} {bs : List Nat} {cap b off : Nat} (h : Sl w p bs cap b off) (n : Nat) (hn : n ≤ bs.length) (hq : n < bs.length → q = some ⟨b, off + n, none⟩) : Sl w q (bs.drop n) (cap - n) b (off + n) :=
  ⟨fun x hx => h.lt x (List.mem_of_mem_drop hx), by have := h.cap1; simp; omega, by have := h.cap2; omega, fun h0 => hq (by simp at h0; omega), fun j hj => by
    have hj' : n + j < bs.length := by simp at hj; omega
    rw [Nat.add_assoc, h.src (n + j) hj']
    simp⟩
end Go.Proofs.Ytiijlnlkhpneaaa.Nd
namespace Go.Proofs.Ytiijlnlkhpneaaa.Nd
open Go.RowKit
/-- the same, its bytes in a block below B -/
def InB (w : World) (g : Nat) (bs : List Nat) (e B : Nat) : Prop :=
  ∃ p cap b off, Row w g [.slice p bs.length cap, .int .i64 (e : Int)] 93 ∧ Sl w p bs cap b off ∧ (p = none → bs.length = 0 ∧ cap = 0) ∧ (0 < bs.length → b ≠ g ∧ b < B)
theorem InIs.toB {B : Nat} {w : World} {g e : Nat} {bs : List Nat} (h : InIs B w g bs e) : InB w g bs e B := h.ex
theorem InB.is {w : World} {g e B : Nat} {bs : List Nat} (h : InB w g bs e B) : InIs B w g bs e := ⟨h⟩
theorem InB.below {w w' : World} {g e B : Nat} {bs : List Nat} (h : InB w g bs e B) (hb : Below w.heap.size w w') : InB w' g bs e B := by
  obtain ⟨p, cap, b, off, hr, hsl, hno, hne⟩ := h
  exact ⟨p, cap, b, off, hr.below hb hr.lt, hsl.below hb, hno, hne⟩
/-- a block from B on is changed -/
theorem InB.grown {w w' : World} {g e B k : Nat} {bs : List Nat} (h : InB w g bs e B) (hg : w.grownBy w' (some k)) (hk : B ≤ k) (hgk : g ≠ k) : InB w' g bs e B := by
  obtain ⟨p, cap, b, off, hr, hsl, hno, hne⟩ := h
  exact ⟨p, cap, b, off, hr.grown hg (by simpa using hgk), hsl.grown hg (fun h0 => by have := (hne h0).2; simp; omega), hno, hne⟩
end Go.Proofs.Ytiijlnlkhpneaaa.Nd
namespace Go.Proofs.Ytiijlnlkhpneaaa.Nd
open Go.RowKit
/-- the reference's In at block g reads the bytes bs, and stands at k; what was wrong is e -/
structure RIs (B : Nat) (w : World) (g : Nat) (t : TypeId) (bs : List Nat) (k e : Nat) : Prop where
  ex : ∃ p cap b off, Row w g [.slice p bs.length cap, .int .i64 (k : Int), .int .i64 (e : Int)] t ∧ Sl w p bs cap b off ∧ (0 < bs.length → b ≠ g ∧ b < B)
  le : k ≤ bs.length
theorem RIs.len {B : Nat} {w : World} {g : Nat} {t : TypeId} {bs : List Nat} {k e : Nat} (h : RIs B w g t bs k e) : bs.length ≤ 9223372036854775807 := by
  obtain ⟨p, cap, b, off, hr, hsl, hne⟩ := h.ex
  have := hsl.cap1
  have := hsl.cap2
  omega
end Go.Proofs.Ytiijlnlkhpneaaa.Nd
namespace Go.Proofs.Ytiijlnlkhpneaaa.Nd
open Go.RowKit
theorem RIs.drew {B : Nat} {w : World} {g : Nat} {t : TypeId} {bs : List Nat} {k e : Nat} (h : RIs B w g t bs k e) : RIs B w.drew g t bs k e := by
  obtain ⟨p, cap, b, off, hr, hsl, hne⟩ := h.ex
  exact ⟨⟨p, cap, b, off, hr.drew, ⟨hsl.lt, hsl.cap1, hsl.cap2, hsl.at_, hsl.src⟩, hne⟩, h.le⟩
end Go.Proofs.Ytiijlnlkhpneaaa.Nd
