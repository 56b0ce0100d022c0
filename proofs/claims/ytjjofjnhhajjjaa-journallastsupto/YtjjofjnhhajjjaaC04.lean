/-
  The walk of the reference's Digest. Nodes as the document has them: when one is right, its bytes; slices of cells in the world. The walk of areItems. The walks of isRight and of node.Check. Fields that are read, by states: what is still to be read and what was wrong; node.number. What a node reads as; the walk of node.read. The walk of node.Decode. Fields that are written; the walks of writeParts and writeItems. The walk of node.Encode.
-/
import Derived.Deep.Cut
import Derived.Laws.CopyOwn
import Derived.Deep.RegionLaw
import Derived.Deep.DrawnRows
import Derived.Deep.RegionHeld3
import Derived.Deep.CutRange
import Derived.Laws.Tables
import Derived.OwnWalk
import Derived.Test.YtjjofjnhhajjjaaC00
import Derived.Test.YtjjofjnhhajjjaaC01
import Derived.Test.YtjjofjnhhajjjaaC02
import Derived.Test.YtjjofjnhhajjjaaC03
namespace Go.Proofs.Ytjjofjnhhajjjaa.Nd
open Go.RowKit
theorem wp_world {P : Program} {c : Code} {Q : Exit → Act → World → Prop} {a : Act} {W W' : World} (h : W = W') (k : Code.wp P c Q a W') : Code.wp P c Q a W := h ▸ k
/-- the reference's In with its bytes in a block below B -/
def RB (w : World) (g : Nat) (t : TypeId) (bs : List Nat) (k e B : Nat) : Prop :=
  ∃ p cap b off, Row w g [.slice p bs.length cap, .int .i64 (k : Int), .int .i64 (e : Int)] t ∧ Sl w p bs cap b off ∧ (0 < bs.length → b ≠ g ∧ b < B)
theorem RIs.toB {B : Nat} {w : World} {g : Nat} {t : TypeId} {bs : List Nat} {k e : Nat} (h : RIs B w g t bs k e) : RB w g t bs k e B := h.ex
theorem RB.is {w : World} {g : Nat} {t : TypeId} {bs : List Nat} {k e B : Nat} (h : RB w g t bs k e B) (hk : k ≤ bs.length) : RIs B w g t bs k e := by
  exact ⟨h, hk⟩
theorem RB.below {w w' : World} {g : Nat} {t : TypeId} {bs : List Nat} {k e B : Nat} (h : RB w g t bs k e B) (hb : Below w.heap.size w w') : RB w' g t bs k e B := by
  obtain ⟨p, cap, b, off, hr, hsl, hne⟩ := h
  exact ⟨p, cap, b, off, hr.below hb hr.lt, hsl.below hb, hne⟩
theorem RB.grown {w w' : World} {g : Nat} {t : TypeId} {bs : List Nat} {k e B q : Nat} (h : RB w g t bs k e B) (hg : w.grownBy w' (some q)) (hk : B ≤ q) (hgk : g ≠ q) : RB w' g t bs k e B := by
  obtain ⟨p, cap, b, off, hr, hsl, hne⟩ := h
  exact ⟨p, cap, b, off, hr.grown hg (by simpa using hgk), hsl.grown hg (fun h0 => by have := (hne h0).2; simp; omega), hne⟩
theorem RB.drew {w : World} {g : Nat} {t : TypeId} {bs : List Nat} {k e B : Nat} (h : RB w g t bs k e B) : RB w.drew g t bs k e B := by
  obtain ⟨p, cap, b, off, hr, hsl, hne⟩ := h
  exact ⟨p, cap, b, off, hr.drew, ⟨hsl.lt, hsl.cap1, hsl.cap2, hsl.at_, hsl.src⟩, hne⟩
end Go.Proofs.Ytjjofjnhhajjjaa.Nd
namespace Go.Proofs.Ytjjofjnhhajjjaa.Nd
open Go.RowKit
/-- a directory's item -/
structure It where
  name : ByteArray
  kind : Int
  sum : List Nat
/-- a node -/
structure Nd where
  kind : Int
  data : ByteArray
  size : Int
  parts : List (List Nat)
  items : List It
def It.cells (x : It) : List Value := .string x.name :: .int .i64 x.kind :: x.sum.map u8v
def dcells (d : List Nat) : List Value := d.map u8v
/-- 32 bytes -/
def Dg (d : List Nat) : Prop := d.length = 32 ∧ ∀ x ∈ d, x < 256
def i64 (n : Int) : Prop := -9223372036854775808 ≤ n ∧ n ≤ 9223372036854775807
structure It.ok (x : It) : Prop where
  sum : Dg x.sum
  kind : i64 x.kind
structure Nd.ok (n : Nd) : Prop where
  parts : ∀ d ∈ n.parts, Dg d
  items : ∀ x ∈ n.items, x.ok
  kind : i64 n.kind
  size : i64 n.size
def zeroN : Nd := ⟨0, ByteArray.empty, 0, [], []⟩
/-- a slice whose elements have k cells each -/
structure Els (w : World) (v : Value) (k : Nat) (xs : List (List Value)) : Prop where
  ex : ∃ p cap b o, v = .slice p xs.length cap ∧ xs.length ≤ cap ∧ cap ≤ 9223372036854775807 ∧ (xs ≠ [] → p = some ⟨b, o, none⟩ ∧ b < w.heap.size) ∧ ∀ (i : Nat) us, xs[i]? = some us → w.rangeAt b (o + i * k) us
  each : ∀ us ∈ xs, us.length = k
theorem rangeAt_below {w w' : World} {B b o : Nat} {cs : List Value} (h : w.rangeAt b o cs) (hb : Below B w w') (hlt : b < B) : w'.rangeAt b o cs := fun j v hv => by
  rw [hb.cell (p := ⟨b, o + j, none⟩) hlt]; exact h j v hv
theorem Els.below {w w' : World} {v : Value} {k : Nat} {xs : List (List Value)} (h : Els w v k xs) (hb : Below w.heap.size w w') : Els w' v k xs := by
  obtain ⟨p, cap, b, o, rfl, h1, h2, h3, h4⟩ := h.ex
  refine ⟨⟨p, cap, b, o, rfl, h1, h2, fun hne => ⟨(h3 hne).1, Nat.lt_of_lt_of_le (h3 hne).2 hb.size⟩, fun i us hi => ?_⟩, h.each⟩
  have hne : xs ≠ [] := by rintro rfl; simp at hi
  exact rangeAt_below (h4 i us hi) hb (h3 hne).2
theorem Els.grown {w w' : World} {v : Value} {k z : Nat} {xs : List (List Value)} (h : Els w v k xs) (hg : w.grownBy w' (some z)) (hz : ∀ q, v.ownBlock = some q → q ≠ z) : Els w' v k xs := by
  obtain ⟨p, cap, b, o, rfl, h1, h2, h3, h4⟩ := h.ex
  refine ⟨⟨p, cap, b, o, rfl, h1, h2, fun hne => ⟨(h3 hne).1, Nat.lt_of_lt_of_le (h3 hne).2 hg.size⟩, fun i us hi => ?_⟩, h.each⟩
  have hne : xs ≠ [] := by rintro rfl; simp at hi
  have hbz : b ≠ z := hz b (by rw [(h3 hne).1]; rfl)
  intro j u hu
  rw [World.cell?_of_block (a := ⟨b, o + i * k + j, none⟩) (hg.block b (h3 hne).2 (by simpa using hbz))]
  exact h4 i us hi j u hu
theorem Els.nil (w : World) (k : Nat) : Els w (.slice none 0 0) k [] :=
  ⟨⟨none, 0, 0, 0, rfl, Nat.le_refl _, by decide, fun h => absurd rfl h, fun i us h => by simp at h⟩, fun us h => by cases h⟩
/-- the value of a node that lies in the world -/
structure IsN (w : World) (v : Value) (n : Nd) : Prop where
  ex : ∃ vp vi, v = .agg #[.int .i64 n.kind, .string n.data, .int .i64 n.size, vp, vi] ∧ Els w vp 32 (n.parts.map dcells) ∧ Els w vi 34 (n.items.map It.cells)
  ok : n.ok
theorem IsN.below {w w' : World} {v : Value} {n : Nd} (h : IsN w v n) (hb : Below w.heap.size w w') : IsN w' v n := by
  obtain ⟨vp, vi, h1, h2, h3⟩ := h.ex
  exact ⟨⟨vp, vi, h1, h2.below hb, h3.below hb⟩, h.ok⟩
/-- does the first text come behind the second, or is it the same? -/
def geS (a b : ByteArray) : Bool := !Op.bytesLess a.toList b.toList
def itemOk (x : It) : Bool := (x.kind == 2 || x.kind == 3) && isNameS (bl x.name)
def okAt (l : List It) (i : Nat) : Prop := ∀ x, l[i]? = some x → itemOk x = true ∧ (0 < i → ∀ y, l[i - 1]? = some y → geS y.name x.name = false)
def itemsOk (l : List It) : Prop := l.length ≤ 64 ∧ ∀ i, i < l.length → okAt l i
def pieces (n : Int) : Nat := ((n + 63) / 64).toNat
def right (n : Nd) : Prop :=
  (n.kind = 1 ∧ 1 ≤ n.data.size ∧ n.data.size ≤ 64 ∧ n.size = 0 ∧ n.parts = [] ∧ n.items = []) ∨
  (n.kind = 2 ∧ n.data.size = 0 ∧ 0 ≤ n.size ∧ n.size ≤ 1024 ∧ n.parts.length = pieces n.size ∧ n.items = []) ∨
  (n.kind = 3 ∧ n.data.size = 0 ∧ n.size = 0 ∧ n.parts = [] ∧ itemsOk n.items)
def It.bytes (x : It) : List Nat := Wire.num x.name.size ++ bytesS x.name ++ Wire.num x.kind.toNat ++ x.sum
/-- the bytes of a right node -/
def enc (n : Nd) : List Nat :=
  Wire.num n.kind.toNat ++ (if n.kind = 1 then Wire.num n.data.size ++ bytesS n.data else if n.kind = 2 then Wire.num n.size.toNat ++ n.parts.flatten else Wire.num n.items.length ++ n.items.flatMap It.bytes)
/-- a digest that is read: what it is, what is left, what is wrong -/
def rdigest (bs : List Nat) : List Nat × List Nat × Nat := if bs.length < 32 then (List.replicate 32 0, [], 20) else (bs.take 32, bs.drop 32, 0)
/-- what is still to be read, and what was wrong -/
abbrev Sta := List Nat × Nat
def sNum (s : Sta) : Nat × Sta := if s.2 = 0 then Wire.rnum s.1 else (0, s)
def sText (m : Nat) (s : Sta) : List Nat × Sta := if s.2 = 0 then Wire.rtext (m : Int) s.1 else ([], s)
def sDig (s : Sta) : List Nat × Sta := if s.2 = 0 then rdigest s.1 else (List.replicate 32 0, s)
def sParts : Nat → Sta → List (List Nat) × Sta
  | 0, s => ([], s)
  | c + 1, s => ((sParts c s).1 ++ [(sDig (sParts c s).2).1], (sDig (sParts c s).2).2)
def sItem (cut : Nat → Nat) (s : Sta) : It × Sta :=
  let a := sText 16 s
  let b := sNum a.2
  let c := sDig b.2
  (⟨str a.1, (cut b.1 : Int), c.1⟩, c.2)
def sItems (cut : Nat → Nat) : Nat → Sta → List It × Sta
  | 0, s => ([], s)
  | c + 1, s => ((sItems cut c s).1 ++ [(sItem cut (sItems cut c s).2).1], (sItem cut (sItems cut c s).2).2)
end Go.Proofs.Ytjjofjnhhajjjaa.Nd
namespace Go.Proofs.Ytjjofjnhhajjjaa.Nd
open Go.RowKit
/-- a value is stored into a block that was just laid -/
theorem wpList_store_new {ops : Array Oper} {rest : List Oper} {op : Oper} {a : Act} {w : World} {Q : Exit → Act → World → Prop} (hgd : op.guard = none) (hd : op.dst = none) (t : TypeId) (k : Nat) (x y : Operand) (ho : op.op = .store t x y) (C : Array Value) (V : List Value) (hi : (Try.prog.info? t).map (·.size) = some k) (hC : C.size = k) (hV : Hid (V.length = k)) (h1 : Hid (∀ v ∈ V, v.oneCell' = true))
    (hx : a.eval x = .pointer (some ⟨w.heap.size, 0, none⟩)) (hy : a.eval y = .agg V.toArray) (h : ∀ w', Row w' w.heap.size V t → Below w.heap.size w w' → w'.heap.size = w.heap.size + 1 → wpList Try.prog ops Q rest a w') : wpList Try.prog ops Q (op :: rest) a (w.alloc (.cells C t)) := by
  have e : C = C.toList.toArray := rfl
  rw [e]
  refine wpList_store_Row hgd t x y ho w.heap.size 0 V hx hy t C.toList (Row.newAt w _ C.toList t rfl) k hi hV.out (by simp; omega) h1.out ?_
  intro w' hr hg hs
  rw [splice_all _ _ (by rw [hV.out]; simp; omega)] at hr
  have e2 : a.put op.dst undef = a := by rw [hd]; rfl
  rw [e2]
  exact h w' hr (below_of_grown ((Below.refl _ _).alloc (Nat.le_refl _) _) hg (by simp) (Nat.le_refl _)) (by rw [hs]; simp)
theorem below_drewN {B : Nat} {a w : World} (h : Below B a w) (n : Nat) : Below B a (w.drewN n) :=
  ⟨h.os, h.tape, h.output, by simpa using h.size, fun k hk => by simpa using h.block k hk⟩
/-- a call says whether P -/
def Says (e : Ending) (P : Prop) : Prop := ∃ R, e = .returned (.bool R) ∧ (R = true ↔ P)
theorem Says.no {e : Ending} {P : Prop} (h : e = .returned (.bool false)) (hp : ¬ P) : Says e P := ⟨false, h, ⟨fun h => (by cases h), fun h => absurd h hp⟩⟩
theorem Says.yes {e : Ending} {P : Prop} (h : e = .returned (.bool true)) (hp : P) : Says e P := ⟨true, h, ⟨fun _ => hp, fun _ => rfl⟩⟩
theorem Says.cases {e : Ending} {P : Prop} (h : Says e P) : (e = .returned (.bool true) ∧ P) ∨ (e = .returned (.bool false) ∧ ¬ P) := by
  obtain ⟨R, h1, h2⟩ := h
  cases R
  · exact .inr ⟨h1, fun h => by cases h2.2 h⟩
  · exact .inl ⟨h1, h2.1 rfl⟩
theorem It.one (x : It) : ∀ v ∈ x.cells, v.oneCell' = true := by
  intro v hv
  simp only [It.cells, List.mem_cons] at hv
  rcases hv with rfl | rfl | hv
  · rfl
  · rfl
  · exact one_u8 _ v hv
/-- an element of a slice of items -/
theorem Els.item {w : World} {l : List It} {b o : Nat} (h : ∀ (i : Nat) us, (l.map It.cells)[i]? = some us → w.rangeAt b (o + i * 34) us) {i : Nat} {x : It} (hx : l[i]? = some x) : w.rangeAt b (o + i * 34) x.cells := h i x.cells (by simp [hx])
/-- k cells lie there -/
def has (k : Nat) (w : World) (b o : Nat) : Prop := ∀ j, j < k → (w.cell? ⟨b, o + j, none⟩).isSome = true
def cellsAt (k : Nat) (w : World) (b o : Nat) : List Value := (List.range k).map fun j => (w.cell? ⟨b, o + j, none⟩).getD undef
def ptrB : Value → Nat
  | .pointer (some a) => a.block
  | _ => 0
def ptrO : Value → Nat
  | .pointer (some a) => a.off
  | _ => 0
theorem ptrB_pointer (a : Addr) : ptrB (.pointer (some a)) = a.block := by simp only [ptrB]
theorem ptrO_pointer (a : Addr) : ptrO (.pointer (some a)) = a.off := by simp only [ptrO]
theorem has_drewN (k : Nat) (w : World) (b o n : Nat) : has k (w.drewN n) b o = has k w b o := by simp [has]
theorem cellsAt_drewN (k : Nat) (w : World) (b o n : Nat) : cellsAt k (w.drewN n) b o = cellsAt k w b o := by simp [cellsAt]
theorem has_drew (k : Nat) (w : World) (b o : Nat) : has k w.drew b o = has k w b o := rfl
theorem cellsAt_drew (k : Nat) (w : World) (b o : Nat) : cellsAt k w.drew b o = cellsAt k w b o := rfl
attribute [local go_sem] has_drewN cellsAt_drewN has_drew cellsAt_drew ptrB_pointer ptrO_pointer
end Go.Proofs.Ytjjofjnhhajjjaa.Nd
namespace Go.Proofs.Ytjjofjnhhajjjaa.Nd
open Go.RowKit
/-- how long the texts of a node are -/
def Nd.short (n : Nd) : Prop := n.data.size ≤ 9223372036854775807 ∧ ∀ x ∈ n.items, x.name.size ≤ 9223372036854775807
theorem Says.mono {e : Ending} {P Q : Prop} (h : Says e P) (hpq : P ↔ Q) : Says e Q := by
  obtain ⟨R, h1, h2⟩ := h
  exact ⟨R, h1, h2.trans hpq⟩
end Go.Proofs.Ytjjofjnhhajjjaa.Nd
namespace Go.Proofs.Ytjjofjnhhajjjaa.Nd
open Go.RowKit
theorem InIs.lt {B : Nat} {w : World} {g e : Nat} {bs : List Nat} (h : InIs B w g bs e) : ∀ x ∈ bs, x < 256 := by
  obtain ⟨_, _, _, _, _, hsl, _⟩ := h.ex
  exact hsl.lt
theorem InIs.blk {B : Nat} {w : World} {g e : Nat} {bs : List Nat} (h : InIs B w g bs e) : g < w.heap.size := by
  obtain ⟨_, _, _, _, hr, _⟩ := h.ex
  exact hr.lt
/-- the In at block g is in state s -/
def In (B : Nat) (w : World) (g : Nat) (s : Sta) : Prop := InIs B w g s.1 s.2
theorem grew_of_grownS {w w' : World} {g : Nat} (h : w.grownBy w' (some g)) : Grew w w' (· = g) := (Grew.of_grown h).mono (fun q hq => by simpa using hq)
theorem num_s (w : World) (g B : Nat) (s : Sta) (hi : In B w g s) : Calls Try.prog 79 #[.pointer (some ⟨g, 0, none⟩)] w fun r w' => r = .returned (.int .u64 ((sNum s).1 : Int)) ∧ In B w' g (sNum s).2 ∧ Grew w w' (· = g) := by
  obtain ⟨bs, e⟩ := s
  unfold sNum
  split
  · rename_i h
    obtain rfl : e = 0 := h
    refine (inum_any w g bs hi.lt hi).mono ?_
    rintro r w' ⟨rfl, h1, h2, _⟩
    exact ⟨rfl, h1, grew_of_grownS h2⟩
  · rename_i h
    refine (inum_bad w g e bs h hi).mono ?_
    rintro r w' ⟨rfl, rfl⟩
    exact ⟨rfl, hi, Grew.refl _ _⟩
theorem text_s (w : World) (g B : Nat) (s : Sta) (m : Nat) (hm : m ≤ 9223372036854775807) (hi : In B w g s) : Calls Try.prog 65 #[.pointer (some ⟨g, 0, none⟩), .int .i64 (m : Int)] w fun r w' => r = .returned (.string (str (sText m s).1)) ∧ In B w' g (sText m s).2 ∧ Grew w w' (· = g) := by
  obtain ⟨bs, e⟩ := s
  unfold sText
  split
  · rename_i h
    obtain rfl : e = 0 := h
    refine (itext_any w g bs m (by omega) (by omega) hi.lt hi).mono ?_
    rintro r w' ⟨rfl, h1, h2, _⟩
    exact ⟨rfl, h1, grew_of_grownS h2⟩
  · rename_i h
    refine (itext_bad w g e bs m (by omega) (by omega) h hi).mono ?_
    rintro r w' ⟨rfl, rfl⟩
    exact ⟨rfl, hi, Grew.refl _ _⟩
/-- a number, cut off above the most -/
def cutN (m n : Nat) : Nat := min n (m + 1)
end Go.Proofs.Ytjjofjnhhajjjaa.Nd
namespace Go.Proofs.Ytjjofjnhhajjjaa.Nd
open Go.RowKit
def okS (s : Sta) : Prop := ∀ x ∈ s.1, x < 256
theorem cutN_le (m n : Nat) : cutN m n ≤ m + 1 := by unfold cutN; omega
/-- what is read as a node, right or not -/
def rd (s : Sta) : Nd × Sta :=
  let a := sNum s
  let k := cutN 3 a.1
  if k = 1 then (⟨1, str (sText 64 a.2).1, 0, [], []⟩, (sText 64 a.2).2)
  else if k = 2 then
    let b := sNum a.2
    let z := cutN 1024 b.1
    (⟨2, ByteArray.empty, z, (sParts (pieces z) b.2).1, []⟩, (sParts (pieces z) b.2).2)
  else if k = 3 then
    let b := sNum a.2
    let z := cutN 64 b.1
    (⟨3, ByteArray.empty, 0, [], (sItems (cutN 3) z b.2).1⟩, (sItems (cutN 3) z b.2).2)
  else (⟨k, ByteArray.empty, 0, [], []⟩, a.2)
theorem In.ok {B : Nat} {w : World} {g : Nat} {s : Sta} (h : In B w g s) : okS s := InIs.lt h
theorem set5 {W : World} {Z : Nat} {t : TypeId} {a0 a1 a2 a3 a4 : Value} (h : Row W Z [a0, a1, a2, a3, a4] t) (b0 b1 b2 b3 b4 : Value) :
    Row (((((W.setCell ⟨Z, 0, none⟩ b0).setCell ⟨Z, 1, none⟩ b1).setCell ⟨Z, 2, none⟩ b2).setCell ⟨Z, 3, none⟩ b3).setCell ⟨Z, 4, none⟩ b4) Z [b0, b1, b2, b3, b4] t ∧ W.grownBy (((((W.setCell ⟨Z, 0, none⟩ b0).setCell ⟨Z, 1, none⟩ b1).setCell ⟨Z, 2, none⟩ b2).setCell ⟨Z, 3, none⟩ b3).setCell ⟨Z, 4, none⟩ b4) (some Z) :=
  ⟨((((h.set_same 0 b0).set_same 1 b1).set_same 2 b2).set_same 3 b3).set_same 4 b4,
    grownBy_trans (grownBy_trans (grownBy_trans (grownBy_trans (grownBy_setCell W ⟨Z, 0, none⟩ b0) (grownBy_setCell _ ⟨Z, 1, none⟩ b1)) (grownBy_setCell _ ⟨Z, 2, none⟩ b2)) (grownBy_setCell _ ⟨Z, 3, none⟩ b3)) (grownBy_setCell _ ⟨Z, 4, none⟩ b4)⟩
/-- the slices of a node lie in blocks from lo on -/
def Fresh (lo : Nat) (v : Value) : Prop := ∀ k d s vp vi, v = .agg #[.int .i64 k, .string d, .int .i64 s, vp, vi] → (∀ q, Value.ownBlock vp = some q → lo ≤ q) ∧ ∀ q, Value.ownBlock vi = some q → lo ≤ q
theorem Fresh.mono {lo lo' : Nat} {v : Value} (h : Fresh lo v) (hl : lo' ≤ lo) : Fresh lo' v := fun k d s vp vi e => ⟨fun q hq => Nat.le_trans hl ((h k d s vp vi e).1 q hq), fun q hq => Nat.le_trans hl ((h k d s vp vi e).2 q hq)⟩
theorem IsN.grown {w w' : World} {v : Value} {n : Nd} {lo z : Nat} (h : IsN w v n) (hg : w.grownBy w' (some z)) (hf : Fresh lo v) (hz : z < lo) : IsN w' v n := by
  obtain ⟨vp, vi, e, hp, hi⟩ := h.ex
  obtain ⟨f1, f2⟩ := hf _ _ _ _ _ e
  exact ⟨⟨vp, vi, e, hp.grown hg (fun q hq => by have := f1 q hq; omega), hi.grown hg (fun q hq => by have := f2 q hq; omega)⟩, h.ok⟩
theorem In.grown {B : Nat} {w w' : World} {g k : Nat} {s : Sta} (h : In B w g s) (hg : w.grownBy w' (some k)) (hk : B ≤ k) (hgk : g ≠ k) : In B w' g s := ((InIs.toB h).grown hg hk hgk).is
theorem rd_1 {s : Sta} (h : cutN 3 (sNum s).1 = 1) : rd s = (⟨1, str (sText 64 (sNum s).2).1, 0, [], []⟩, (sText 64 (sNum s).2).2) := by simp [rd, h]
theorem rd_2 {s : Sta} (h : cutN 3 (sNum s).1 = 2) {z : Nat} (hz : cutN 1024 (sNum (sNum s).2).1 = z) : rd s = (⟨2, ByteArray.empty, z, (sParts (pieces z) (sNum (sNum s).2).2).1, []⟩, (sParts (pieces z) (sNum (sNum s).2).2).2) := by subst hz; simp [rd, h]
theorem rd_3 {s : Sta} (h : cutN 3 (sNum s).1 = 3) {z : Nat} (hz : cutN 64 (sNum (sNum s).2).1 = z) : rd s = (⟨3, ByteArray.empty, 0, [], (sItems (cutN 3) z (sNum (sNum s).2).2).1⟩, (sItems (cutN 3) z (sNum (sNum s).2).2).2) := by subst hz; simp [rd, h]
end Go.Proofs.Ytjjofjnhhajjjaa.Nd
namespace Go.Proofs.Ytjjofjnhhajjjaa.Nd
open Go.RowKit
theorem IsN.form {w : World} {v : Value} {n : Nd} (h : IsN w v n) : ∃ pp cp pi ci, v = .agg #[.int .i64 n.kind, .string n.data, .int .i64 n.size, .slice pp n.parts.length cp, .slice pi n.items.length ci] := by
  obtain ⟨vp, vi, rfl, hp, hi⟩ := h.ex
  obtain ⟨pp, cp, _, _, rfl, _⟩ := hp.ex
  obtain ⟨pi, ci, _, _, rfl, _⟩ := hi.ex
  exact ⟨pp, cp, pi, ci, by simp⟩
theorem str_size (l : List Nat) : (str l).size = l.length := by
  show (str l).data.size = l.length
  simp [str]
theorem post_Row2 {P : Program} {fn : Func} {R : Ending → World → Prop} {a : Act} {w : World} (p u : Tmp) (ty : TypeId) (hf : fn.results = #[.cell p ty, .tmp u]) (g : Nat) (hp : a.tmps.getD p undef = .pointer (some ⟨g, 0, none⟩))
    (t : TypeId) (vs : List Value) (hr : Row w g vs t) (d : TypeDesc) (hu : P.underlying ty = some d) (hd : (match d with | .struct _ | .array _ _ => true | _ => false) = true) (n : Nat) (hi : (P.info? ty).map (·.size) = some n) (hn : vs.length = n)
    (hdf : a.defers = []) (h : R (.returned (.tuple #[.agg vs.toArray, a.tmps.getD u undef])) w) : bodyPost P fn R .ret a w := by
  refine bodyPost_ret ?_ hdf h
  rw [results_cell_tmp hf, hp]
  have hl := run_loadVar_row (P := P) w g t ty vs.toArray (0, 0) d hr hu hd (by rw [hi]; simp [hn])
  simp [asAddr, hl]
end Go.Proofs.Ytjjofjnhhajjjaa.Nd
namespace Go.Proofs.Ytjjofjnhhajjjaa.Nd
open Go.RowKit
theorem Els.own {w : World} {v : Value} {k : Nat} {xs : List (List Value)} (h : Els w v k xs) (hne : xs ≠ []) : ∀ q, v.ownBlock = some q → q < w.heap.size := by
  obtain ⟨p, cap, b, o, rfl, _, _, h3, _⟩ := h.ex
  obtain ⟨rfl, hb⟩ := h3 hne
  intro q hq
  cases hq
  exact hb
/-- the Out at block g has made the bytes xs, in blocks from B on -/
def OutB (w : World) (B g : Nat) (xs : List Nat) : Prop := ∃ v, OutIs w B g v xs
theorem OutB.below {w w' : World} {B g : Nat} {xs : List Nat} (h : OutB w B g xs) (hb : Below w.heap.size w w') : OutB w' B g xs := by
  obtain ⟨v, hv⟩ := h
  exact ⟨v, hv.below hb⟩
theorem OutB.base {w : World} {B g : Nat} {xs : List Nat} (h : OutB w B g xs) : B ≤ w.heap.size := by
  obtain ⟨v, hv⟩ := h
  exact hv.base
theorem out_below {w w' : World} {B g : Nat} {v : Value} {xs : List Nat} (hg : B ≤ g) (ho : OutIs w B g v xs) (h : Grew w w' (OutS g v)) : Below B w w' :=
  h.below (Below.refl _ _) ho.base (outS_ge ho hg)
theorem num_o (w : World) (B g : Nat) (xs : List Nat) (n : Nat) (hn : n < 18446744073709551616) (hg : B ≤ g) (ho : OutB w B g xs) (hl : xs.length + 10 ≤ 140737488355328) :
    Calls Try.prog 88 #[.pointer (some ⟨g, 0, none⟩), .int .u64 (n : Int)] w fun e w' => e = .returned (.tuple #[]) ∧ OutB w' B g (xs ++ Wire.num n) ∧ Below B w w' := by
  obtain ⟨v, hv⟩ := ho
  refine (onum_any w B g v xs n hn hv hl).mono ?_
  rintro e w' ⟨rfl, v', h1, h2, _⟩
  exact ⟨rfl, ⟨v', h1⟩, out_below hg hv h2⟩
theorem text_o (w : World) (B g : Nat) (xs : List Nat) (s : ByteArray) (hg : B ≤ g) (ho : OutB w B g xs) (hl : xs.length + 10 + s.size ≤ 140737488355328) :
    Calls Try.prog 76 #[.pointer (some ⟨g, 0, none⟩), .string s] w fun e w' => e = .returned (.tuple #[]) ∧ OutB w' B g (xs ++ (Wire.num s.size ++ bytesS s)) ∧ Below B w w' := by
  obtain ⟨v, hv⟩ := ho
  refine (otext_any w B g v xs s hv hl).mono ?_
  rintro e w' ⟨rfl, v', h1, h2, _⟩
  exact ⟨rfl, ⟨v', h1⟩, out_below hg hv h2⟩
/-- the same, apart from block I -/
def OutA (w : World) (B g : Nat) (xs : List Nat) (I : Nat) : Prop := ∃ v, OutIs w B g v xs ∧ v.ownBlock ≠ some I
theorem OutA.toB {w : World} {B g I : Nat} {xs : List Nat} (h : OutA w B g xs I) : OutB w B g xs := by
  obtain ⟨v, hv, _⟩ := h
  exact ⟨v, hv⟩
theorem OutA.below {w w' : World} {B g I : Nat} {xs : List Nat} (h : OutA w B g xs I) (hb : Below w.heap.size w w') : OutA w' B g xs I := by
  obtain ⟨v, hv, hn⟩ := h
  exact ⟨v, hv.below hb, hn⟩
theorem OutB.blk {w : World} {B g : Nat} {xs : List Nat} (h : OutB w B g xs) : g < w.heap.size := by
  obtain ⟨v, hv⟩ := h
  exact hv.row.lt
end Go.Proofs.Ytjjofjnhhajjjaa.Nd
namespace Go.Proofs.Ytjjofjnhhajjjaa.Nd
open Go.RowKit
theorem Els.keep {w w' : World} {v : Value} {k B : Nat} {xs : List (List Value)} (h : Els w v k xs) (hb : Below B w w') (hB : w.heap.size ≤ B) : Els w' v k xs := h.below (hb.mono hB)
theorem enc_1 {n : Nd} (h : n.kind = 1) : enc n = Wire.num 1 ++ (Wire.num n.data.size ++ bytesS n.data) := by simp [enc, h]
theorem enc_2 {n : Nd} (h : n.kind = 2) : enc n = Wire.num 2 ++ Wire.num n.size.toNat ++ n.parts.flatten := by simp [enc, h]
theorem enc_3 {n : Nd} (h : n.kind = 3) : enc n = Wire.num 3 ++ Wire.num n.items.length ++ n.items.flatMap It.bytes := by simp [enc, h]
theorem itemsOk_kind {l : List It} (h : itemsOk l) : ∀ x ∈ l, 0 ≤ x.kind ∧ x.name.size ≤ 16 := by
  intro x hx
  obtain ⟨i, hi, rfl⟩ := List.getElem_of_mem hx
  have h1 := (h.2 i hi _ (List.getElem?_eq_getElem hi)).1
  unfold itemOk at h1
  simp only [Bool.and_eq_true, Bool.or_eq_true, beq_iff_eq] at h1
  obtain ⟨h2, h3⟩ := h1
  unfold isNameS at h3
  simp only [Bool.and_eq_true, decide_eq_true_eq] at h3
  have h4 := h3.1.2
  rw [bl_length] at h4
  exact ⟨by rcases h2 with h | h <;> omega, h4⟩
end Go.Proofs.Ytjjofjnhhajjjaa.Nd
