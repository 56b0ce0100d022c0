/-
  The walk of (*wire.In).Digest, where nothing was wrong yet. What was written is read back; what was cut off is short. Plain numbers, no program in it. The walks of the reference's In: bad, Left, Flag. The walk of the reference's Flag. The walk of the reference's Digest. Nodes as the document has them: when one is right, its bytes; slices of cells in the world. The walk of areItems. The walks of isRight and of node.Check. Fields that are read, by states: what is still to be read and what was wrong; node.number.
-/
import Derived.Laws.CopyOwn
import Derived.Deep.RegionLaw
import Derived.Deep.DrawnRows
import Derived.Deep.Cut
import Derived.Deep.RegionHeld3
import Derived.Deep.CutRange
import Derived.Test.YtjjofjnhhajjjaaB00
import Derived.Test.YtjjofjnhhajjjaaB01
import Derived.Test.YtjjofjnhhajjjaaB02
import Derived.Test.YtjjofjnhhajjjaaB03
namespace Go.Proofs.Ytjjofjnhhajjjaa.Nd
open Go.RowKit
theorem Sl.grew {w w' : World} {p : Option Addr} {bs : List Nat} {cap b off : Nat} {S : Nat → Prop} (h : Sl w p bs cap b off) (hg : Grew w w' S) (hn : 0 < bs.length → ¬ S b) : Sl w' p bs cap b off :=
  ⟨h.lt, h.cap1, h.cap2, h.at_, fun j hj => by
    have hc := h.src j hj
    have hlt := World.block_lt_of_cell? w _ hc
    have hb := hg.block b hlt (hn (by omega))
    have : w'.cell? ⟨b, off + j, none⟩ = w.cell? ⟨b, off + j, none⟩ := by
      simp only [World.cell?, hb]
    rw [this]; exact hc⟩
/-- a part of a slice of bytes from a place on -/
theorem Sl.rest {w : World} {p q : Option Addr} {bs : List Nat} {cap b off : Nat} (h : Sl w p bs cap b off) (n : Nat) (hn : n ≤ bs.length) (hq : n < bs.length → q = some ⟨b, off + n, none⟩) : Sl w q (bs.drop n) (cap - n) b (off + n) :=
  ⟨fun x hx => h.lt x (List.mem_of_mem_drop hx), by have := h.cap1; simp; omega, by have := h.cap2; omega, fun h0 => hq (by simp at h0; omega), fun j hj => by
    have hj' : n + j < bs.length := by simp at hj; omega
    rw [Nat.add_assoc, h.src (n + j) hj']
    simp⟩
end Go.Proofs.Ytjjofjnhhajjjaa.Nd
namespace Go.Proofs.Ytjjofjnhhajjjaa.Nd
open Go.RowKit
/-- the same, its bytes in a block below B -/
def InB (w : World) (g : Nat) (bs : List Nat) (e B : Nat) : Prop :=
  ∃ p cap b off, Row w g [.slice p bs.length cap, .int .i64 (e : Int)] 117 ∧ Sl w p bs cap b off ∧ (p = none → bs.length = 0 ∧ cap = 0) ∧ (0 < bs.length → b ≠ g ∧ b < B)
theorem InIs.toB {B : Nat} {w : World} {g e : Nat} {bs : List Nat} (h : InIs B w g bs e) : InB w g bs e B := h.ex
theorem InB.is {w : World} {g e B : Nat} {bs : List Nat} (h : InB w g bs e B) : InIs B w g bs e := ⟨h⟩
theorem InB.below {w w' : World} {g e B : Nat} {bs : List Nat} (h : InB w g bs e B) (hb : Below w.heap.size w w') : InB w' g bs e B := by
  obtain ⟨p, cap, b, off, hr, hsl, hno, hne⟩ := h
  exact ⟨p, cap, b, off, hr.below hb hr.lt, hsl.below hb, hno, hne⟩
/-- a block from B on is changed -/
theorem InB.grown {w w' : World} {g e B k : Nat} {bs : List Nat} (h : InB w g bs e B) (hg : w.grownBy w' (some k)) (hk : B ≤ k) (hgk : g ≠ k) : InB w' g bs e B := by
  obtain ⟨p, cap, b, off, hr, hsl, hno, hne⟩ := h
  exact ⟨p, cap, b, off, hr.grown hg (by simpa using hgk), hsl.grown hg (fun h0 => by have := (hne h0).2; simp; omega), hno, hne⟩
end Go.Proofs.Ytjjofjnhhajjjaa.Nd
namespace Go.Proofs.Ytjjofjnhhajjjaa.Nd
open Go.RowKit
end Go.Proofs.Ytjjofjnhhajjjaa.Nd
namespace Go.Proofs.Ytjjofjnhhajjjaa.Nd
open Go.RowKit
theorem rnumF_numF : ∀ (f k n acc : Nat) (r : List Nat), k + f = 9 → n * 128 ^ k < 18446744073709551616 → (0 < k → 0 < n) → Wire.rnumF (f + 1) k acc (Wire.numF f n ++ r) = (acc + n * 128 ^ k, r, 0)
  | 0, k, n, acc, r, hk, hn, h0 => by
    have hk9 : k = 9 := by omega
    subst hk9
    have e9 : (128 : Nat) ^ 9 = 9223372036854775808 := by decide
    rw [e9] at hn
    have hn1 : n ≤ 1 := by omega
    have hn0 := h0 (by omega)
    simp only [Wire.numF, List.singleton_append, Wire.rnumF]
    rw [if_neg (by omega), if_pos (by omega)]
  | f + 1, k, n, acc, r, hk, hn, h0 => by
    by_cases hl : n < 128
    · simp only [Wire.numF, if_pos hl, List.singleton_append, Wire.rnumF]
      rw [if_neg (by omega)]
    · simp only [Wire.numF, if_neg hl, List.cons_append]
      rw [show f + 1 + 1 = (f + 1) + 1 from rfl]
      conv => lhs; unfold Wire.rnumF
      rw [if_neg (by omega), if_neg (by omega)]
      have hm : n = n % 128 + 128 * (n / 128) := (Nat.mod_add_div n 128).symm
      have e1 : (128 : Nat) ^ (k + 1) = 128 ^ k * 128 := Nat.pow_succ ..
      have hd : n / 128 * 128 ^ (k + 1) ≤ n * 128 ^ k := by
        rw [e1, Nat.mul_comm (128 ^ k) 128, ← Nat.mul_assoc]
        exact Nat.mul_le_mul_right _ (Nat.div_mul_le_self n 128)
      rw [rnumF_numF f (k + 1) (n / 128) _ r (by omega) (by omega) (fun _ => by omega)]
      have e2 : (n % 128 + 128) % 128 = n % 128 := by omega
      have e3 : acc + n % 128 * 128 ^ k + n / 128 * 128 ^ (k + 1) = acc + n * 128 ^ k := by
        rw [e1, Nat.mul_comm (128 ^ k) 128, ← Nat.mul_assoc, Nat.add_assoc, ← Nat.add_mul]
        congr 2
        omega
      rw [e2, e3]
theorem rnum_num (n : Nat) (r : List Nat) (hn : n < 18446744073709551616) : Wire.rnum (Wire.num n ++ r) = (n, r, 0) := by
  have := rnumF_numF 9 0 n 0 r rfl (by simpa using hn) (by omega)
  simpa [Wire.rnum, Wire.num] using this
theorem str_bytesS (S : ByteArray) : str (bytesS S) = S := by
  unfold str bytesS
  rw [List.map_map]
  have : (UInt8.ofNat ∘ fun x : UInt8 => x.toNat) = id := by funext x; simp
  rw [this, List.map_id]
end Go.Proofs.Ytjjofjnhhajjjaa.Nd
namespace Go.Proofs.Ytjjofjnhhajjjaa.Nd
open Go.RowKit
/-- the reference's In at block g reads the bytes bs, and stands at k; what was wrong is e -/
structure RIs (B : Nat) (w : World) (g : Nat) (t : TypeId) (bs : List Nat) (k e : Nat) : Prop where
  ex : ∃ p cap b off, Row w g [.slice p bs.length cap, .int .i64 (k : Int), .int .i64 (e : Int)] t ∧ Sl w p bs cap b off ∧ (0 < bs.length → b ≠ g ∧ b < B)
  le : k ≤ bs.length
theorem RIs.len {B : Nat} {w : World} {g : Nat} {t : TypeId} {bs : List Nat} {k e : Nat} (h : RIs B w g t bs k e) : bs.length ≤ 9223372036854775807 := by
  obtain ⟨p, cap, b, off, hr, hsl, hne⟩ := h.ex
  have := hsl.cap1
  have := hsl.cap2
  omega
end Go.Proofs.Ytjjofjnhhajjjaa.Nd
namespace Go.Proofs.Ytjjofjnhhajjjaa.Nd
open Go.RowKit
theorem RIs.drew {B : Nat} {w : World} {g : Nat} {t : TypeId} {bs : List Nat} {k e : Nat} (h : RIs B w g t bs k e) : RIs B w.drew g t bs k e := by
  obtain ⟨p, cap, b, off, hr, hsl, hne⟩ := h.ex
  exact ⟨⟨p, cap, b, off, hr.drew, ⟨hsl.lt, hsl.cap1, hsl.cap2, hsl.at_, hsl.src⟩, hne⟩, h.le⟩
end Go.Proofs.Ytjjofjnhhajjjaa.Nd
namespace Go.Proofs.Ytjjofjnhhajjjaa.Nd
open Go.RowKit
theorem wp_world {P : Program} {c : Code} {Q : Exit → Act → World → Prop} {a : Act} {W W' : World} (h : W = W') (k : Code.wp P c Q a W') : Code.wp P c Q a W := h ▸ k
/-- the reference's In with its bytes in a block below B -/
def RB (w : World) (g : Nat) (t : TypeId) (bs : List Nat) (k e B : Nat) : Prop :=
  ∃ p cap b off, Row w g [.slice p bs.length cap, .int .i64 (k : Int), .int .i64 (e : Int)] t ∧ Sl w p bs cap b off ∧ (0 < bs.length → b ≠ g ∧ b < B)
theorem RIs.toB {B : Nat} {w : World} {g : Nat} {t : TypeId} {bs : List Nat} {k e : Nat} (h : RIs B w g t bs k e) : RB w g t bs k e B := h.ex
theorem RB.is {w : World} {g : Nat} {t : TypeId} {bs : List Nat} {k e B : Nat} (h : RB w g t bs k e B) (hk : k ≤ bs.length) : RIs B w g t bs k e := by
  exact ⟨h, hk⟩
theorem RB.below {w w' : World} {g : Nat} {t : TypeId} {bs : List Nat} {k e B : Nat} (h : RB w g t bs k e B) (hb : Below w.heap.size w w') : RB w' g t bs k e B := by
  obtain ⟨p, cap, b, off, hr, hsl, hne⟩ := h
  exact ⟨p, cap, b, off, hr.below hb hr.lt, hsl.below hb, hne⟩
theorem RB.grown {w w' : World} {g : Nat} {t : TypeId} {bs : List Nat} {k e B q : Nat} (h : RB w g t bs k e B) (hg : w.grownBy w' (some q)) (hk : B ≤ q) (hgk : g ≠ q) : RB w' g t bs k e B := by
  obtain ⟨p, cap, b, off, hr, hsl, hne⟩ := h
  exact ⟨p, cap, b, off, hr.grown hg (by simpa using hgk), hsl.grown hg (fun h0 => by have := (hne h0).2; simp; omega), hne⟩
theorem RB.drew {w : World} {g : Nat} {t : TypeId} {bs : List Nat} {k e B : Nat} (h : RB w g t bs k e B) : RB w.drew g t bs k e B := by
  obtain ⟨p, cap, b, off, hr, hsl, hne⟩ := h
  exact ⟨p, cap, b, off, hr.drew, ⟨hsl.lt, hsl.cap1, hsl.cap2, hsl.at_, hsl.src⟩, hne⟩
end Go.Proofs.Ytjjofjnhhajjjaa.Nd
namespace Go.Proofs.Ytjjofjnhhajjjaa.Nd
open Go.RowKit
/-- a directory's item -/
structure It where
  name : ByteArray
  kind : Int
  sum : List Nat
/-- a node -/
structure Nd where
  kind : Int
  data : ByteArray
  size : Int
  parts : List (List Nat)
  items : List It
def It.cells (x : It) : List Value := .string x.name :: .int .i64 x.kind :: x.sum.map u8v
def dcells (d : List Nat) : List Value := d.map u8v
/-- 32 bytes -/
def Dg (d : List Nat) : Prop := d.length = 32 ∧ ∀ x ∈ d, x < 256
def i64 (n : Int) : Prop := -9223372036854775808 ≤ n ∧ n ≤ 9223372036854775807
structure It.ok (x : It) : Prop where
  sum : Dg x.sum
  kind : i64 x.kind
structure Nd.ok (n : Nd) : Prop where
  parts : ∀ d ∈ n.parts, Dg d
  items : ∀ x ∈ n.items, x.ok
  kind : i64 n.kind
  size : i64 n.size
def zeroN : Nd := ⟨0, ByteArray.empty, 0, [], []⟩
/-- a slice whose elements have k cells each -/
structure Els (w : World) (v : Value) (k : Nat) (xs : List (List Value)) : Prop where
  ex : ∃ p cap b o, v = .slice p xs.length cap ∧ xs.length ≤ cap ∧ cap ≤ 9223372036854775807 ∧ (xs ≠ [] → p = some ⟨b, o, none⟩ ∧ b < w.heap.size) ∧ ∀ (i : Nat) us, xs[i]? = some us → w.rangeAt b (o + i * k) us
  each : ∀ us ∈ xs, us.length = k
theorem rangeAt_below {w w' : World} {B b o : Nat} {cs : List Value} (h : w.rangeAt b o cs) (hb : Below B w w') (hlt : b < B) : w'.rangeAt b o cs := fun j v hv => by
  rw [hb.cell (p := ⟨b, o + j, none⟩) hlt]; exact h j v hv
theorem Els.below {w w' : World} {v : Value} {k : Nat} {xs : List (List Value)} (h : Els w v k xs) (hb : Below w.heap.size w w') : Els w' v k xs := by
  obtain ⟨p, cap, b, o, rfl, h1, h2, h3, h4⟩ := h.ex
  refine ⟨⟨p, cap, b, o, rfl, h1, h2, fun hne => ⟨(h3 hne).1, Nat.lt_of_lt_of_le (h3 hne).2 hb.size⟩, fun i us hi => ?_⟩, h.each⟩
  have hne : xs ≠ [] := by rintro rfl; simp at hi
  exact rangeAt_below (h4 i us hi) hb (h3 hne).2
theorem Els.grown {w w' : World} {v : Value} {k z : Nat} {xs : List (List Value)} (h : Els w v k xs) (hg : w.grownBy w' (some z)) (hz : ∀ q, v.ownBlock = some q → q ≠ z) : Els w' v k xs := by
  obtain ⟨p, cap, b, o, rfl, h1, h2, h3, h4⟩ := h.ex
  refine ⟨⟨p, cap, b, o, rfl, h1, h2, fun hne => ⟨(h3 hne).1, Nat.lt_of_lt_of_le (h3 hne).2 hg.size⟩, fun i us hi => ?_⟩, h.each⟩
  have hne : xs ≠ [] := by rintro rfl; simp at hi
  have hbz : b ≠ z := hz b (by rw [(h3 hne).1]; rfl)
  intro j u hu
  rw [World.cell?_of_block (a := ⟨b, o + i * k + j, none⟩) (hg.block b (h3 hne).2 (by simpa using hbz))]
  exact h4 i us hi j u hu
theorem Els.nil (w : World) (k : Nat) : Els w (.slice none 0 0) k [] :=
  ⟨⟨none, 0, 0, 0, rfl, Nat.le_refl _, by decide, fun h => absurd rfl h, fun i us h => by simp at h⟩, fun us h => by cases h⟩
/-- the value of a node that lies in the world -/
structure IsN (w : World) (v : Value) (n : Nd) : Prop where
  ex : ∃ vp vi, v = .agg #[.int .i64 n.kind, .string n.data, .int .i64 n.size, vp, vi] ∧ Els w vp 32 (n.parts.map dcells) ∧ Els w vi 34 (n.items.map It.cells)
  ok : n.ok
theorem IsN.below {w w' : World} {v : Value} {n : Nd} (h : IsN w v n) (hb : Below w.heap.size w w') : IsN w' v n := by
  obtain ⟨vp, vi, h1, h2, h3⟩ := h.ex
  exact ⟨⟨vp, vi, h1, h2.below hb, h3.below hb⟩, h.ok⟩
/-- does the first text come behind the second, or is it the same? -/
def geS (a b : ByteArray) : Bool := !Op.bytesLess a.toList b.toList
def itemOk (x : It) : Bool := (x.kind == 2 || x.kind == 3) && isNameS (bl x.name)
def okAt (l : List It) (i : Nat) : Prop := ∀ x, l[i]? = some x → itemOk x = true ∧ (0 < i → ∀ y, l[i - 1]? = some y → geS y.name x.name = false)
def itemsOk (l : List It) : Prop := l.length ≤ 64 ∧ ∀ i, i < l.length → okAt l i
def pieces (n : Int) : Nat := ((n + 63) / 64).toNat
def right (n : Nd) : Prop :=
  (n.kind = 1 ∧ 1 ≤ n.data.size ∧ n.data.size ≤ 64 ∧ n.size = 0 ∧ n.parts = [] ∧ n.items = []) ∨
  (n.kind = 2 ∧ n.data.size = 0 ∧ 0 ≤ n.size ∧ n.size ≤ 1024 ∧ n.parts.length = pieces n.size ∧ n.items = []) ∨
  (n.kind = 3 ∧ n.data.size = 0 ∧ n.size = 0 ∧ n.parts = [] ∧ itemsOk n.items)
def It.bytes (x : It) : List Nat := Wire.num x.name.size ++ bytesS x.name ++ Wire.num x.kind.toNat ++ x.sum
/-- the bytes of a right node -/
def enc (n : Nd) : List Nat :=
  Wire.num n.kind.toNat ++ (if n.kind = 1 then Wire.num n.data.size ++ bytesS n.data else if n.kind = 2 then Wire.num n.size.toNat ++ n.parts.flatten else Wire.num n.items.length ++ n.items.flatMap It.bytes)
/-- a digest that is read: what it is, what is left, what is wrong -/
def rdigest (bs : List Nat) : List Nat × List Nat × Nat := if bs.length < 32 then (List.replicate 32 0, [], 20) else (bs.take 32, bs.drop 32, 0)
/-- what is still to be read, and what was wrong -/
abbrev Sta := List Nat × Nat
def sNum (s : Sta) : Nat × Sta := if s.2 = 0 then Wire.rnum s.1 else (0, s)
def sText (m : Nat) (s : Sta) : List Nat × Sta := if s.2 = 0 then Wire.rtext (m : Int) s.1 else ([], s)
def sDig (s : Sta) : List Nat × Sta := if s.2 = 0 then rdigest s.1 else (List.replicate 32 0, s)
def sParts : Nat → Sta → List (List Nat) × Sta
  | 0, s => ([], s)
  | c + 1, s => ((sParts c s).1 ++ [(sDig (sParts c s).2).1], (sDig (sParts c s).2).2)
def sItem (cut : Nat → Nat) (s : Sta) : It × Sta :=
  let a := sText 16 s
  let b := sNum a.2
  let c := sDig b.2
  (⟨str a.1, (cut b.1 : Int), c.1⟩, c.2)
def sItems (cut : Nat → Nat) : Nat → Sta → List It × Sta
  | 0, s => ([], s)
  | c + 1, s => ((sItems cut c s).1 ++ [(sItem cut (sItems cut c s).2).1], (sItem cut (sItems cut c s).2).2)
end Go.Proofs.Ytjjofjnhhajjjaa.Nd
namespace Go.Proofs.Ytjjofjnhhajjjaa.Nd
open Go.RowKit
/-- a value is stored into a block that was just laid -/
theorem wpList_store_new {ops : Array Oper} {rest : List Oper} {op : Oper} {a : Act} {w : World} {Q : Exit → Act → World → Prop} (hgd : op.guard = none) (hd : op.dst = none) (t : TypeId) (k : Nat) (x y : Operand) (ho : op.op = .store t x y) (C : Array Value) (V : List Value) (hi : (Try.prog.info? t).map (·.size) = some k) (hC : C.size = k) (hV : Hid (V.length = k)) (h1 : Hid (∀ v ∈ V, v.oneCell' = true))
    (hx : a.eval x = .pointer (some ⟨w.heap.size, 0, none⟩)) (hy : a.eval y = .agg V.toArray) (h : ∀ w', Row w' w.heap.size V t → Below w.heap.size w w' → w'.heap.size = w.heap.size + 1 → wpList Try.prog ops Q rest a w') : wpList Try.prog ops Q (op :: rest) a (w.alloc (.cells C t)) := by
  have e : C = C.toList.toArray := rfl
  rw [e]
  refine wpList_store_Row hgd t x y ho w.heap.size 0 V hx hy t C.toList (Row.newAt w _ C.toList t rfl) k hi hV.out (by simp; omega) h1.out ?_
  intro w' hr hg hs
  rw [splice_all _ _ (by rw [hV.out]; simp; omega)] at hr
  have e2 : a.put op.dst undef = a := by rw [hd]; rfl
  rw [e2]
  exact h w' hr (below_of_grown ((Below.refl _ _).alloc (Nat.le_refl _) _) hg (by simp) (Nat.le_refl _)) (by rw [hs]; simp)
theorem below_drewN {B : Nat} {a w : World} (h : Below B a w) (n : Nat) : Below B a (w.drewN n) :=
  ⟨h.os, h.tape, h.output, by simpa using h.size, fun k hk => by simpa using h.block k hk⟩
/-- a call says whether P -/
def Says (e : Ending) (P : Prop) : Prop := ∃ R, e = .returned (.bool R) ∧ (R = true ↔ P)
theorem Says.no {e : Ending} {P : Prop} (h : e = .returned (.bool false)) (hp : ¬ P) : Says e P := ⟨false, h, ⟨fun h => (by cases h), fun h => absurd h hp⟩⟩
theorem Says.yes {e : Ending} {P : Prop} (h : e = .returned (.bool true)) (hp : P) : Says e P := ⟨true, h, ⟨fun _ => hp, fun _ => rfl⟩⟩
theorem Says.cases {e : Ending} {P : Prop} (h : Says e P) : (e = .returned (.bool true) ∧ P) ∨ (e = .returned (.bool false) ∧ ¬ P) := by
  obtain ⟨R, h1, h2⟩ := h
  cases R
  · exact .inr ⟨h1, fun h => by cases h2.2 h⟩
  · exact .inl ⟨h1, h2.1 rfl⟩
theorem It.one (x : It) : ∀ v ∈ x.cells, v.oneCell' = true := by
  intro v hv
  simp only [It.cells, List.mem_cons] at hv
  rcases hv with rfl | rfl | hv
  · rfl
  · rfl
  · exact one_u8 _ v hv
/-- an element of a slice of items -/
theorem Els.item {w : World} {l : List It} {b o : Nat} (h : ∀ (i : Nat) us, (l.map It.cells)[i]? = some us → w.rangeAt b (o + i * 34) us) {i : Nat} {x : It} (hx : l[i]? = some x) : w.rangeAt b (o + i * 34) x.cells := h i x.cells (by simp [hx])
/-- k cells lie there -/
def has (k : Nat) (w : World) (b o : Nat) : Prop := ∀ j, j < k → (w.cell? ⟨b, o + j, none⟩).isSome = true
def cellsAt (k : Nat) (w : World) (b o : Nat) : List Value := (List.range k).map fun j => (w.cell? ⟨b, o + j, none⟩).getD undef
def ptrB : Value → Nat
  | .pointer (some a) => a.block
  | _ => 0
def ptrO : Value → Nat
  | .pointer (some a) => a.off
  | _ => 0
theorem ptrB_pointer (a : Addr) : ptrB (.pointer (some a)) = a.block := by simp only [ptrB]
theorem ptrO_pointer (a : Addr) : ptrO (.pointer (some a)) = a.off := by simp only [ptrO]
theorem has_drewN (k : Nat) (w : World) (b o n : Nat) : has k (w.drewN n) b o = has k w b o := by simp [has]
theorem cellsAt_drewN (k : Nat) (w : World) (b o n : Nat) : cellsAt k (w.drewN n) b o = cellsAt k w b o := by simp [cellsAt]
theorem has_drew (k : Nat) (w : World) (b o : Nat) : has k w.drew b o = has k w b o := rfl
theorem cellsAt_drew (k : Nat) (w : World) (b o : Nat) : cellsAt k w.drew b o = cellsAt k w b o := rfl
attribute [local go_sem] has_drewN cellsAt_drewN has_drew cellsAt_drew ptrB_pointer ptrO_pointer
end Go.Proofs.Ytjjofjnhhajjjaa.Nd
namespace Go.Proofs.Ytjjofjnhhajjjaa.Nd
open Go.RowKit
/-- how long the texts of a node are -/
def Nd.short (n : Nd) : Prop := n.data.size ≤ 9223372036854775807 ∧ ∀ x ∈ n.items, x.name.size ≤ 9223372036854775807
theorem Says.mono {e : Ending} {P Q : Prop} (h : Says e P) (hpq : P ↔ Q) : Says e Q := by
  obtain ⟨R, h1, h2⟩ := h
  exact ⟨R, h1, h2.trans hpq⟩
end Go.Proofs.Ytjjofjnhhajjjaa.Nd
namespace Go.Proofs.Ytjjofjnhhajjjaa.Nd
open Go.RowKit
theorem InIs.lt {B : Nat} {w : World} {g e : Nat} {bs : List Nat} (h : InIs B w g bs e) : ∀ x ∈ bs, x < 256 := by
  obtain ⟨_, _, _, _, _, hsl, _⟩ := h.ex
  exact hsl.lt
theorem InIs.blk {B : Nat} {w : World} {g e : Nat} {bs : List Nat} (h : InIs B w g bs e) : g < w.heap.size := by
  obtain ⟨_, _, _, _, hr, _⟩ := h.ex
  exact hr.lt
/-- the In at block g is in state s -/
def In (B : Nat) (w : World) (g : Nat) (s : Sta) : Prop := InIs B w g s.1 s.2
theorem grew_of_grownS {w w' : World} {g : Nat} (h : w.grownBy w' (some g)) : Grew w w' (· = g) := (Grew.of_grown h).mono (fun q hq => by simpa using hq)
theorem num_s (w : World) (g B : Nat) (s : Sta) (hi : In B w g s) : Calls Try.prog 79 #[.pointer (some ⟨g, 0, none⟩)] w fun r w' => r = .returned (.int .u64 ((sNum s).1 : Int)) ∧ In B w' g (sNum s).2 ∧ Grew w w' (· = g) := by
  obtain ⟨bs, e⟩ := s
  unfold sNum
  split
  · rename_i h
    obtain rfl : e = 0 := h
    refine (inum_any w g bs hi.lt hi).mono ?_
    rintro r w' ⟨rfl, h1, h2, _⟩
    exact ⟨rfl, h1, grew_of_grownS h2⟩
  · rename_i h
    refine (inum_bad w g e bs h hi).mono ?_
    rintro r w' ⟨rfl, rfl⟩
    exact ⟨rfl, hi, Grew.refl _ _⟩
theorem text_s (w : World) (g B : Nat) (s : Sta) (m : Nat) (hm : m ≤ 9223372036854775807) (hi : In B w g s) : Calls Try.prog 65 #[.pointer (some ⟨g, 0, none⟩), .int .i64 (m : Int)] w fun r w' => r = .returned (.string (str (sText m s).1)) ∧ In B w' g (sText m s).2 ∧ Grew w w' (· = g) := by
  obtain ⟨bs, e⟩ := s
  unfold sText
  split
  · rename_i h
    obtain rfl : e = 0 := h
    refine (itext_any w g bs m (by omega) (by omega) hi.lt hi).mono ?_
    rintro r w' ⟨rfl, h1, h2, _⟩
    exact ⟨rfl, h1, grew_of_grownS h2⟩
  · rename_i h
    refine (itext_bad w g e bs m (by omega) (by omega) h hi).mono ?_
    rintro r w' ⟨rfl, rfl⟩
    exact ⟨rfl, hi, Grew.refl _ _⟩
/-- a number, cut off above the most -/
def cutN (m n : Nat) : Nat := min n (m + 1)
end Go.Proofs.Ytjjofjnhhajjjaa.Nd
