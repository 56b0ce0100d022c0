/-
  Nodes as the document has them: when one is right, its bytes; slices of cells in the world. The reference of layer 7: lists of paths; the walks of Names and place. The walk of areItems. The walks of isRight and of node.Check. Fields that are read, by states: what is still to be read and what was wrong; node.number. The walk of readParts. What a node reads as; the walk of node.read. The walk of node.Decode. Fields that are written; the walks of writeParts and writeItems. The walk of node.Encode.
-/
import Derived.Lib.SlBytesConst
import Derived.Laws.CopyOwn
import Derived.Deep.RegionLaw
import Derived.Deep.DrawnRows
import Derived.Lib.AppendZeros
import Derived.Deep.RegionHeld3
import Derived.Deep.CutRange
import Derived.OwnWalk
import Derived.Laws.Tables
import Derived.Test.YtngehkmdanhgpaaGreatQ00
import Derived.Test.YtngehkmdanhgpaaGreatQ01
import Derived.Test.YtngehkmdanhgpaaGreatQ02
import Derived.Test.YtngehkmdanhgpaaGreatQ03
import Derived.Test.YtngehkmdanhgpaaGreatQ04
import Derived.Test.YtngehkmdanhgpaaGreatQ05
import Derived.Test.YtngehkmdanhgpaaGreatQ06
namespace Go.Proofs.YtngehkmdanhgpaaGreat.Nd
open Go.RowKit
/-- a directory's item -/
structure It where
  name : ByteArray
  kind : Int
  sum : List Nat
/-- a node -/
structure Nd where
  kind : Int
  data : ByteArray
  size : Int
  parts : List (List Nat)
  items : List It
def It.cells (x : It) : List Value := .string x.name :: .int .i64 x.kind :: x.sum.map u8v
def dcells (d : List Nat) : List Value := d.map u8v
/-- 32 bytes -/
def Dg (d : List Nat) : Prop := d.length = 32 ∧ ∀ x ∈ d, x < 256
def i64 (n : Int) : Prop := -9223372036854775808 ≤ n ∧ n ≤ 9223372036854775807
structure It.ok (x : It) : Prop where
  sum : Dg x.sum
  kind : i64 x.kind
structure Nd.ok (n : Nd) : Prop where
  parts : ∀ d ∈ n.parts, Dg d
  items : ∀ x ∈ n.items, x.ok
  kind : i64 n.kind
  size : i64 n.size
/-- a slice whose elements have k cells each -/
structure Els (w : World) (v : Value) (k : Nat) (xs : List (List Value)) : Prop where
  ex : ∃ p cap b o, v = .slice p xs.length cap ∧ xs.length ≤ cap ∧ cap ≤ 9223372036854775807 ∧ (xs ≠ [] → p = some ⟨b, o, none⟩ ∧ b < w.heap.size) ∧ ∀ (i : Nat) us, xs[i]? = some us → w.rangeAt b (o + i * k) us
  each : ∀ us ∈ xs, us.length = k
theorem rangeAt_below {w w' : World} {B b o : Nat} {cs : List Value} (h : w.rangeAt b o cs) (hb : Below B w w') (hlt : b < B) : w'.rangeAt b o cs := fun j v hv => by
  rw [hb.cell (p := ⟨b, o + j, none⟩) hlt]; exact h j v hv
theorem Els.below {w w' : World} {v : Value} {k : Nat} {xs : List (List Value)} (h : Els w v k xs) (hb : Below w.heap.size w w') : Els w' v k xs := by
  obtain ⟨p, cap, b, o, rfl, h1, h2, h3, h4⟩ := h.ex
  refine ⟨⟨p, cap, b, o, rfl, h1, h2, fun hne => ⟨(h3 hne).1, Nat.lt_of_lt_of_le (h3 hne).2 hb.size⟩, fun i us hi => ?_⟩, h.each⟩
  have hne : xs ≠ [] := by rintro rfl; simp at hi
  exact rangeAt_below (h4 i us hi) hb (h3 hne).2
theorem Els.grown {w w' : World} {v : Value} {k z : Nat} {xs : List (List Value)} (h : Els w v k xs) (hg : w.grownBy w' (some z)) (hz : ∀ q, v.ownBlock = some q → q ≠ z) : Els w' v k xs := by
  obtain ⟨p, cap, b, o, rfl, h1, h2, h3, h4⟩ := h.ex
  refine ⟨⟨p, cap, b, o, rfl, h1, h2, fun hne => ⟨(h3 hne).1, Nat.lt_of_lt_of_le (h3 hne).2 hg.size⟩, fun i us hi => ?_⟩, h.each⟩
  have hne : xs ≠ [] := by rintro rfl; simp at hi
  have hbz : b ≠ z := hz b (by rw [(h3 hne).1]; rfl)
  intro j u hu
  rw [World.cell?_of_block (a := ⟨b, o + i * k + j, none⟩) (hg.block b (h3 hne).2 (by simpa using hbz))]
  exact h4 i us hi j u hu
theorem Els.nil (w : World) (k : Nat) : Els w (.slice none 0 0) k [] :=
  ⟨⟨none, 0, 0, 0, rfl, Nat.le_refl _, by decide, fun h => absurd rfl h, fun i us h => by simp at h⟩, fun us h => by cases h⟩
/-- the value of a node that lies in the world -/
structure IsN (w : World) (v : Value) (n : Nd) : Prop where
  ex : ∃ vp vi, v = .agg #[.int .i64 n.kind, .string n.data, .int .i64 n.size, vp, vi] ∧ Els w vp 32 (n.parts.map dcells) ∧ Els w vi 34 (n.items.map It.cells)
  ok : n.ok
theorem IsN.below {w w' : World} {v : Value} {n : Nd} (h : IsN w v n) (hb : Below w.heap.size w w') : IsN w' v n := by
  obtain ⟨vp, vi, h1, h2, h3⟩ := h.ex
  exact ⟨⟨vp, vi, h1, h2.below hb, h3.below hb⟩, h.ok⟩
/-- does the first text come behind the second, or is it the same? -/
def geS (a b : ByteArray) : Bool := !Op.bytesLess a.toList b.toList
def itemOk (x : It) : Bool := (x.kind == 2 || x.kind == 3) && isNameS (bl x.name)
def okAt (l : List It) (i : Nat) : Prop := ∀ x, l[i]? = some x → itemOk x = true ∧ (0 < i → ∀ y, l[i - 1]? = some y → geS y.name x.name = false)
def itemsOk (l : List It) : Prop := l.length ≤ 64 ∧ ∀ i, i < l.length → okAt l i
def pieces (n : Int) : Nat := ((n + 63) / 64).toNat
def right (n : Nd) : Prop :=
  (n.kind = 1 ∧ 1 ≤ n.data.size ∧ n.data.size ≤ 64 ∧ n.size = 0 ∧ n.parts = [] ∧ n.items = []) ∨
  (n.kind = 2 ∧ n.data.size = 0 ∧ 0 ≤ n.size ∧ n.size ≤ 1024 ∧ n.parts.length = pieces n.size ∧ n.items = []) ∨
  (n.kind = 3 ∧ n.data.size = 0 ∧ n.size = 0 ∧ n.parts = [] ∧ itemsOk n.items)
def It.bytes (x : It) : List Nat := Wire.num x.name.size ++ bytesS x.name ++ Wire.num x.kind.toNat ++ x.sum
/-- the bytes of a right node -/
def enc (n : Nd) : List Nat :=
  Wire.num n.kind.toNat ++ (if n.kind = 1 then Wire.num n.data.size ++ bytesS n.data else if n.kind = 2 then Wire.num n.size.toNat ++ n.parts.flatten else Wire.num n.items.length ++ n.items.flatMap It.bytes)
/-- a digest that is read: what it is, what is left, what is wrong -/
def rdigest (bs : List Nat) : List Nat × List Nat × Nat := if bs.length < 32 then (List.replicate 32 0, [], 20) else (bs.take 32, bs.drop 32, 0)
/-- what is still to be read, and what was wrong -/
abbrev Sta := List Nat × Nat
def sNum (s : Sta) : Nat × Sta := if s.2 = 0 then Wire.rnum s.1 else (0, s)
def sText (m : Nat) (s : Sta) : List Nat × Sta := if s.2 = 0 then Wire.rtext (m : Int) s.1 else ([], s)
def sDig (s : Sta) : List Nat × Sta := if s.2 = 0 then rdigest s.1 else (List.replicate 32 0, s)
def sParts : Nat → Sta → List (List Nat) × Sta
  | 0, s => ([], s)
  | c + 1, s => ((sParts c s).1 ++ [(sDig (sParts c s).2).1], (sDig (sParts c s).2).2)
def sItem (cut : Nat → Nat) (s : Sta) : It × Sta :=
  let a := sText 16 s
  let b := sNum a.2
  let c := sDig b.2
  (⟨str a.1, (cut b.1 : Int), c.1⟩, c.2)
def sItems (cut : Nat → Nat) : Nat → Sta → List It × Sta
  | 0, s => ([], s)
  | c + 1, s => ((sItems cut c s).1 ++ [(sItem cut (sItems cut c s).2).1], (sItem cut (sItems cut c s).2).2)
end Go.Proofs.YtngehkmdanhgpaaGreat.Nd
namespace Go.Proofs.YtngehkmdanhgpaaGreat.Rf
open Go.RowKit
open Vp (Str B bl Val cmpL parseS showS)
theorem hid_in {p : Prop} (h : p) : Hid p := h
theorem B_bl (s : ByteArray) : B (bl s) = s := by simp [B, bl]
/-- the names of a text; none of what is no path -/
def nmsOf (s : ByteArray) : List Str := (parseS (bl s)).1
def errOf (s : ByteArray) : Int := (parseS (bl s)).2
theorem rparse_n (s : ByteArray) (hs : s.size ≤ 9223372036854775807) (w : World) : Calls Tryz.prog 46 #[.string s] w fun e w' => ∃ v, e = .returned (.tuple #[v, .int .i64 (errOf s)]) ∧ Vp.Nms w' w.heap.size v (nmsOf s) ∧ Below w.heap.size w w' := by
  have h := Vp.rparse_any (bl s) (by rw [Vp.bl_length]; exact hs) w
  rw [B_bl] at h
  exact h
theorem names_any (s : ByteArray) (hs : s.size ≤ 9223372036854775807) (w : World) : Calls Tryz.prog 19 #[.string s] w fun e w' => (∃ v, e = .returned v ∧ Vp.Nms w' w.heap.size v (nmsOf s)) ∧ Below w.heap.size w w' := by
  have HP := hid_in (rparse_n s hs w)
  clear hs
  go_enter Tryz.func19, Tryz.ntmps19
  go_wp2_with (first | (go_at_call 46; refine HP.out.mono ?_; rintro e w1 ⟨v1, rfl, h1, h2⟩; have HN := hid_in h1; have HB := hid_in h2; clear h1 h2))
  go_ret
  exact ⟨⟨_, rfl, HN.out⟩, HB.out⟩
/-- a value that reads as paths -/
def Pths (w : World) (v : Value) (ps : List (List Str)) : Prop := ∃ p cap b o, v = .slice p ps.length cap ∧ ps.length ≤ cap ∧ cap ≤ 9223372036854775807 ∧ (ps ≠ [] → p = some ⟨b, o, none⟩ ∧ b < w.heap.size) ∧ ∀ (i : Nat) x, ps[i]? = some x → ∃ u, w.cell? ⟨b, o + i, none⟩ = some u ∧ Val w u x
theorem Pths.below {w w' : World} {v : Value} {ps : List (List Str)} (h : Pths w v ps) (hb : Below w.heap.size w w') : Pths w' v ps := by
  obtain ⟨p, cap, b, o, h1, h2, h3, h4, h5⟩ := h
  refine ⟨p, cap, b, o, h1, h2, h3, fun hn => ⟨(h4 hn).1, Nat.lt_of_lt_of_le (h4 hn).2 hb.size⟩, fun i x hi => ?_⟩
  obtain ⟨u, h6, h7⟩ := h5 i x hi
  exact ⟨u, by rw [hb.cell (p := ⟨b, o + i, none⟩) (h4 (by rintro rfl; simp at hi)).2]; exact h6, h7.below hb⟩
theorem Pths.drewN {w : World} {v : Value} {ps : List (List Str)} (h : Pths w v ps) (m : Nat) : Pths (w.drewN m) v ps := h.below (below_drewN (Below.refl _ _) m)
/-- the first place at which a path stands -/
def IsPlace (ps : List (List Str)) (x : List Str) (k : Int) : Prop := (k = -1 ∧ x ∉ ps) ∨ ∃ i : Nat, k = (i : Int) ∧ ps[i]? = some x ∧ ∀ j : Nat, j < i → ps[j]? ≠ some x
set_option maxHeartbeats 1000000 in
set_option maxRecDepth 100000 in
theorem place_any (w : World) (v u : Value) (ps : List (List Str)) (x : List Str) (hv : Pths w v ps) (hu : Val w u x) : Calls Tryz.prog 57 #[v, u] w fun e w' => (∃ k, e = .returned (.int .i64 k) ∧ IsPlace ps x k) ∧ ∃ m, w' = w.drewN m := by
  have HV := hid_in hv
  have HU := hid_in hu
  obtain ⟨p, cap, b, o, rfl, h1, h2, h3, h4⟩ := hv
  have H3 := hid_in h3
  have H4 := hid_in h4
  clear h3 h4 hu
  go_enter Tryz.func57, Tryz.ntmps57
  go_wp2_with fail
  go_loopw [5] (fun vk W => ∃ j : Nat, vk = .int .i64 (j : Int) ∧ j ≤ ps.length ∧ (∀ i : Nat, i < j → ps[i]? ≠ some x) ∧ ∃ m, W = w.drewN m) (fun vk _ => ps.length - (intOf vk).toNat)
  case atStart => exact ⟨0, rfl, by omega, fun i h => by omega, 0, rfl⟩
  case round =>
    obtain ⟨j, rfl, hj, hno, m, hWW⟩ := hrel
    have HNO := hid_in hno
    have HM : Hid (∃ m, wr = w.drewN m) := ⟨m, hWW⟩
    clear hno
    by_cases hl : j < ps.length
    · have k1 : (j : Int) < (ps.length : Int) := by omega
      obtain ⟨y, hy⟩ : ∃ y, ps[j]? = some y := ⟨_, List.getElem?_eq_getElem hl⟩
      have hne : ps ≠ [] := by rintro rfl; simp at hl
      obtain ⟨rfl, _⟩ := H3.out hne
      obtain ⟨uy, h5, h6⟩ := H4.out j y hy
      have c0 : wr.cell? ⟨b, o + j, none⟩ = some uy := by rw [hWW]; simpa [World.cell?] using h5
      have HC := hid_in (Vp.rcompare_v (w := wr) (h6.drew ⟨m, hWW⟩) (HU.out.drew ⟨m, hWW⟩))
      have HY := hid_in hy
      clear hy hne h5 h6 hWW
      by_cases he : cmpL y x = 0
      · rw [he] at HC
        have HE : Hid (y = x) := (Vp.cmpL_is.zero y x).1 he
        clear he
        go_wp2_with (first | (go_at_call 21; refine HC.out.mono ?_; rintro e w1 ⟨rfl, hd1⟩; have HD1 := hid_in hd1; clear hd1))
        go_ret
        refine ⟨⟨_, rfl, .inr ⟨j, rfl, by rw [HY.out, HE.out], HNO.out⟩⟩, ?_⟩
        obtain ⟨m1, hm1⟩ := HM.out
        obtain ⟨m2, hm2⟩ := HD1.out
        exact ⟨m1 + m2, by rw [hm2, hm1]; simp [World.drewN, Nat.add_assoc]⟩
      · obtain ⟨c, Hc⟩ : ∃ c, Hid (cmpL y x = c) := ⟨_, rfl⟩
        have k2 : (c == 0) = false := beq_eq_false_iff_ne.2 (by rw [← Hc.out]; exact he)
        have HE : Hid (y ≠ x) := fun e => he ((Vp.cmpL_is.zero y x).2 e)
        rw [Hc.out] at HC
        clear he Hc
        go_wp2_with (first | (go_at_call 21; refine HC.out.mono ?_; rintro e w1 ⟨rfl, hd1⟩; have HD1 := hid_in hd1; clear hd1))
        refine ⟨⟨j + 1, by go_num, by omega, fun i hi => ?_, ?_⟩, by simp [intOf]; omega⟩
        · rcases (show i < j ∨ i = j by omega) with h | rfl
          · exact HNO.out i h
          · rw [HY.out]
            exact fun e => HE.out (Option.some.inj e)
        · obtain ⟨m1, hm1⟩ := HM.out
          obtain ⟨m2, hm2⟩ := HD1.out
          exact ⟨m1 + m2, by rw [hm2, hm1]; simp [World.drewN, Nat.add_assoc]⟩
    · have k1 : ¬ ((j : Int) < (ps.length : Int)) := by omega
      clear hWW
      go_wp2
      go_ret
      refine ⟨⟨_, rfl, .inl ⟨rfl, fun hx => ?_⟩⟩, HM.out⟩
      obtain ⟨i, hi⟩ := List.getElem?_of_mem hx
      exact HNO.out i (by have := (List.getElem?_eq_some_iff.1 hi).1; omega) hi
end Go.Proofs.YtngehkmdanhgpaaGreat.Rf
namespace Go.Proofs.YtngehkmdanhgpaaGreat.Nd
open Go.RowKit
/-- a value is stored into a block that was just laid -/
theorem wpList_store_new {ops : Array Oper} {rest : List Oper} {op : Oper} {a : Act} {w : World} {Q : Exit → Act → World → Prop} (hgd : op.guard = none) (hd : op.dst = none) (t : TypeId) (k : Nat) (x y : Operand) (ho : op.op = .store t x y) (C : Array Value) (V : List Value) (hi : (Tryz.prog.info? t).map (·.size) = some k) (hC : C.size = k) (hV : Hid (V.length = k)) (h1 : Hid (∀ v ∈ V, v.oneCell' = true))
    (hx : a.eval x = .pointer (some ⟨w.heap.size, 0, none⟩)) (hy : a.eval y = .agg V.toArray) (h : ∀ w', Row w' w.heap.size V t → Below w.heap.size w w' → w'.heap.size = w.heap.size + 1 → wpList Tryz.prog ops Q rest a w') : wpList Tryz.prog ops Q (op :: rest) a (w.alloc (.cells C t)) := by
  have e : C = C.toList.toArray := rfl
  rw [e]
  refine wpList_store_Row hgd t x y ho w.heap.size 0 V hx hy t C.toList (Row.newAt w _ C.toList t rfl) k hi hV.out (by simp; omega) h1.out ?_
  intro w' hr hg hs
  rw [splice_all _ _ (by rw [hV.out]; simp; omega)] at hr
  have e2 : a.put op.dst undef = a := by rw [hd]; rfl
  rw [e2]
  exact h w' hr (below_of_grown ((Below.refl _ _).alloc (Nat.le_refl _) _) hg (by simp) (Nat.le_refl _)) (by rw [hs]; simp)
theorem below_drewN {B : Nat} {a w : World} (h : Below B a w) (n : Nat) : Below B a (w.drewN n) :=
  ⟨h.os, h.tape, h.output, by simpa using h.size, fun k hk => by simpa using h.block k hk⟩
/-- take operation i first: what it leaves lies in slot d -/
theorem take_put {P : Program} {ops : Array Oper} {Q : Exit → Act → World → Prop} {md : Region.Mode} {S : World → Prop} {i d : Nat} {oi : Oper} {v : Value} {fuel : Nat} {listed : Array Bool} {a : Act} {w : World} (hi : ops[i]? = some oi) (hd : oi.dst = some d)
    (hs : Region.noSelect ops = true) (hf : Region.free md ops listed i = true) (hr : (Region.ready md ops listed).contains i = true)
    (hQ : ∀ c a w, Q (.panic c) (a.put (some d) v) w → Q (.panic c) a w) (hy : YieldsIf P ops S oi v a) (hS : S w)
    (h : wpAnyH P md ops Q S fuel (listed.setIfInBounds i true) (a.put (some d) v) w) : wpAnyH P md ops Q S (fuel + 1) listed a w :=
  wpAnyH_take hi hs hf hr (by rw [hd]; exact hQ) hy hS (by rw [hd]; exact h)
/-- a call says whether P -/
def Says (e : Ending) (P : Prop) : Prop := ∃ R, e = .returned (.bool R) ∧ (R = true ↔ P)
theorem Says.no {e : Ending} {P : Prop} (h : e = .returned (.bool false)) (hp : ¬ P) : Says e P := ⟨false, h, ⟨fun h => (by cases h), fun h => absurd h hp⟩⟩
theorem Says.yes {e : Ending} {P : Prop} (h : e = .returned (.bool true)) (hp : P) : Says e P := ⟨true, h, ⟨fun _ => hp, fun _ => rfl⟩⟩
theorem Says.cases {e : Ending} {P : Prop} (h : Says e P) : (e = .returned (.bool true) ∧ P) ∨ (e = .returned (.bool false) ∧ ¬ P) := by
  obtain ⟨R, h1, h2⟩ := h
  cases R
  · exact .inr ⟨h1, fun h => by cases h2.2 h⟩
  · exact .inl ⟨h1, h2.1 rfl⟩
theorem It.one (x : It) : ∀ v ∈ x.cells, v.oneCell' = true := by
  intro v hv
  simp only [It.cells, List.mem_cons] at hv
  rcases hv with rfl | rfl | hv
  · rfl
  · rfl
  · exact one_u8 _ v hv
/-- an element of a slice of items -/
theorem Els.item {w : World} {l : List It} {b o : Nat} (h : ∀ (i : Nat) us, (l.map It.cells)[i]? = some us → w.rangeAt b (o + i * 34) us) {i : Nat} {x : It} (hx : l[i]? = some x) : w.rangeAt b (o + i * 34) x.cells := h i x.cells (by simp [hx])
/-- k cells lie there -/
def has (k : Nat) (w : World) (b o : Nat) : Prop := ∀ j, j < k → (w.cell? ⟨b, o + j, none⟩).isSome = true
def cellsAt (k : Nat) (w : World) (b o : Nat) : List Value := (List.range k).map fun j => (w.cell? ⟨b, o + j, none⟩).getD undef
def ptrB : Value → Nat
  | .pointer (some a) => a.block
  | _ => 0
def ptrO : Value → Nat
  | .pointer (some a) => a.off
  | _ => 0
theorem ptrB_pointer (a : Addr) : ptrB (.pointer (some a)) = a.block := by simp only [ptrB]
theorem ptrO_pointer (a : Addr) : ptrO (.pointer (some a)) = a.off := by simp only [ptrO]
theorem has_drewN (k : Nat) (w : World) (b o n : Nat) : has k (w.drewN n) b o = has k w b o := by simp [has]
theorem cellsAt_drewN (k : Nat) (w : World) (b o n : Nat) : cellsAt k (w.drewN n) b o = cellsAt k w b o := by simp [cellsAt]
theorem has_drew (k : Nat) (w : World) (b o : Nat) : has k w.drew b o = has k w b o := rfl
theorem cellsAt_drew (k : Nat) (w : World) (b o : Nat) : cellsAt k w.drew b o = cellsAt k w b o := rfl
attribute [local go_sem] has_drewN cellsAt_drewN has_drew cellsAt_drew ptrB_pointer ptrO_pointer
end Go.Proofs.YtngehkmdanhgpaaGreat.Nd
namespace Go.Proofs.YtngehkmdanhgpaaGreat.Nd
open Go.RowKit
theorem Says.mono {e : Ending} {P Q : Prop} (h : Says e P) (hpq : P ↔ Q) : Says e Q := by
  obtain ⟨R, h1, h2⟩ := h
  exact ⟨R, h1, h2.trans hpq⟩
end Go.Proofs.YtngehkmdanhgpaaGreat.Nd
namespace Go.Proofs.YtngehkmdanhgpaaGreat.Nd
open Go.RowKit
/-- a number, cut off above the most -/
def cutN (m n : Nat) : Nat := min n (m + 1)
end Go.Proofs.YtngehkmdanhgpaaGreat.Nd
namespace Go.Proofs.YtngehkmdanhgpaaGreat.Nd
open Go.RowKit
theorem splice_get_in {α : Type} (L : List α) (o : Nat) (new : List α) (h : o + new.length ≤ L.length) (y : Nat) (u : α) (hy : new[y]? = some u) : (splice L o new)[o + y]? = some u := by
  have hl : y < new.length := (List.getElem?_eq_some_iff.1 hy).1
  unfold splice
  rw [List.getElem?_append_right (by simp; omega), List.getElem?_append_left (by simp; omega), ← hy]
  congr 1
  simp
  omega
theorem splice_get_lo {α : Type} (L : List α) (o : Nat) (new : List α) (h : o ≤ L.length) (y : Nat) (hy : y < o) : (splice L o new)[y]? = L[y]? := by
  unfold splice
  rw [List.getElem?_append_left (by simp; omega), List.getElem?_take]
  simp [hy]
theorem splice_length {α : Type} (L : List α) (o : Nat) (new : List α) (h : o + new.length ≤ L.length) : (splice L o new).length = L.length := by
  unfold splice
  simp
  omega
/-- the first cells of a row are these elements, k cells each -/
def Fills (vs : List Value) (k : Nat) (xs : List (List Value)) : Prop := ∀ (i : Nat) us, xs[i]? = some us → ∀ (y : Nat) u, us[y]? = some u → vs[i * k + y]? = some u
theorem Fills.snoc {vs : List Value} {k : Nat} {xs : List (List Value)} (h : Fills vs k xs) (hx : ∀ us ∈ xs, us.length = k) (new : List Value) (hn : new.length = k) (hl : (xs.length + 1) * k ≤ vs.length) : Fills (splice vs (xs.length * k) new) k (xs ++ [new]) := by
  have hk : (xs.length + 1) * k = xs.length * k + k := by rw [Nat.add_mul, Nat.one_mul]
  intro i us hi y u hy
  rcases Nat.lt_or_ge i xs.length with h1 | h1
  · rw [List.getElem?_append_left h1] at hi
    have hyl : y < k := by rw [← hx us (List.mem_of_getElem? hi)]; exact (List.getElem?_eq_some_iff.1 hy).1
    have hik : i * k + k ≤ xs.length * k := by
      have := Nat.mul_le_mul_right k (show i + 1 ≤ xs.length from h1)
      rw [Nat.add_mul, Nat.one_mul] at this
      exact this
    rw [splice_get_lo _ _ _ (by omega) _ (by omega)]
    exact h i us hi y u hy
  · rw [List.getElem?_append_right h1] at hi
    have h2 : i - xs.length = 0 := by
      have := (List.getElem?_eq_some_iff.1 hi).1
      simp at this
      omega
    obtain rfl : i = xs.length := by omega
    simp at hi
    subst hi
    exact splice_get_in _ _ _ (by omega) y u hy
/-- a row that was just made, as a block that is known whole -/
theorem made_row {w : World} {e : TypeId} {size n g : Nat} {xs : List Value} (h : w.ownsRow g e size (.slice (some ⟨g, 0, none⟩) n n) n xs) : ∃ vs, Row w g vs e ∧ vs.length = n * size := by
  obtain ⟨_, ⟨h1, _⟩ | ⟨g', cap, cur, h1, _, h2, _, _, h3, _⟩⟩ := h
  · cases h1
  · cases h1
    exact ⟨cur.toList, by simpa [Row] using h2, by simpa using h3⟩
end Go.Proofs.YtngehkmdanhgpaaGreat.Nd
namespace Go.Proofs.YtngehkmdanhgpaaGreat.Nd
open Go.RowKit
/-- what is read as a node, right or not -/
def rd (s : Sta) : Nd × Sta :=
  let a := sNum s
  let k := cutN 3 a.1
  if k = 1 then (⟨1, str (sText 64 a.2).1, 0, [], []⟩, (sText 64 a.2).2)
  else if k = 2 then
    let b := sNum a.2
    let z := cutN 1024 b.1
    (⟨2, ByteArray.empty, z, (sParts (pieces z) b.2).1, []⟩, (sParts (pieces z) b.2).2)
  else if k = 3 then
    let b := sNum a.2
    let z := cutN 64 b.1
    (⟨3, ByteArray.empty, 0, [], (sItems (cutN 3) z b.2).1⟩, (sItems (cutN 3) z b.2).2)
  else (⟨k, ByteArray.empty, 0, [], []⟩, a.2)
theorem set5 {W : World} {Z : Nat} {t : TypeId} {a0 a1 a2 a3 a4 : Value} (h : Row W Z [a0, a1, a2, a3, a4] t) (b0 b1 b2 b3 b4 : Value) :
    Row (((((W.setCell ⟨Z, 0, none⟩ b0).setCell ⟨Z, 1, none⟩ b1).setCell ⟨Z, 2, none⟩ b2).setCell ⟨Z, 3, none⟩ b3).setCell ⟨Z, 4, none⟩ b4) Z [b0, b1, b2, b3, b4] t ∧ W.grownBy (((((W.setCell ⟨Z, 0, none⟩ b0).setCell ⟨Z, 1, none⟩ b1).setCell ⟨Z, 2, none⟩ b2).setCell ⟨Z, 3, none⟩ b3).setCell ⟨Z, 4, none⟩ b4) (some Z) :=
  ⟨((((h.set_same 0 b0).set_same 1 b1).set_same 2 b2).set_same 3 b3).set_same 4 b4,
    grownBy_trans (grownBy_trans (grownBy_trans (grownBy_trans (grownBy_setCell W ⟨Z, 0, none⟩ b0) (grownBy_setCell _ ⟨Z, 1, none⟩ b1)) (grownBy_setCell _ ⟨Z, 2, none⟩ b2)) (grownBy_setCell _ ⟨Z, 3, none⟩ b3)) (grownBy_setCell _ ⟨Z, 4, none⟩ b4)⟩
/-- the slices of a node lie in blocks from lo on -/
def Fresh (lo : Nat) (v : Value) : Prop := ∀ k d s vp vi, v = .agg #[.int .i64 k, .string d, .int .i64 s, vp, vi] → (∀ q, Value.ownBlock vp = some q → lo ≤ q) ∧ ∀ q, Value.ownBlock vi = some q → lo ≤ q
theorem Fresh.mono {lo lo' : Nat} {v : Value} (h : Fresh lo v) (hl : lo' ≤ lo) : Fresh lo' v := fun k d s vp vi e => ⟨fun q hq => Nat.le_trans hl ((h k d s vp vi e).1 q hq), fun q hq => Nat.le_trans hl ((h k d s vp vi e).2 q hq)⟩
theorem IsN.grown {w w' : World} {v : Value} {n : Nd} {lo z : Nat} (h : IsN w v n) (hg : w.grownBy w' (some z)) (hf : Fresh lo v) (hz : z < lo) : IsN w' v n := by
  obtain ⟨vp, vi, e, hp, hi⟩ := h.ex
  obtain ⟨f1, f2⟩ := hf _ _ _ _ _ e
  exact ⟨⟨vp, vi, e, hp.grown hg (fun q hq => by have := f1 q hq; omega), hi.grown hg (fun q hq => by have := f2 q hq; omega)⟩, h.ok⟩
theorem rd_1 {s : Sta} (h : cutN 3 (sNum s).1 = 1) : rd s = (⟨1, str (sText 64 (sNum s).2).1, 0, [], []⟩, (sText 64 (sNum s).2).2) := by simp [rd, h]
theorem rd_2 {s : Sta} (h : cutN 3 (sNum s).1 = 2) {z : Nat} (hz : cutN 1024 (sNum (sNum s).2).1 = z) : rd s = (⟨2, ByteArray.empty, z, (sParts (pieces z) (sNum (sNum s).2).2).1, []⟩, (sParts (pieces z) (sNum (sNum s).2).2).2) := by subst hz; simp [rd, h]
theorem rd_3 {s : Sta} (h : cutN 3 (sNum s).1 = 3) {z : Nat} (hz : cutN 64 (sNum (sNum s).2).1 = z) : rd s = (⟨3, ByteArray.empty, 0, [], (sItems (cutN 3) z (sNum (sNum s).2).2).1⟩, (sItems (cutN 3) z (sNum (sNum s).2).2).2) := by subst hz; simp [rd, h]
end Go.Proofs.YtngehkmdanhgpaaGreat.Nd
namespace Go.Proofs.YtngehkmdanhgpaaGreat.Nd
open Go.RowKit
theorem IsN.form {w : World} {v : Value} {n : Nd} (h : IsN w v n) : ∃ pp cp pi ci, v = .agg #[.int .i64 n.kind, .string n.data, .int .i64 n.size, .slice pp n.parts.length cp, .slice pi n.items.length ci] := by
  obtain ⟨vp, vi, rfl, hp, hi⟩ := h.ex
  obtain ⟨pp, cp, _, _, rfl, _⟩ := hp.ex
  obtain ⟨pi, ci, _, _, rfl, _⟩ := hi.ex
  exact ⟨pp, cp, pi, ci, by simp⟩
theorem post_Row2 {P : Program} {fn : Func} {R : Ending → World → Prop} {a : Act} {w : World} (p u : Tmp) (ty : TypeId) (hf : fn.results = #[.cell p ty, .tmp u]) (g : Nat) (hp : a.tmps.getD p undef = .pointer (some ⟨g, 0, none⟩))
    (t : TypeId) (vs : List Value) (hr : Row w g vs t) (d : TypeDesc) (hu : P.underlying ty = some d) (hd : (match d with | .struct _ | .array _ _ => true | _ => false) = true) (n : Nat) (hi : (P.info? ty).map (·.size) = some n) (hn : vs.length = n)
    (hdf : a.defers = []) (h : R (.returned (.tuple #[.agg vs.toArray, a.tmps.getD u undef])) w) : bodyPost P fn R .ret a w := by
  refine bodyPost_ret ?_ hdf h
  rw [results_cell_tmp hf, hp]
  have hl := run_loadVar_row (P := P) w g t ty vs.toArray (0, 0) d hr hu hd (by rw [hi]; simp [hn])
  simp [asAddr, hl]
end Go.Proofs.YtngehkmdanhgpaaGreat.Nd
namespace Go.Proofs.YtngehkmdanhgpaaGreat.Nd
open Go.RowKit
theorem Els.own {w : World} {v : Value} {k : Nat} {xs : List (List Value)} (h : Els w v k xs) (hne : xs ≠ []) : ∀ q, v.ownBlock = some q → q < w.heap.size := by
  obtain ⟨p, cap, b, o, rfl, _, _, h3, _⟩ := h.ex
  obtain ⟨rfl, hb⟩ := h3 hne
  intro q hq
  cases hq
  exact hb
end Go.Proofs.YtngehkmdanhgpaaGreat.Nd
namespace Go.Proofs.YtngehkmdanhgpaaGreat.Nd
open Go.RowKit
theorem enc_1 {n : Nd} (h : n.kind = 1) : enc n = Wire.num 1 ++ (Wire.num n.data.size ++ bytesS n.data) := by simp [enc, h]
theorem enc_2 {n : Nd} (h : n.kind = 2) : enc n = Wire.num 2 ++ Wire.num n.size.toNat ++ n.parts.flatten := by simp [enc, h]
theorem enc_3 {n : Nd} (h : n.kind = 3) : enc n = Wire.num 3 ++ Wire.num n.items.length ++ n.items.flatMap It.bytes := by simp [enc, h]
theorem itemsOk_kind {l : List It} (h : itemsOk l) : ∀ x ∈ l, 0 ≤ x.kind ∧ x.name.size ≤ 16 := by
  intro x hx
  obtain ⟨i, hi, rfl⟩ := List.getElem_of_mem hx
  have h1 := (h.2 i hi _ (List.getElem?_eq_getElem hi)).1
  unfold itemOk at h1
  simp only [Bool.and_eq_true, Bool.or_eq_true, beq_iff_eq] at h1
  obtain ⟨h2, h3⟩ := h1
  unfold isNameS at h3
  simp only [Bool.and_eq_true, decide_eq_true_eq] at h3
  have h4 := h3.1.2
  rw [bl_length] at h4
  exact ⟨by rcases h2 with h | h <;> omega, h4⟩
end Go.Proofs.YtngehkmdanhgpaaGreat.Nd
