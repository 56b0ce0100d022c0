/-
  Nodes as the document has them: when one is right, its bytes; slices of cells in the world. The walk of areItems. A seat, the cells of a table of seats, and what is asked of them.
-/
import Derived.Laws.CopyOwn
import Derived.Deep.RegionLaw
import Derived.Deep.DrawnRows
import Derived.Deep.RegionHeld3
import Derived.Deep.CutRange
import Derived.Test.YtiijlnlkhpneaaaE00
import Derived.Test.YtiijlnlkhpneaaaE01
import Derived.Test.YtiijlnlkhpneaaaE02
import Derived.Test.YtiijlnlkhpneaaaE03
import Derived.Test.YtiijlnlkhpneaaaE04
namespace Go.Proofs.Ytiijlnlkhpneaaa.Nd
open Go.RowKit
/-- a directory's item -/
structure It where
  name : ByteArray
  kind : Int
  sum : List Nat
/-- a node -/
structure Nd where
  kind : Int
  data : ByteArray
  size : Int
  parts : List (List Nat)
  items : List It
def It.cells (x : It) : List Value := .string x.name :: .int .i64 x.kind :: x.sum.map u8v
def dcells (d : List Nat) : List Value := d.map u8v
/-- 32 bytes -/
def Dg (d : List Nat) : Prop := d.length = 32 ∧ ∀ x ∈ d, x < 256
def i64 (n : Int) : Prop := -9223372036854775808 ≤ n ∧ n ≤ 9223372036854775807
structure It.ok (x : It) : Prop where
  sum : Dg x.sum
  kind : i64 x.kind
structure Nd.ok (n : Nd) : Prop where
  parts : ∀ d ∈ n.parts, Dg d
  items : ∀ x ∈ n.items, x.ok
  kind : i64 n.kind
  size : i64 n.size
/-- a slice whose elements have k cells each -/
structure Els (w : World) (v : Value) (k : Nat) (xs : List (List Value)) : Prop where
  ex : ∃ p cap b o, v = .slice p xs.length cap ∧ xs.length ≤ cap ∧ cap ≤ 9223372036854775807 ∧ (xs ≠ [] → p = some ⟨b, o, none⟩ ∧ b < w.heap.size) ∧ ∀ (i : Nat) us, xs[i]? = some us → w.rangeAt b (o + i * k) us
  each : ∀ us ∈ xs, us.length = k
theorem rangeAt_below {w w' : World} {B b o : Nat} {cs : List Value} (h : w.rangeAt b o cs) (hb : Below B w w') (hlt : b < B) : w'.rangeAt b o cs := fun j v hv => by
  rw [hb.cell (p := ⟨b, o + j, none⟩) hlt]; exact h j v hv
theorem Els.below {w w' : World} {v : Value} {k : Nat} {xs : List (List Value)} (h : Els w v k xs) (hb : Below w.heap.size w w') : Els w' v k xs := by
  obtain ⟨p, cap, b, o, rfl, h1, h2, h3, h4⟩ := h.ex
  refine ⟨⟨p, cap, b, o, rfl, h1, h2, fun hne => ⟨(h3 hne).1, Nat.lt_of_lt_of_le (h3 hne).2 hb.size⟩, fun i us hi => ?_⟩, h.each⟩
  have hne : xs ≠ [] := by rintro rfl; simp at hi
  exact rangeAt_below (h4 i us hi) hb (h3 hne).2
theorem Els.grown {w w' : World} {v : Value} {k z : Nat} {xs : List (List Value)} (h : Els w v k xs) (hg : w.grownBy w' (some z)) (hz : ∀ q, v.ownBlock = some q → q ≠ z) : Els w' v k xs := by
  obtain ⟨p, cap, b, o, rfl, h1, h2, h3, h4⟩ := h.ex
  refine ⟨⟨p, cap, b, o, rfl, h1, h2, fun hne => ⟨(h3 hne).1, Nat.lt_of_lt_of_le (h3 hne).2 hg.size⟩, fun i us hi => ?_⟩, h.each⟩
  have hne : xs ≠ [] := by rintro rfl; simp at hi
  have hbz : b ≠ z := hz b (by rw [(h3 hne).1]; rfl)
  intro j u hu
  rw [World.cell?_of_block (a := ⟨b, o + i * k + j, none⟩) (hg.block b (h3 hne).2 (by simpa using hbz))]
  exact h4 i us hi j u hu
theorem Els.nil (w : World) (k : Nat) : Els w (.slice none 0 0) k [] :=
  ⟨⟨none, 0, 0, 0, rfl, Nat.le_refl _, by decide, fun h => absurd rfl h, fun i us h => by simp at h⟩, fun us h => by cases h⟩
/-- the value of a node that lies in the world -/
structure IsN (w : World) (v : Value) (n : Nd) : Prop where
  ex : ∃ vp vi, v = .agg #[.int .i64 n.kind, .string n.data, .int .i64 n.size, vp, vi] ∧ Els w vp 32 (n.parts.map dcells) ∧ Els w vi 34 (n.items.map It.cells)
  ok : n.ok
theorem IsN.below {w w' : World} {v : Value} {n : Nd} (h : IsN w v n) (hb : Below w.heap.size w w') : IsN w' v n := by
  obtain ⟨vp, vi, h1, h2, h3⟩ := h.ex
  exact ⟨⟨vp, vi, h1, h2.below hb, h3.below hb⟩, h.ok⟩
/-- does the first text come behind the second, or is it the same? -/
def geS (a b : ByteArray) : Bool := !Op.bytesLess a.toList b.toList
def itemOk (x : It) : Bool := (x.kind == 2 || x.kind == 3) && isNameS (bl x.name)
def okAt (l : List It) (i : Nat) : Prop := ∀ x, l[i]? = some x → itemOk x = true ∧ (0 < i → ∀ y, l[i - 1]? = some y → geS y.name x.name = false)
def itemsOk (l : List It) : Prop := l.length ≤ 64 ∧ ∀ i, i < l.length → okAt l i
def pieces (n : Int) : Nat := ((n + 63) / 64).toNat
def right (n : Nd) : Prop :=
  (n.kind = 1 ∧ 1 ≤ n.data.size ∧ n.data.size ≤ 64 ∧ n.size = 0 ∧ n.parts = [] ∧ n.items = []) ∨
  (n.kind = 2 ∧ n.data.size = 0 ∧ 0 ≤ n.size ∧ n.size ≤ 1024 ∧ n.parts.length = pieces n.size ∧ n.items = []) ∨
  (n.kind = 3 ∧ n.data.size = 0 ∧ n.size = 0 ∧ n.parts = [] ∧ itemsOk n.items)
def It.bytes (x : It) : List Nat := Wire.num x.name.size ++ bytesS x.name ++ Wire.num x.kind.toNat ++ x.sum
/-- the bytes of a right node -/
def enc (n : Nd) : List Nat :=
  Wire.num n.kind.toNat ++ (if n.kind = 1 then Wire.num n.data.size ++ bytesS n.data else if n.kind = 2 then Wire.num n.size.toNat ++ n.parts.flatten else Wire.num n.items.length ++ n.items.flatMap It.bytes)
/-- a digest that is read: what it is, what is left, what is wrong -/
def rdigest (bs : List Nat) : List Nat × List Nat × Nat := if bs.length < 32 then (List.replicate 32 0, [], 20) else (bs.take 32, bs.drop 32, 0)
/-- what is still to be read, and what was wrong -/
abbrev Sta := List Nat × Nat
def sNum (s : Sta) : Nat × Sta := if s.2 = 0 then Wire.rnum s.1 else (0, s)
def sText (m : Nat) (s : Sta) : List Nat × Sta := if s.2 = 0 then Wire.rtext (m : Int) s.1 else ([], s)
def sDig (s : Sta) : List Nat × Sta := if s.2 = 0 then rdigest s.1 else (List.replicate 32 0, s)
def sParts : Nat → Sta → List (List Nat) × Sta
  | 0, s => ([], s)
  | c + 1, s => ((sParts c s).1 ++ [(sDig (sParts c s).2).1], (sDig (sParts c s).2).2)
def sItem (cut : Nat → Nat) (s : Sta) : It × Sta :=
  let a := sText 16 s
  let b := sNum a.2
  let c := sDig b.2
  (⟨str a.1, (cut b.1 : Int), c.1⟩, c.2)
def sItems (cut : Nat → Nat) : Nat → Sta → List It × Sta
  | 0, s => ([], s)
  | c + 1, s => ((sItems cut c s).1 ++ [(sItem cut (sItems cut c s).2).1], (sItem cut (sItems cut c s).2).2)
end Go.Proofs.Ytiijlnlkhpneaaa.Nd
namespace Go.Proofs.Ytiijlnlkhpneaaa.Nd
open Go.RowKit
/-- a value is stored into a block that was just laid -/
theorem wpList_store_new {ops : Array Oper} {rest : List Oper} {op : Oper} {a : Act} {w : World} {Q : Exit → Act → World → Prop} (hgd : op.guard = none) (hd : op.dst = none) (t : TypeId) (k : Nat) (x y : Operand) (ho : op.op = .store t x y) (C : Array Value) (V : List Value) (hi : (Try.prog.info? t).map (·.size) = some k) (hC : C.size = k) (hV : Hid (V.length = k)) (h1 : Hid (∀ v ∈ V, v.oneCell' = true))
    (hx : a.eval x = .pointer (some ⟨w.heap.size, 0, none⟩)) (hy : a.eval y = .agg V.toArray) (h : ∀ w', Row w' w.heap.size V t → Below w.heap.size w w' → w'.heap.size = w.heap.size + 1 → wpList Try.prog ops Q rest a w') : wpList Try.prog ops Q (op :: rest) a (w.alloc (.cells C t)) := by
  have e : C = C.toList.toArray := rfl
  rw [e]
  refine wpList_store_Row hgd t x y ho w.heap.size 0 V hx hy t C.toList (Row.newAt w _ C.toList t rfl) k hi hV.out (by simp; omega) h1.out ?_
  intro w' hr hg hs
  rw [splice_all _ _ (by rw [hV.out]; simp; omega)] at hr
  have e2 : a.put op.dst undef = a := by rw [hd]; rfl
  rw [e2]
  exact h w' hr (below_of_grown ((Below.refl _ _).alloc (Nat.le_refl _) _) hg (by simp) (Nat.le_refl _)) (by rw [hs]; simp)
theorem below_drewN {B : Nat} {a w : World} (h : Below B a w) (n : Nat) : Below B a (w.drewN n) :=
  ⟨h.os, h.tape, h.output, by simpa using h.size, fun k hk => by simpa using h.block k hk⟩
/-- take operation i first: what it leaves lies in slot d -/
theorem take_put {P : Program} {ops : Array Oper} {Q : Exit → Act → World → Prop} {md : Region.Mode} {S : World → Prop} {i d : Nat} {oi : Oper} {v : Value} {fuel : Nat} {listed : Array Bool} {a : Act} {w : World} (hi : ops[i]? = some oi) (hd : oi.dst = some d)
    (hs : Region.noSelect ops = true) (hf : Region.free md ops listed i = true) (hr : (Region.ready md ops listed).contains i = true)
    (hQ : ∀ c a w, Q (.panic c) (a.put (some d) v) w → Q (.panic c) a w) (hy : YieldsIf P ops S oi v a) (hS : S w)
    (h : wpAnyH P md ops Q S fuel (listed.setIfInBounds i true) (a.put (some d) v) w) : wpAnyH P md ops Q S (fuel + 1) listed a w :=
  wpAnyH_take hi hs hf hr (by rw [hd]; exact hQ) hy hS (by rw [hd]; exact h)
/-- a call says whether P -/
def Says (e : Ending) (P : Prop) : Prop := ∃ R, e = .returned (.bool R) ∧ (R = true ↔ P)
theorem Says.no {e : Ending} {P : Prop} (h : e = .returned (.bool false)) (hp : ¬ P) : Says e P := ⟨false, h, ⟨fun h => (by cases h), fun h => absurd h hp⟩⟩
theorem Says.cases {e : Ending} {P : Prop} (h : Says e P) : (e = .returned (.bool true) ∧ P) ∨ (e = .returned (.bool false) ∧ ¬ P) := by
  obtain ⟨R, h1, h2⟩ := h
  cases R
  · exact .inr ⟨h1, fun h => by cases h2.2 h⟩
  · exact .inl ⟨h1, h2.1 rfl⟩
theorem It.one (x : It) : ∀ v ∈ x.cells, v.oneCell' = true := by
  intro v hv
  simp only [It.cells, List.mem_cons] at hv
  rcases hv with rfl | rfl | hv
  · rfl
  · rfl
  · exact one_u8 _ v hv
/-- an element of a slice of items -/
theorem Els.item {w : World} {l : List It} {b o : Nat} (h : ∀ (i : Nat) us, (l.map It.cells)[i]? = some us → w.rangeAt b (o + i * 34) us) {i : Nat} {x : It} (hx : l[i]? = some x) : w.rangeAt b (o + i * 34) x.cells := h i x.cells (by simp [hx])
/-- k cells lie there -/
def has (k : Nat) (w : World) (b o : Nat) : Prop := ∀ j, j < k → (w.cell? ⟨b, o + j, none⟩).isSome = true
def cellsAt (k : Nat) (w : World) (b o : Nat) : List Value := (List.range k).map fun j => (w.cell? ⟨b, o + j, none⟩).getD undef
def ptrB : Value → Nat
  | .pointer (some a) => a.block
  | _ => 0
def ptrO : Value → Nat
  | .pointer (some a) => a.off
  | _ => 0
theorem ptrB_pointer (a : Addr) : ptrB (.pointer (some a)) = a.block := by simp only [ptrB]
theorem ptrO_pointer (a : Addr) : ptrO (.pointer (some a)) = a.off := by simp only [ptrO]
theorem has_drewN (k : Nat) (w : World) (b o n : Nat) : has k (w.drewN n) b o = has k w b o := by simp [has]
theorem cellsAt_drewN (k : Nat) (w : World) (b o n : Nat) : cellsAt k (w.drewN n) b o = cellsAt k w b o := by simp [cellsAt]
theorem has_drew (k : Nat) (w : World) (b o : Nat) : has k w.drew b o = has k w b o := rfl
theorem cellsAt_drew (k : Nat) (w : World) (b o : Nat) : cellsAt k w.drew b o = cellsAt k w b o := rfl
attribute [local go_sem] has_drewN cellsAt_drewN has_drew cellsAt_drew ptrB_pointer ptrO_pointer
end Go.Proofs.Ytiijlnlkhpneaaa.Nd
namespace Go.Proofs.Ytiijlnlkhpneaaa.Se
open Go.RowKit
open Nd (Row wp_world post_Row grownBy_setCell below_of_grown)
theorem hid_in {p : Prop} (h : p) : Hid p := h
/-- a seat -/
structure Seat where
  client : Int
  number : Int
  at_ : Int
  kept : Bool
  reply : ByteArray
def Seat.cells (s : Seat) : List Value := [.int .i64 s.client, .int .i64 s.number, .int .i64 s.at_, .bool s.kept, .string s.reply]
def noSeat : Seat := ⟨0, 0, 0, false, ⟨#[]⟩⟩
theorem Seat.cells_len (s : Seat) : s.cells.length = 5 := rfl
def tcells (T : List Seat) : List Value := T.flatMap Seat.cells
theorem tcells_len (T : List Seat) : (tcells T).length = T.length * 5 := by
  induction T with
  | nil => rfl
  | cons a r ih =>
    have : tcells (a :: r) = a.cells ++ tcells r := rfl
    rw [this, List.length_append, ih, Seat.cells_len]
    simp
    omega
theorem tcells_at : ∀ {T : List Seat} {i : Nat} {s : Seat}, T[i]? = some s → ∀ (j : Nat) v, s.cells[j]? = some v → (tcells T)[i * 5 + j]? = some v
  | [], i, s, h, _, _, _ => by simp at h
  | a :: r, 0, s, h, j, v, hv => by
    simp at h
    subst h
    have e : tcells (a :: r) = a.cells ++ tcells r := rfl
    have hj : j < a.cells.length := (List.getElem?_eq_some_iff.1 hv).1
    rw [e, Nat.zero_mul, Nat.zero_add, List.getElem?_append_left hj]
    exact hv
  | a :: r, i + 1, s, h, j, v, hv => by
    have h' : r[i]? = some s := by simpa using h
    have e : tcells (a :: r) = a.cells ++ tcells r := rfl
    have h1 := tcells_at h' j v hv
    rw [e, List.getElem?_append_right (by rw [Seat.cells_len]; omega), Seat.cells_len, show (i + 1) * 5 + j - 5 = i * 5 + j by omega]
    exact h1
theorem tcells_set : ∀ (T : List Seat) (i : Nat) (s : Seat), i < T.length → splice (tcells T) (i * 5) s.cells = tcells (T.set i s)
  | [], i, s, h => by simp at h
  | a :: r, 0, s, _ => by
    have e : tcells (a :: r) = a.cells ++ tcells r := rfl
    have e2 : tcells ((a :: r).set 0 s) = s.cells ++ tcells r := rfl
    rw [e, e2]
    unfold splice
    rw [Nat.zero_mul, Nat.zero_add, List.take_zero, Seat.cells_len, ← Seat.cells_len a, List.drop_left]
    rfl
  | a :: r, i + 1, s, h => by
    have ih := tcells_set r i s (by simpa using h)
    have e : tcells (a :: r) = a.cells ++ tcells r := rfl
    have e2 : tcells ((a :: r).set (i + 1) s) = a.cells ++ tcells (r.set i s) := rfl
    rw [e, e2, ← ih]
    unfold splice
    have h5 : (i + 1) * 5 = a.cells.length + i * 5 := by rw [Seat.cells_len]; omega
    rw [h5, List.take_length_add_append, Nat.add_assoc, List.drop_length_add_append]
    simp
/-- block g holds the room and eight seats -/
structure Tab (w : World) (g : Nat) (room : Int) (T : List Seat) : Prop where
  row : Row w g (.int .i64 room :: tcells T) 61
  len : T.length = 8
theorem size59 : (Try.prog.info? 59).map (·.size) = some 40 := by kernel_rfl
theorem size48 : (Try.prog.info? 48).map (·.size) = some 5 := by kernel_rfl
theorem Tab.lt {w : World} {g : Nat} {room : Int} {T : List Seat} (h : Tab w g room T) : g < w.heap.size := h.row.lt
theorem Tab.below {w w' : World} {g B : Nat} {room : Int} {T : List Seat} (h : Tab w g room T) (hb : Below B w w') (hB : g < B) : Tab w' g room T := ⟨h.row.below hb hB, h.len⟩
theorem Tab.grown {w w' : World} {g : Nat} {row : Option Nat} {room : Int} {T : List Seat} (h : Tab w g room T) (hb : w.grownBy w' row) (hB : some g ≠ row) : Tab w' g room T := ⟨h.row.grown hb hB, h.len⟩
theorem Tab.alloc {w : World} {g : Nat} {room : Int} {T : List Seat} (h : Tab w g room T) (o : Obj) : Tab (w.alloc o) g room T := ⟨h.row.alloc o, h.len⟩
theorem Tab.room_ {w : World} {g : Nat} {room : Int} {T : List Seat} (h : Tab w g room T) : w.cell? ⟨g, 0, none⟩ = some (.int .i64 room) := h.row.cell 0
theorem Tab.seat {w : World} {g : Nat} {room : Int} {T : List Seat} (h : Tab w g room T) {i : Nat} {s : Seat} (hi : T[i]? = some s) : w.rangeAt g (1 + i * 5) s.cells := fun j v hv => by
  rw [h.row.cell, show 1 + i * 5 + j = (i * 5 + j) + 1 by omega, List.getElem?_cons_succ]
  exact tcells_at hi j v hv
theorem Tab.seats {w : World} {g : Nat} {room : Int} {T : List Seat} (h : Tab w g room T) : (Instr.loadAt 59 (.pointer (some ⟨g, 1, none⟩))).run Try.prog w = .ok (.agg (tcells T).toArray) w :=
  run_loadAt_mid w g 1 59 (tcells T) _ (fun j v hv => by rw [h.row.cell, show 1 + j = j + 1 by omega, List.getElem?_cons_succ]; exact hv) Try.underlying59 rfl (by rw [size59, tcells_len, h.len])
theorem Tab.range {w : World} {g : Nat} {room : Int} {T : List Seat} (h : Tab w g room T) : Hid (w.rangeAt g 1 (tcells T)) := hid_in fun j v hv => by rw [h.row.cell, show 1 + j = j + 1 by omega, List.getElem?_cons_succ]; exact hv
theorem Tab.fits {w : World} {g : Nat} {room : Int} {T : List Seat} (h : Tab w g room T) : Hid ((Try.prog.info? 59).map (·.size) = some (tcells T).length) := hid_in (by rw [size59, tcells_len, h.len])
theorem Tab.cs {w : World} {g : Nat} {room : Int} {T : List Seat} (h : Tab w g room T) {i : Nat} {s : Seat} (hi : T[i]? = some s) : w.cell? ⟨g, 1 + i * 5, none⟩ = some (.int .i64 s.client) ∧ w.cell? ⟨g, 1 + i * 5 + 1, none⟩ = some (.int .i64 s.number) ∧ w.cell? ⟨g, 1 + i * 5 + 2, none⟩ = some (.int .i64 s.at_) ∧ w.cell? ⟨g, 1 + i * 5 + 3, none⟩ = some (.bool s.kept) ∧ w.cell? ⟨g, 1 + i * 5 + 4, none⟩ = some (.string s.reply) :=
  ⟨h.seat hi 0 _ rfl, h.seat hi 1 _ rfl, h.seat hi 2 _ rfl, h.seat hi 3 _ rfl, h.seat hi 4 _ rfl⟩
theorem Tab.set {w w' : World} {g : Nat} {room : Int} {T : List Seat} (h : Tab w g room T) {i : Nat} (s : Seat) (hi : i < 8) (hr : Row w' g (splice (.int .i64 room :: tcells T) (1 + i * 5) s.cells) 61) : Tab w' g room (T.set i s) := by
  refine ⟨?_, by rw [List.length_set]; exact h.len⟩
  rw [← tcells_set T i s (by rw [h.len]; exact hi)]
  have e : splice (.int .i64 room :: tcells T) (1 + i * 5) s.cells = .int .i64 room :: splice (tcells T) (i * 5) s.cells := by
    unfold splice
    rw [show 1 + i * 5 = i * 5 + 1 by omega, List.take_succ_cons, show i * 5 + 1 + s.cells.length = (i * 5 + s.cells.length) + 1 by omega, List.drop_succ_cons]
    rfl
  rw [← e]
  exact hr
theorem index59 {T : List Seat} (hl : T.length = 8) {i : Nat} {s : Seat} (hi : T[i]? = some s) (W : World) : (Instr.index 59 (.agg (tcells T).toArray) (.int .i64 (i : Int))).run Try.prog W = .ok (.agg s.cells.toArray) W := by
  have hlt : i < 8 := by rw [← hl]; exact (List.getElem?_eq_some_iff.1 hi).1
  have hc : ∀ j, j < 5 → (tcells T)[i * 5 + j]? = s.cells[j]? := fun j hj => by
    rw [List.getElem?_eq_getElem (l := s.cells) (by rw [Seat.cells_len]; exact hj)]
    exact tcells_at hi j _ (List.getElem?_eq_getElem _)
  have hagg : (isAgg 48).run Try.prog W = .ok true W := by
    unfold isAgg
    rw [Sem.run_bind, run_underlying Try.underlying48 W]
    rfl
  have hsz : (sizeOf 48).run Try.prog W = .ok 5 W := by
    obtain ⟨x, hx⟩ : ∃ x, Try.prog.info? 48 = some x := by
      have h := size48
      cases hq : Try.prog.info? 48 with
      | none => rw [hq] at h; cases h
      | some x => exact ⟨x, rfl⟩
    have h5 : x.size = 5 := by have h := size48; rw [hx] at h; simpa using h
    simp [sizeOf, typeInfo, hx, h5, Sem.run_bind]
  have hex : (tcells T).toArray.extract (i * 5) (i * 5 + 5) = s.cells.toArray := by
    refine Array.ext' ?_
    refine List.ext_getElem? fun j => ?_
    by_cases hj : j < 5
    · have := hc j hj
      simp [List.getElem?_take_of_lt, List.getElem?_drop, hj]
      exact this
    · rw [List.getElem?_eq_none (by simp; omega), List.getElem?_eq_none (by simp [Seat.cells_len]; omega)]
  have h0 : (0 : Int) ≤ (i : Int) ∧ (i : Int) < (8 : Nat) := by omega
  simp only [Instr.index, asIntOf, Sem.run_bind, Sem.run_pure, Result.andThen_ok, run_underlying Try.underlying59, if_pos h0, hsz, part, hagg, if_true, Int.toNat_natCast, hex]
end Go.Proofs.Ytiijlnlkhpneaaa.Se
