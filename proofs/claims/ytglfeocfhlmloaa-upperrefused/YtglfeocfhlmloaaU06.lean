/-
  The walks of wire.shiftedByByte and wire.Check: the check sum of parts. The walks of wire.word, wire.valueOf, bytes.Clone, slices.Grow (of nothing) and slices.Concat. The walks of bytes.Clone, slices.Grow (of nothing) and slices.Concat. The walks of wire.Frame and wire.Next. The walk of wire.Next. Fields as bytes: what an Out is; the walks of its Num, Int and Bytes.
-/
import Derived.Lib.AppendZeros
import Derived.Deep.DrawnRows
import Derived.Deep.RegionHeld3
import Derived.Maps.AppendAt
import Derived.Test.YtglfeocfhlmloaaU05
namespace Go.Proofs.Ytglfeocfhlmloaa.Nd.Wire
/-- one bit goes -/
def step (x : Nat) : Nat := if x % 2 = 1 then (x / 2) ^^^ 3988292384 else x / 2
def steps : Nat → Nat → Nat
  | 0, x => x
  | k + 1, x => step (steps k x)
/-- one byte comes -/
def byte (s b : Nat) : Nat := steps 8 (s ^^^ b)
def run (s : Nat) (bs : List Nat) : Nat := bs.foldl byte s
def val (b : List Nat) : Nat := b.getD 0 0 + b.getD 1 0 * 256 + b.getD 2 0 * 65536 + b.getD 3 0 * 16777216
end Go.Proofs.Ytglfeocfhlmloaa.Nd.Wire
namespace Go.Proofs.Ytglfeocfhlmloaa.Nd
open Go.RowKit
/-- a slice of bytes among several: where it lies, its bytes -/
structure Part where
  p : Option Addr
  bs : List Nat
  cap : Nat
  b : Nat
  off : Nat
def Part.val (x : Part) : Value := .slice x.p x.bs.length x.cap
def Part.ok (w : World) (x : Part) : Prop := Sl w x.p x.bs x.cap x.b x.off
/-- slices of bytes that lie one behind the other -/
structure Parts (w : World) (pb po : Nat) (ps : List Part) : Prop where
  at_ : ∀ i x, ps[i]? = some x → w.cell? ⟨pb, po + i, none⟩ = some x.val
  ok : ∀ x ∈ ps, x.ok w
  no : ∀ x ∈ ps, x.p = none → x.bs.length = 0 ∧ x.cap = 0
theorem Parts.below {w w' : World} {pb po : Nat} {ps : List Part} (h : Parts w pb po ps) (hb : Below w.heap.size w w') : Parts w' pb po ps :=
  ⟨fun i x hx => by rw [hb.cell (World.block_lt_of_cell? w _ (h.at_ i x hx))]; exact h.at_ i x hx, fun x hx => (h.ok x hx).below hb, h.no⟩
/-- a row that a call owns, as a block that is known whole -/
theorem own_row {w : World} {B n : Nat} {v : Value} {xs : List Value} (h : w.ownsRow B 5 1 v n xs) (hn : 0 < n) : ∃ g cap vs, v = .slice (some ⟨g, 0, none⟩) n cap ∧ B ≤ g ∧ g < w.heap.size ∧ Row w g vs 5 ∧ n ≤ cap ∧ cap ≤ 9223372036854775807 ∧ vs.length = cap ∧ vs.take n = xs := by
  obtain ⟨_, ⟨_, h0⟩ | ⟨g, cap, cur, hv, hb, hg, h1, h2, h3, h4⟩⟩ := h
  · omega
  · have hr : Row w g cur.toList 5 := by unfold Row; rw [hg]
    unfold maxLen at h2
    exact ⟨g, cap, cur.toList, hv, hb, hr.lt, hr, h1, by omega, by simpa using h3, by simpa using h4⟩
theorem row_sl {w : World} {g n cap : Nat} {vs : List Value} {xs : List Nat} (hr : Row w g vs 5) (ht : vs.take n = xs.map u8v) (hn : xs.length ≤ n) (hlt : ∀ x ∈ xs, x < 256) (h1 : xs.length ≤ cap) (h2 : cap ≤ 9223372036854775807) : Sl w (some ⟨g, 0, none⟩) xs cap g 0 :=
  ⟨hlt, h1, h2, fun _ => rfl, fun j hj => by
    rw [Nat.zero_add, hr.cell]
    have e : vs[j]? = (vs.take n)[j]? := by rw [List.getElem?_take_of_lt (by omega)]
    rw [e, ht]
    simp [hj]⟩
theorem Sl.grown {w w' : World} {p : Option Addr} {bs : List Nat} {cap b off : Nat} {row : Option Nat} (h : Sl w p bs cap b off) (hb : w.grownBy w' row) (hne : 0 < bs.length → some b ≠ row) : Sl w' p bs cap b off :=
  ⟨h.lt, h.cap1, h.cap2, h.at_, fun j hj => hb.cell (h.src j hj) (hne (by omega))⟩
theorem Sl.blk {w : World} {p : Option Addr} {bs : List Nat} {cap b off : Nat} (h : Sl w p bs cap b off) (h0 : 0 < bs.length) : b < w.heap.size := World.block_lt_of_cell? w _ (h.src 0 h0)
theorem own_sl {w : World} {B : Nat} {v : Value} {xs : List Nat} (hlt : ∀ x ∈ xs, x < 256) (h : w.ownsRow B 5 1 v xs.length (xs.map u8v)) : ∃ p cap b, v = .slice p xs.length cap ∧ Sl w p xs cap b 0 ∧ (p = none → xs.length = 0 ∧ cap = 0) := by
  by_cases h0 : 0 < xs.length
  · obtain ⟨g, cap, vs, hv, hb, hglt, hr, h1, h2, h3, h4⟩ := own_row h h0
    exact ⟨_, cap, g, hv, row_sl hr h4 (Nat.le_refl _) hlt h1 h2, fun h => by cases h⟩
  · have hx : xs = [] := List.eq_nil_of_length_eq_zero (by omega)
    subst hx
    obtain ⟨_, ⟨rfl, _⟩ | ⟨g, cap, cur, rfl, hb, hg, h1, h2, h3, h4⟩⟩ := h
    · exact ⟨none, 0, 0, rfl, ⟨hlt, by simp, by omega, fun h => by simp at h, fun j hj => by simp at hj⟩, fun _ => ⟨rfl, rfl⟩⟩
    · exact ⟨_, cap, g, rfl, ⟨hlt, by simp, by unfold maxLen at h2; omega, fun h => by simp at h, fun j hj => by simp at hj⟩, fun h => by cases h⟩
theorem own_below {w w' : World} {B : Nat} {v : Value} {n : Nat} {xs : List Value} (h : w.ownsRow B 5 1 v n xs) (hb : Below w.heap.size w w') : w'.ownsRow B 5 1 v n xs := by
  refine h.kept (grown_of_below (row := none) hb) ?_
  cases v.ownBlock <;> simp
end Go.Proofs.Ytglfeocfhlmloaa.Nd
namespace Go.Proofs.Ytglfeocfhlmloaa.Nd
open Go.RowKit
theorem i5 : (Try.prog.info? 5).map (fun i => (i.size, i.bytes, i.zero)) = some (1, 1, some (.int .u8 0)) := by kernel_rfl
end Go.Proofs.Ytglfeocfhlmloaa.Nd
namespace Go.Proofs.Ytglfeocfhlmloaa.Nd
open Go.RowKit
theorem own_empty (w : World) : (w.alloc (.cells #[] 5)).ownsRow w.heap.size 5 1 (.slice (some ⟨w.heap.size, 0, none⟩) 0 0) 0 [] :=
  World.ownsRow_made (base := w.heap.size) (e := 5) (size := 1) w #[] 0 (Nat.le_refl _) (by simp) rfl
/-- the cells of a slice of bytes, as append asks for them -/
theorem Sl.news {w : World} {p : Option Addr} {bs : List Nat} {cap b off : Nat} (h : Sl w p bs cap b off) : ∀ ad, p = some ad → ∀ j u, (bs.map u8v)[j]? = some u → w.cell? (ad.add j) = some u := by
  intro ad hpa j u hu
  have hj : j < bs.length := by simpa using (List.getElem?_eq_some_iff.1 hu).1
  obtain rfl : ad = ⟨b, off, none⟩ := by have := h.at_ (by omega); rw [hpa] at this; exact Option.some.inj this
  rw [Addr.add_mid, h.src j hj]
  simp [hj] at hu
  rw [← hu]
  simp [hj]
theorem nil_yes (w : World) : (binOp .eql 43 (.slice none 0 0) (.slice none 0 0)).run Try.prog w = .ok (.bool true) w := by kernel_rfl
theorem nil_no (ad : Addr) (n c : Nat) (w : World) : (binOp .eql 43 (.slice (some ad) n c) (.slice none 0 0)).run Try.prog w = .ok (.bool false) w := by kernel_rfl
theorem i5h : ∃ i5i, Hid (Try.prog.info? 5 = some i5i) ∧ Hid (i5i.size = 1) ∧ Hid (i5i.bytes = 1) ∧ Hid (i5i.zero = some (.int .u8 0)) := by
  obtain ⟨i5i, hi5, he5⟩ := Option.map_eq_some_iff.1 i5
  simp only [Prod.mk.injEq] at he5
  obtain ⟨e1, e2, e3⟩ := he5
  exact ⟨i5i, hi5, e1, e2, e3⟩
set_option maxHeartbeats 400000 in
theorem clone_any (bs : List Nat) (p : Option Addr) (cap b off : Nat) (w : World) (hsl : Sl w p bs cap b off) (hno : p = none → bs.length = 0 ∧ cap = 0) (hre : bs.length ≤ 140737488355328) :
    Calls Try.prog 59 #[.slice p bs.length cap] w fun e w' => ∃ v, e = .returned v ∧ w'.ownsRow w.heap.size 5 1 v bs.length (bs.map u8v) ∧ Below w.heap.size w w' := by
  obtain ⟨i5i, HI5, HE1, HE2, HE3⟩ := i5h
  rcases p with _ | ad
  · obtain ⟨h0, h1⟩ := hno rfl
    have hb0 : bs = [] := List.eq_nil_of_length_eq_zero h0
    subst hb0
    obtain rfl := h1
    have hnil := nil_yes w
    go_enter Try.func59, Try.ntmps59
    go_wp2
    go_ret
    exact ⟨_, rfl, World.ownsRow_nil _ _ _ _, Below.refl _ _⟩
  · have hown0 := own_empty w
    have hb0 : Below w.heap.size w (w.alloc (.cells #[] 5)) := (Below.refl _ _).alloc (Nat.le_refl _) _
    have hsrc0 := (hsl.below hb0).news
    have hl0 : (bs.map u8v).length = bs.length := by simp
    have hBs : w.heap.size ≤ (w.alloc (.cells #[] 5)).heap.size := by simp
    have hf0 : 0 + bs.length ≤ 140737488355328 := by omega
    have hnil := nil_no ad bs.length cap w
    clear hsl
    go_enter Try.func59, Try.ntmps59
    go_wp2_with (at_builtin; refine wpList_append_any rfl _ _ 43 rfl w.heap.size 5 i5i (.int .u8 0) Try.underlying43 HI5.out HE3.out HE1.out HE2.out rfl _ 0 [] rfl hown0 (some ad) bs.length cap (bs.map u8v) rfl hl0 hno hsrc0 (one_u8 bs) hf0 hBs ?_; intro v1 w1 hown1 hg1)
    go_ret
    rw [Nat.zero_add, List.nil_append] at hown1
    exact ⟨_, rfl, hown1, own_step hb0 hg1 hBs rfl hown0⟩
end Go.Proofs.Ytglfeocfhlmloaa.Nd
namespace Go.Proofs.Ytglfeocfhlmloaa.Nd
open Go.RowKit
theorem own_mono {w : World} {B B' n : Nat} {v : Value} {xs : List Value} (h : w.ownsRow B 5 1 v n xs) (hb : B' ≤ B) : w.ownsRow B' 5 1 v n xs := by
  obtain ⟨h1, h2 | ⟨g, cap, cur, hv, hB, r⟩⟩ := h
  · exact ⟨h1, .inl h2⟩
  · exact ⟨h1, .inr ⟨g, cap, cur, hv, Nat.le_trans hb hB, r⟩⟩
end Go.Proofs.Ytglfeocfhlmloaa.Nd
namespace Go.Proofs.Ytglfeocfhlmloaa.Nd
open Go.RowKit
theorem hid_in {p : Prop} (h : p) : Hid p := h
/-- a part of a slice of bytes -/
theorem Sl.part {w : World} {p : Option Addr} {bs : List Nat} {cap b off : Nat} (h : Sl w p bs cap b off) (n m c : Nat) (hnm : n + m ≤ bs.length) (hc : m ≤ c) (hc2 : c ≤ 9223372036854775807) : Sl w (some ⟨b, off + n, none⟩) ((bs.drop n).take m) c b (off + n) :=
  ⟨fun x hx => h.lt x (List.mem_of_mem_drop (List.mem_of_mem_take hx)), by simp; omega, hc2, fun _ => rfl, fun j hj => by
    have hj' : j < m := by simp at hj; omega
    rw [Nat.add_assoc, h.src (n + j) (by omega)]
    simp [hj']⟩
end Go.Proofs.Ytglfeocfhlmloaa.Nd
namespace Go.Proofs.Ytglfeocfhlmloaa.Nd
open Go.RowKit
/-- the world has grown; of its blocks only those in S may have turned -/
structure Grew (w w' : World) (S : Nat → Prop) : Prop where
  os : w'.os = w.os
  tape : w'.tape = w.tape
  output : w'.output = w.output
  size : w.heap.size ≤ w'.heap.size
  block : ∀ k, k < w.heap.size → ¬ S k → w'.heap[k]? = w.heap[k]?
theorem Grew.refl (w : World) (S : Nat → Prop) : Grew w w S := ⟨rfl, rfl, rfl, Nat.le_refl _, fun _ _ _ => rfl⟩
theorem Grew.trans {a b c : World} {S T : Nat → Prop} (h : Grew a b S) (k : Grew b c T) (hT : ∀ q, q < a.heap.size → T q → S q) : Grew a c S :=
  ⟨k.os.trans h.os, k.tape.trans h.tape, k.output.trans h.output, Nat.le_trans h.size k.size, fun q hq hS => (k.block q (Nat.lt_of_lt_of_le hq h.size) (fun hT' => hS (hT q hq hT'))).trans (h.block q hq hS)⟩
theorem Grew.mono {a b : World} {S T : Nat → Prop} (h : Grew a b S) (hT : ∀ q, S q → T q) : Grew a b T := ⟨h.os, h.tape, h.output, h.size, fun q hq hn => h.block q hq (fun hs => hn (hT q hs))⟩
theorem Grew.of_grown {w w' : World} {row : Option Nat} (h : w.grownBy w' row) : Grew w w' (fun k => some k = row) := ⟨h.os, h.tape, h.output, h.size, fun k hk hn => h.block k hk hn⟩
theorem Grew.of_below {w w' : World} (S : Nat → Prop) (h : Below w.heap.size w w') : Grew w w' S := ⟨h.os, h.tape, h.output, h.size, fun k hk _ => h.block k hk⟩
theorem Grew.below {a w w' : World} {S : Nat → Prop} {B : Nat} (h : Grew w w' S) (hb : Below B a w) (hB : B ≤ w.heap.size) (hS : ∀ k, S k → B ≤ k) : Below B a w' :=
  ⟨h.os.trans hb.os, h.tape.trans hb.tape, h.output.trans hb.output, Nat.le_trans hb.size h.size, fun k hk => (h.block k (by omega) (fun hs => by have := hS k hs; omega)).trans (hb.block k hk)⟩
theorem Row.grew {w w' : World} {b : Nat} {vs : List Value} {t : TypeId} {S : Nat → Prop} (h : Row w b vs t) (hg : Grew w w' S) (hn : ¬ S b) : Row w' b vs t := h.of_block (hg.block b h.lt hn)
/-- append of one value that was just laid into a block of its own; where the row then lies -/
theorem wpList_append_one_at {P : Program} {w : World} {ops : Array Oper} {rest : List Oper} {o : Oper} {a : Act} {Q : Exit → Act → World → Prop} (hgd : o.guard = none) (s x : Operand) (t : TypeId)
    (ho : o.op = .call { callee := .builtin .append, args := #[s, x], argTypes := #[t, t] })
    (base : Nat) (e : TypeId) (i : TypeInfo) (z : Value) (ht : P.underlying t = some (.slice e)) (hi : P.info? e = some i) (hz : i.zero = some z)
    (hsize : i.size = 1) (hby : i.bytes = 1) (hzs : z.cells.size = 1)
    (v : Value) (n : Nat) (xs : List Value) (hs : a.eval s = v) (hown : w.ownsRow base e 1 v n xs) (e' : TypeId) (u : Value) (hu : u.oneCell' = true)
    (hx : a.eval x = .slice (some ⟨w.heap.size, 0, none⟩) 1 1) (hbytes : n + 1 ≤ 140737488355328) (hbase : base ≤ w.heap.size)
    (h : ∀ v' w', w'.ownsRow base e 1 v' (n + 1) (xs ++ [u]) → Grew w w' (fun k => some k = v.ownBlock) → (v'.ownBlock = v.ownBlock ∨ ∃ q, v'.ownBlock = some q ∧ w.heap.size ≤ q) → wpList P ops Q rest (a.put o.dst v') w') : wpList P ops Q (o :: rest) a (w.alloc (.cells #[u] e')) := by
  have hs1 : base ≤ (w.alloc (.cells #[u] e')).heap.size := by rw [World.size_alloc]; omega
  refine wpList_append_own_at _ hgd s x t ho base e i z 1 1 ht hi hz hsize hby hzs (by decide) v n xs hs (hown.alloc _) ⟨w.heap.size, 0, none⟩ 1 1 [u] hx rfl ?_ (fun v hv => by simp at hv; subst hv; exact hu) (by unfold maxLen; omega) (by omega) hs1 ?_
  · intro j u' hj
    have h0 : j = 0 := by have := (List.getElem?_eq_some_iff.1 hj).1; simp at this; omega
    subst h0
    rw [Addr.add_mid, (Row.newAt w w.heap.size [u] e' rfl).cell]
    exact hj
  · intro v' w' h2 h3 _ h5
    refine h v' w' h2 ?_ ?_
    · exact (Grew.of_below _ ((Below.refl w.heap.size w).alloc (Nat.le_refl _) _)).trans (Grew.of_grown h3) (fun q _ hq => hq)
    · rcases h5 with h5 | h5
      · exact .inl h5
      · exact .inr ⟨_, h5, by rw [World.size_alloc]; omega⟩
/-- the Out at block g has made the bytes xs; its row is v -/
structure OutIs (w : World) (B g : Nat) (v : Value) (xs : List Nat) : Prop where
  row : Row w g [v] 72
  own : w.ownsRow B 5 1 v xs.length (xs.map u8v)
  apart : v.ownBlock ≠ some g
  base : B ≤ w.heap.size
  lt : ∀ x ∈ xs, x < 256
/-- where a row lies behind a call -/
def Moved (w : World) (v v' : Value) : Prop := v'.ownBlock = v.ownBlock ∨ ∃ q, v'.ownBlock = some q ∧ w.heap.size ≤ q
theorem Moved.refl (w : World) (v : Value) : Moved w v v := .inl rfl
theorem Moved.trans {a b : World} {u v x : Value} (h : Moved a u v) (k : Moved b v x) (hs : a.heap.size ≤ b.heap.size) : Moved a u x := by
  rcases k with k | ⟨q, k, hq⟩
  · rcases h with h | ⟨q, h, hq⟩
    · exact .inl (k.trans h)
    · exact .inr ⟨q, k.trans h, hq⟩
  · exact .inr ⟨q, k, by omega⟩
/-- what an Out's call may turn -/
def OutS (g : Nat) (v : Value) : Nat → Prop := fun k => k = g ∨ some k = v.ownBlock
namespace Wire
def numF : Nat → Nat → List Nat
  | 0, n => [n]
  | k + 1, n => if n < 128 then [n] else (n % 128 + 128) :: numF k (n / 128)
/-- a number's bytes -/
def num (n : Nat) : List Nat := numF 9 n
end Wire
theorem or128 (y : Nat) (h : y < 256) : bits .or .u8 (y : Int) 128 = ((y % 128 + 128 : Nat) : Int) := by
  have h1 := u8_or_nat y 128 h (by decide)
  have h2 : ∀ z : Fin 256, (z.1 ||| 128) = z.1 % 128 + 128 := by decide +kernel
  rw [h2 ⟨y, h⟩] at h1
  exact h1
end Go.Proofs.Ytglfeocfhlmloaa.Nd
