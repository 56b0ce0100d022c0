/-
  .
-/
import Derived.Test.YtcdmdmbdgmihfaaRows
import Derived.WalkKit
import Derived.WalkSpells
import Derived.WalkLawsBesides
import Derived.Deep.AppendLies
import Derived.Deep.MidRow
import Derived.Deep.Light
import Derived.Laws.CopyOwn
import Derived.Laws.AppendOwnNone
import Derived.Laws.BytesArg
import Derived.Lib.Strings
import Derived.BigQuiet
import Derived.BigRegion
import Derived.Lib.AppendZeros
import Derived.Deep.DrawnRows
import Derived.Deep.RegionHeld3
import Derived.Maps.AppendAt
import Derived.Lib.SlBytesConst
import Derived.Lib.AppendStr
import Derived.Deep.RegionLaw
import Derived.Deep.Cut
import Derived.Deep.CutRange
import Derived.OwnWalk
import Derived.Laws.Tables
import Derived.Laws.StructEq
import Derived.Laws.BitsAllLaws
namespace Go.Proofs.Ytcdmdmbdgmihfaa.Nd
open Go.RowKit
def u8v (n : Nat) : Value := .int .u8 (n : Int)
/-- block b of the world holds just these cells -/
def Row (w : World) (b : Nat) (vs : List Value) (t : TypeId) : Prop := w.heap[b]? = some (.cells vs.toArray t (0, 0))
theorem Row.cell {w : World} {b : Nat} {vs : List Value} {t : TypeId} (h : Row w b vs t) (j : Nat) : w.cell? ⟨b, j, none⟩ = vs[j]? := by
  rw [cell_of_row w b j _ t (0, 0) h]; simp
theorem Row.frozen {w : World} {b : Nat} {vs : List Value} {t : TypeId} (h : Row w b vs t) (j : Nat) : w.frozen? ⟨b, j, none⟩ = false := by
  unfold Row at h; simp [World.frozen?, h]
theorem Row.lt {w : World} {b : Nat} {vs : List Value} {t : TypeId} (h : Row w b vs t) : b < w.heap.size := by
  unfold Row at h
  exact (Array.getElem?_eq_some_iff.1 h).1
theorem Row.of_block {w w' : World} {b : Nat} {vs : List Value} {t : TypeId} (h : Row w b vs t) (hb : w'.heap[b]? = w.heap[b]?) : Row w' b vs t := by
  unfold Row at *; rw [hb]; exact h
theorem Row.drew {w : World} {b : Nat} {vs : List Value} {t : TypeId} (h : Row w b vs t) : Row w.drew b vs t := h
theorem Row.alloc {w : World} {b : Nat} {vs : List Value} {t : TypeId} (h : Row w b vs t) (o : Obj) : Row (w.alloc o) b vs t :=
  h.of_block (Below.heap_alloc _ _ _ h.lt)
theorem Row.new (w : World) (vs : List Value) (t : TypeId) : Row (w.alloc (.cells vs.toArray t)) w.heap.size vs t := heap_alloc_new w _
theorem Row.below {w w' : World} {b B : Nat} {vs : List Value} {t : TypeId} (h : Row w b vs t) (hb : Below B w w') (hB : b < B) : Row w' b vs t :=
  h.of_block (hb.block b hB)
theorem Row.grown {w w' : World} {b : Nat} {row : Option Nat} {vs : List Value} {t : TypeId} (h : Row w b vs t) (hb : w.grownBy w' row) (hB : some b ≠ row) : Row w' b vs t :=
  h.of_block (hb.block b h.lt hB)
theorem Row.set_same {w : World} {b : Nat} {vs : List Value} {t : TypeId} (h : Row w b vs t) (j : Nat) (v : Value) : Row (w.setCell ⟨b, j, none⟩ v) b (vs.set j v) t := by
  unfold Row at *
  simp only [World.setCell, Array.getElem?_modify, if_true, h]
  simp
theorem grownBy_trans {a b c : World} {row : Option Nat} (h : a.grownBy b row) (k : b.grownBy c row) : a.grownBy c row :=
  ⟨k.os.trans h.os, k.tape.trans h.tape, k.output.trans h.output, Nat.le_trans h.size k.size, fun i hi hne => (k.block i (Nat.lt_of_lt_of_le hi h.size) hne).trans (h.block i hi hne)⟩
theorem grownBy_refl (w : World) (row : Option Nat) : w.grownBy w row := ⟨rfl, rfl, rfl, Nat.le_refl _, fun _ _ _ => rfl⟩
theorem grownBy_setCell (w : World) (a : Addr) (v : Value) : w.grownBy (w.setCell a v) (some a.block) :=
  ⟨rfl, rfl, rfl, by simp [World.setCell], fun k _ hne => Below.heap_setCell _ _ _ _ (fun e => hne (by rw [e]))⟩
theorem below_of_grown {B : Nat} {a w w' : World} {row : Nat} (h : Below B a w) (hg : w.grownBy w' (some row)) (hB : B ≤ w.heap.size) (hr : B ≤ row) : Below B a w' :=
  h.grown hg hB (fun k e => by cases e; exact hr)
theorem grown_of_below {w w' : World} {row : Option Nat} (h : Below w.heap.size w w') : w.grownBy w' row := ⟨h.os, h.tape, h.output, h.size, fun k hk _ => h.block k hk⟩
theorem one_u8 (l : List Nat) : ∀ v ∈ l.map u8v, v.oneCell' = true := by
  intro v hv; simp only [List.mem_map] at hv; obtain ⟨n, _, rfl⟩ := hv; rfl
/-- a slice of bytes that lies in the world -/
structure Sl (w : World) (p : Option Addr) (bs : List Nat) (cap : Nat) (b off : Nat) : Prop where
  lt : ∀ x ∈ bs, x < 256
  cap1 : bs.length ≤ cap
  cap2 : cap ≤ 9223372036854775807
  at_ : 0 < bs.length → p = some ⟨b, off, none⟩
  src : ∀ j, j < bs.length → w.cell? ⟨b, off + j, none⟩ = some (u8v (bs.getD j 0))
theorem Sl.below {w w' : World} {p : Option Addr} {bs : List Nat} {cap b off : Nat} (h : Sl w p bs cap b off) (hb : Below w.heap.size w w') : Sl w' p bs cap b off :=
  ⟨h.lt, h.cap1, h.cap2, h.at_, fun j hj => by rw [hb.cell (World.block_lt_of_cell? w _ (h.src j hj))]; exact h.src j hj⟩
theorem own_step {w w' : World} {B : Nat} {v : Value} {row : Option Nat} {a : World} (hb : Below B a w) (hg : w.grownBy w' row) (hB : B ≤ w.heap.size) (hv : row = v.ownBlock) {e : TypeId} {size n : Nat} {xs : List Value} (ho : w.ownsRow B e size v n xs) : Below B a w' := by
  subst hv
  exact hb.grown hg hB (fun k hk => (ho.lt k hk).1)
/-- append to a row of the call's own, from a slice that may be nil -/
theorem wpList_append_any {P : Program} {w : World} {ops : Array Oper} {rest : List Oper} {o : Oper} {a : Act} {Q : Exit → Act → World → Prop} (hgd : o.guard = none) (s x : Operand) (t : TypeId)
    (ho : o.op = .call { callee := .builtin .append, args := #[s, x], argTypes := #[t, t] })
    (base : Nat) (e : TypeId) (i : TypeInfo) (z : Value) (ht : P.underlying t = some (.slice e)) (hi : P.info? e = some i) (hz : i.zero = some z)
    (hsize : i.size = 1) (hby : i.bytes = 1) (hzs : z.cells.size = 1)
    (v : Value) (n : Nat) (xs : List Value) (hs : a.eval s = v) (hown : w.ownsRow base e 1 v n xs)
    (p : Option Addr) (m c : Nat) (news : List Value) (hx : a.eval x = .slice p m c) (hl : news.length = m) (hpn : p = none → m = 0 ∧ c = 0) (hnews : ∀ ad, p = some ad → ∀ j u, news[j]? = some u → w.cell? (ad.add j) = some u) (h1 : ∀ u ∈ news, u.oneCell' = true)
    (hbytes : n + m ≤ 140737488355328) (hbase : base ≤ w.heap.size)
    (h : ∀ v' w', w'.ownsRow base e 1 v' (n + m) (xs ++ news) → w.grownBy w' v.ownBlock → wpList P ops Q rest (a.put o.dst v') w') : wpList P ops Q (o :: rest) a w := by
  rcases p with _ | ad
  · obtain ⟨rfl, rfl⟩ := hpn rfl
    obtain rfl : news = [] := List.eq_nil_of_length_eq_zero hl
    refine wpList_append_own_none hgd s x t ho base e i 1 ht hi v n xs hs hown hx ?_
    exact h v w (by simpa using hown) (grownBy_refl w _)
  · refine wpList_append_own w hgd s x t ho base e i z 1 1 ht hi hz hsize hby hzs (by decide) v n xs hs hown ad m c news hx (by omega) (hnews ad rfl) h1 (by unfold maxLen; omega) (by omega) hbase ?_
    exact fun v' w' h2 h3 _ => h v' w' h2 h3
/-- a string's bytes -/
def str (l : List Nat) : ByteArray := ⟨(l.map UInt8.ofNat).toArray⟩
theorem conv_sl {w : World} {p : Option Addr} {bs : List Nat} {cap b off : Nat} (h : Sl w p bs cap b off) : (convert 34 9 (.slice p bs.length cap)).run Try.prog w = .ok (.string (str bs)) w := by
  by_cases h0 : 0 < bs.length
  · obtain rfl := h.at_ h0
    rw [run_convert_bytes_arg w 34 5 Try.underlying34 Try.underlying5 b off bs.length cap (bs.map fun (n : Nat) => (n : Int)) (by simp) (fun i hi => by rw [h.src i hi]; simp [u8v, hi]) 9 Try.underlying9]
    congr 2
    simp [strOfNums, str, Function.comp_def]
  · obtain rfl : bs = [] := List.eq_nil_of_length_eq_zero (by omega)
    rcases p with _ | ⟨b', o', m'⟩
    · exact run_convert_bytes_nil w 34 5 Try.underlying34 Try.underlying5 0 cap 9 Try.underlying9
    · rw [run_convert_bytes_string w 34 9 5 _ _ _ Try.underlying34 Try.underlying5 Try.underlying9]
      rw [List.length_nil, run_bytesToString w _ 0 cap [] (by simp [loadCells, loadCellsFrom, Sem.run_pure])]
      rfl
end Go.Proofs.Ytcdmdmbdgmihfaa.Nd
namespace Go.Proofs.Ytcdmdmbdgmihfaa.Nd.Wire
/-- one bit goes -/
def step (x : Nat) : Nat := if x % 2 = 1 then (x / 2) ^^^ 3988292384 else x / 2
def steps : Nat → Nat → Nat
  | 0, x => x
  | k + 1, x => step (steps k x)
/-- one byte comes -/
def byte (s b : Nat) : Nat := steps 8 (s ^^^ b)
def run (s : Nat) (bs : List Nat) : Nat := bs.foldl byte s
def val (b : List Nat) : Nat := b.getD 0 0 + b.getD 1 0 * 256 + b.getD 2 0 * 65536 + b.getD 3 0 * 16777216
end Go.Proofs.Ytcdmdmbdgmihfaa.Nd.Wire
namespace Go.Proofs.Ytcdmdmbdgmihfaa.Nd
open Go.RowKit
/-- a slice of bytes among several: where it lies, its bytes -/
structure Part where
  p : Option Addr
  bs : List Nat
  cap : Nat
  b : Nat
  off : Nat
def Part.val (x : Part) : Value := .slice x.p x.bs.length x.cap
def Part.ok (w : World) (x : Part) : Prop := Sl w x.p x.bs x.cap x.b x.off
/-- slices of bytes that lie one behind the other -/
structure Parts (w : World) (pb po : Nat) (ps : List Part) : Prop where
  at_ : ∀ i x, ps[i]? = some x → w.cell? ⟨pb, po + i, none⟩ = some x.val
  ok : ∀ x ∈ ps, x.ok w
  no : ∀ x ∈ ps, x.p = none → x.bs.length = 0 ∧ x.cap = 0
theorem Parts.below {w w' : World} {pb po : Nat} {ps : List Part} (h : Parts w pb po ps) (hb : Below w.heap.size w w') : Parts w' pb po ps :=
  ⟨fun i x hx => by rw [hb.cell (World.block_lt_of_cell? w _ (h.at_ i x hx))]; exact h.at_ i x hx, fun x hx => (h.ok x hx).below hb, h.no⟩
/-- a row that a call owns, as a block that is known whole -/
theorem own_row {w : World} {B n : Nat} {v : Value} {xs : List Value} (h : w.ownsRow B 5 1 v n xs) (hn : 0 < n) : ∃ g cap vs, v = .slice (some ⟨g, 0, none⟩) n cap ∧ B ≤ g ∧ g < w.heap.size ∧ Row w g vs 5 ∧ n ≤ cap ∧ cap ≤ 9223372036854775807 ∧ vs.length = cap ∧ vs.take n = xs := by
  obtain ⟨_, ⟨_, h0⟩ | ⟨g, cap, cur, hv, hb, hg, h1, h2, h3, h4⟩⟩ := h
  · omega
  · have hr : Row w g cur.toList 5 := by unfold Row; rw [hg]
    unfold maxLen at h2
    exact ⟨g, cap, cur.toList, hv, hb, hr.lt, hr, h1, by omega, by simpa using h3, by simpa using h4⟩
theorem row_sl {w : World} {g n cap : Nat} {vs : List Value} {xs : List Nat} (hr : Row w g vs 5) (ht : vs.take n = xs.map u8v) (hn : xs.length ≤ n) (hlt : ∀ x ∈ xs, x < 256) (h1 : xs.length ≤ cap) (h2 : cap ≤ 9223372036854775807) : Sl w (some ⟨g, 0, none⟩) xs cap g 0 :=
  ⟨hlt, h1, h2, fun _ => rfl, fun j hj => by
    rw [Nat.zero_add, hr.cell]
    have e : vs[j]? = (vs.take n)[j]? := by rw [List.getElem?_take_of_lt (by omega)]
    rw [e, ht]
    simp [hj]⟩
theorem Sl.grown {w w' : World} {p : Option Addr} {bs : List Nat} {cap b off : Nat} {row : Option Nat} (h : Sl w p bs cap b off) (hb : w.grownBy w' row) (hne : 0 < bs.length → some b ≠ row) : Sl w' p bs cap b off :=
  ⟨h.lt, h.cap1, h.cap2, h.at_, fun j hj => hb.cell (h.src j hj) (hne (by omega))⟩
theorem own_sl {w : World} {B : Nat} {v : Value} {xs : List Nat} (hlt : ∀ x ∈ xs, x < 256) (h : w.ownsRow B 5 1 v xs.length (xs.map u8v)) : ∃ p cap b, v = .slice p xs.length cap ∧ Sl w p xs cap b 0 ∧ (p = none → xs.length = 0 ∧ cap = 0) := by
  by_cases h0 : 0 < xs.length
  · obtain ⟨g, cap, vs, hv, hb, hglt, hr, h1, h2, h3, h4⟩ := own_row h h0
    exact ⟨_, cap, g, hv, row_sl hr h4 (Nat.le_refl _) hlt h1 h2, fun h => by cases h⟩
  · have hx : xs = [] := List.eq_nil_of_length_eq_zero (by omega)
    subst hx
    obtain ⟨_, ⟨rfl, _⟩ | ⟨g, cap, cur, rfl, hb, hg, h1, h2, h3, h4⟩⟩ := h
    · exact ⟨none, 0, 0, rfl, ⟨hlt, by simp, by omega, fun h => by simp at h, fun j hj => by simp at hj⟩, fun _ => ⟨rfl, rfl⟩⟩
    · exact ⟨_, cap, g, rfl, ⟨hlt, by simp, by unfold maxLen at h2; omega, fun h => by simp at h, fun j hj => by simp at hj⟩, fun h => by cases h⟩
end Go.Proofs.Ytcdmdmbdgmihfaa.Nd
namespace Go.Proofs.Ytcdmdmbdgmihfaa.Nd
open Go.RowKit
theorem i5 : (Try.prog.info? 5).map (fun i => (i.size, i.bytes, i.zero)) = some (1, 1, some (.int .u8 0)) := by kernel_rfl
end Go.Proofs.Ytcdmdmbdgmihfaa.Nd
namespace Go.Proofs.Ytcdmdmbdgmihfaa.Nd
open Go.RowKit
theorem own_empty (w : World) : (w.alloc (.cells #[] 5)).ownsRow w.heap.size 5 1 (.slice (some ⟨w.heap.size, 0, none⟩) 0 0) 0 [] :=
  World.ownsRow_made (base := w.heap.size) (e := 5) (size := 1) w #[] 0 (Nat.le_refl _) (by simp) rfl
/-- the cells of a slice of bytes, as append asks for them -/
theorem Sl.news {w : World} {p : Option Addr} {bs : List Nat} {cap b off : Nat} (h : Sl w p bs cap b off) : ∀ ad, p = some ad → ∀ j u, (bs.map u8v)[j]? = some u → w.cell? (ad.add j) = some u := by
  intro ad hpa j u hu
  have hj : j < bs.length := by simpa using (List.getElem?_eq_some_iff.1 hu).1
  obtain rfl : ad = ⟨b, off, none⟩ := by have := h.at_ (by omega); rw [hpa] at this; exact Option.some.inj this
  rw [Addr.add_mid, h.src j hj]
  simp [hj] at hu
  rw [← hu]
  simp [hj]
theorem nil_yes (w : World) : (binOp .eql 34 (.slice none 0 0) (.slice none 0 0)).run Try.prog w = .ok (.bool true) w := by kernel_rfl
theorem nil_no (ad : Addr) (n c : Nat) (w : World) : (binOp .eql 34 (.slice (some ad) n c) (.slice none 0 0)).run Try.prog w = .ok (.bool false) w := by kernel_rfl
theorem i5h : ∃ i5i, Hid (Try.prog.info? 5 = some i5i) ∧ Hid (i5i.size = 1) ∧ Hid (i5i.bytes = 1) ∧ Hid (i5i.zero = some (.int .u8 0)) := by
  obtain ⟨i5i, hi5, he5⟩ := Option.map_eq_some_iff.1 i5
  simp only [Prod.mk.injEq] at he5
  obtain ⟨e1, e2, e3⟩ := he5
  exact ⟨i5i, hi5, e1, e2, e3⟩
set_option maxHeartbeats 400000 in
theorem clone_any (bs : List Nat) (p : Option Addr) (cap b off : Nat) (w : World) (hsl : Sl w p bs cap b off) (hno : p = none → bs.length = 0 ∧ cap = 0) (hre : bs.length ≤ 140737488355328) :
    Calls Try.prog 27 #[.slice p bs.length cap] w fun e w' => ∃ v, e = .returned v ∧ w'.ownsRow w.heap.size 5 1 v bs.length (bs.map u8v) ∧ Below w.heap.size w w' := by
  obtain ⟨i5i, HI5, HE1, HE2, HE3⟩ := i5h
  rcases p with _ | ad
  · obtain ⟨h0, h1⟩ := hno rfl
    have hb0 : bs = [] := List.eq_nil_of_length_eq_zero h0
    subst hb0
    obtain rfl := h1
    have hnil := nil_yes w
    go_enter Try.func27, Try.ntmps27
    go_wp2
    go_ret
    exact ⟨_, rfl, World.ownsRow_nil _ _ _ _, Below.refl _ _⟩
  · have hown0 := own_empty w
    have hb0 : Below w.heap.size w (w.alloc (.cells #[] 5)) := (Below.refl _ _).alloc (Nat.le_refl _) _
    have hsrc0 := (hsl.below hb0).news
    have hl0 : (bs.map u8v).length = bs.length := by simp
    have hBs : w.heap.size ≤ (w.alloc (.cells #[] 5)).heap.size := by simp
    have hf0 : 0 + bs.length ≤ 140737488355328 := by omega
    have hnil := nil_no ad bs.length cap w
    clear hsl
    go_enter Try.func27, Try.ntmps27
    go_wp2_with (at_builtin; refine wpList_append_any rfl _ _ 34 rfl w.heap.size 5 i5i (.int .u8 0) Try.underlying34 HI5.out HE3.out HE1.out HE2.out rfl _ 0 [] rfl hown0 (some ad) bs.length cap (bs.map u8v) rfl hl0 hno hsrc0 (one_u8 bs) hf0 hBs ?_; intro v1 w1 hown1 hg1)
    go_ret
    rw [Nat.zero_add, List.nil_append] at hown1
    exact ⟨_, rfl, hown1, own_step hb0 hg1 hBs rfl hown0⟩
end Go.Proofs.Ytcdmdmbdgmihfaa.Nd
namespace Go.Proofs.Ytcdmdmbdgmihfaa.Nd
open Go.RowKit
theorem hid_in {p : Prop} (h : p) : Hid p := h
/-- a part of a slice of bytes -/
theorem Sl.part {w : World} {p : Option Addr} {bs : List Nat} {cap b off : Nat} (h : Sl w p bs cap b off) (n m c : Nat) (hnm : n + m ≤ bs.length) (hc : m ≤ c) (hc2 : c ≤ 9223372036854775807) : Sl w (some ⟨b, off + n, none⟩) ((bs.drop n).take m) c b (off + n) :=
  ⟨fun x hx => h.lt x (List.mem_of_mem_drop (List.mem_of_mem_take hx)), by simp; omega, hc2, fun _ => rfl, fun j hj => by
    have hj' : j < m := by simp at hj; omega
    rw [Nat.add_assoc, h.src (n + j) (by omega)]
    simp [hj']⟩
end Go.Proofs.Ytcdmdmbdgmihfaa.Nd
namespace Go.Proofs.Ytcdmdmbdgmihfaa.Nd
open Go.RowKit
/-- the world has grown; of its blocks only those in S may have turned -/
structure Grew (w w' : World) (S : Nat → Prop) : Prop where
  os : w'.os = w.os
  tape : w'.tape = w.tape
  output : w'.output = w.output
  size : w.heap.size ≤ w'.heap.size
  block : ∀ k, k < w.heap.size → ¬ S k → w'.heap[k]? = w.heap[k]?
theorem Grew.refl (w : World) (S : Nat → Prop) : Grew w w S := ⟨rfl, rfl, rfl, Nat.le_refl _, fun _ _ _ => rfl⟩
theorem Grew.trans {a b c : World} {S T : Nat → Prop} (h : Grew a b S) (k : Grew b c T) (hT : ∀ q, q < a.heap.size → T q → S q) : Grew a c S :=
  ⟨k.os.trans h.os, k.tape.trans h.tape, k.output.trans h.output, Nat.le_trans h.size k.size, fun q hq hS => (k.block q (Nat.lt_of_lt_of_le hq h.size) (fun hT' => hS (hT q hq hT'))).trans (h.block q hq hS)⟩
theorem Grew.mono {a b : World} {S T : Nat → Prop} (h : Grew a b S) (hT : ∀ q, S q → T q) : Grew a b T := ⟨h.os, h.tape, h.output, h.size, fun q hq hn => h.block q hq (fun hs => hn (hT q hs))⟩
theorem Grew.of_grown {w w' : World} {row : Option Nat} (h : w.grownBy w' row) : Grew w w' (fun k => some k = row) := ⟨h.os, h.tape, h.output, h.size, fun k hk hn => h.block k hk hn⟩
theorem Grew.of_below {w w' : World} (S : Nat → Prop) (h : Below w.heap.size w w') : Grew w w' S := ⟨h.os, h.tape, h.output, h.size, fun k hk _ => h.block k hk⟩
theorem Grew.below {a w w' : World} {S : Nat → Prop} {B : Nat} (h : Grew w w' S) (hb : Below B a w) (hB : B ≤ w.heap.size) (hS : ∀ k, S k → B ≤ k) : Below B a w' :=
  ⟨h.os.trans hb.os, h.tape.trans hb.tape, h.output.trans hb.output, Nat.le_trans hb.size h.size, fun k hk => (h.block k (by omega) (fun hs => by have := hS k hs; omega)).trans (hb.block k hk)⟩
theorem Row.grew {w w' : World} {b : Nat} {vs : List Value} {t : TypeId} {S : Nat → Prop} (h : Row w b vs t) (hg : Grew w w' S) (hn : ¬ S b) : Row w' b vs t := h.of_block (hg.block b h.lt hn)
/-- where a row lies behind a call -/
def Moved (w : World) (v v' : Value) : Prop := v'.ownBlock = v.ownBlock ∨ ∃ q, v'.ownBlock = some q ∧ w.heap.size ≤ q
theorem Moved.refl (w : World) (v : Value) : Moved w v v := .inl rfl
theorem Moved.trans {a b : World} {u v x : Value} (h : Moved a u v) (k : Moved b v x) (hs : a.heap.size ≤ b.heap.size) : Moved a u x := by
  rcases k with k | ⟨q, k, hq⟩
  · rcases h with h | ⟨q, h, hq⟩
    · exact .inl (k.trans h)
    · exact .inr ⟨q, k.trans h, hq⟩
  · exact .inr ⟨q, k, by omega⟩
end Go.Proofs.Ytcdmdmbdgmihfaa.Nd
namespace Go.Proofs.Ytcdmdmbdgmihfaa.Nd
open Go.RowKit
theorem sl_lit (w : World) (xs : List Nat) (g : Nat) (fz : Nat × Nat) (hg : g = w.heap.size) (hlt : ∀ x ∈ xs, x < 256) (hl : xs.length ≤ 9223372036854775807) : Sl (w.alloc (.cells (xs.map u8v).toArray 5 fz)) (some ⟨g, 0, none⟩) xs xs.length g 0 := by
  subst hg
  refine ⟨hlt, Nat.le_refl _, hl, fun _ => rfl, fun j hj => ?_⟩
  rw [Nat.zero_add, cell_of_row _ _ _ _ _ _ (heap_alloc_new w _)]
  simp [hj]
end Go.Proofs.Ytcdmdmbdgmihfaa.Nd
namespace Go.Proofs.Ytcdmdmbdgmihfaa.Nd
open Go.RowKit
attribute [local go_sem ↓] Go.wp_at_zero Go.wp_at_succ
end Go.Proofs.Ytcdmdmbdgmihfaa.Nd
namespace Go.Proofs.Ytcdmdmbdgmihfaa.Nd
open Go.RowKit
theorem Sl.grew {w w' : World} {p : Option Addr} {bs : List Nat} {cap b off : Nat} {S : Nat → Prop} (h : Sl w p bs cap b off) (hg : Grew w w' S) (hn : 0 < bs.length → ¬ S b) : Sl w' p bs cap b off :=
  ⟨h.lt, h.cap1, h.cap2, h.at_, fun j hj => by
    have hc := h.src j hj
    have hlt := World.block_lt_of_cell? w _ hc
    have hb := hg.block b hlt (hn (by omega))
    have : w'.cell? ⟨b, off + j, none⟩ = w.cell? ⟨b, off + j, none⟩ := by
      simp only [World.cell?, hb]
    rw [this]; exact hc⟩
/-- a part of a slice of bytes from a place on -/
theorem Sl.rest {w : World} {p q : Option Addr} {bs : List Nat} {cap b off : Nat} (h : Sl w p bs cap b off) (n : Nat) (hn : n ≤ bs.length) (hq : n < bs.length → q = some ⟨b, off + n, none⟩) : Sl w q (bs.drop n) (cap - n) b (off + n) :=
  ⟨fun x hx => h.lt x (List.mem_of_mem_drop hx), by have := h.cap1; simp; omega, by have := h.cap2; omega, fun h0 => hq (by simp at h0; omega), fun j hj => by
    have hj' : n + j < bs.length := by simp at hj; omega
    rw [Nat.add_assoc, h.src (n + j) hj']
    simp⟩
end Go.Proofs.Ytcdmdmbdgmihfaa.Nd
namespace Go.Proofs.Ytcdmdmbdgmihfaa.Nd
open Go.RowKit
theorem wp_world {P : Program} {c : Code} {Q : Exit → Act → World → Prop} {a : Act} {W W' : World} (h : W = W') (k : Code.wp P c Q a W') : Code.wp P c Q a W := h ▸ k
end Go.Proofs.Ytcdmdmbdgmihfaa.Nd
namespace Go.Proofs.Ytcdmdmbdgmihfaa.Nd
open Go.RowKit
theorem below_drewN {B : Nat} {a w : World} (h : Below B a w) (n : Nat) : Below B a (w.drewN n) :=
  ⟨h.os, h.tape, h.output, by simpa using h.size, fun k hk => by simpa using h.block k hk⟩
/-- take operation i first: what it leaves lies in slot d -/
theorem take_put {P : Program} {ops : Array Oper} {Q : Exit → Act → World → Prop} {md : Region.Mode} {S : World → Prop} {i d : Nat} {oi : Oper} {v : Value} {fuel : Nat} {listed : Array Bool} {a : Act} {w : World} (hi : ops[i]? = some oi) (hd : oi.dst = some d)
    (hs : Region.noSelect ops = true) (hf : Region.free md ops listed i = true) (hr : (Region.ready md ops listed).contains i = true)
    (hQ : ∀ c a w, Q (.panic c) (a.put (some d) v) w → Q (.panic c) a w) (hy : YieldsIf P ops S oi v a) (hS : S w)
    (h : wpAnyH P md ops Q S fuel (listed.setIfInBounds i true) (a.put (some d) v) w) : wpAnyH P md ops Q S (fuel + 1) listed a w :=
  wpAnyH_take hi hs hf hr (by rw [hd]; exact hQ) hy hS (by rw [hd]; exact h)
end Go.Proofs.Ytcdmdmbdgmihfaa.Nd
namespace Go.Proofs.Ytcdmdmbdgmihfaa.Nd
open Go.RowKit
theorem str_size (l : List Nat) : (str l).size = l.length := by
  show (str l).data.size = l.length
  simp [str]
end Go.Proofs.Ytcdmdmbdgmihfaa.Nd
namespace Go.Proofs.Ytcdmdmbdgmihfaa.Nd
open Go.RowKit
theorem own_belowK {w w' : World} {B n k : Nat} {e : TypeId} {v : Value} {xs : List Value} (h : w.ownsRow B e k v n xs) (hb : Below w.heap.size w w') : w'.ownsRow B e k v n xs := by
  obtain ⟨h1, h2 | ⟨g, cap, cur, rfl, hB, hh, r⟩⟩ := h
  · exact ⟨h1, .inl h2⟩
  · refine ⟨h1, .inr ⟨g, cap, cur, rfl, hB, ?_, r⟩⟩
    have hlt : g < w.heap.size := (Array.getElem?_eq_some_iff.1 hh).1
    rw [hb.block g hlt]
    exact hh
end Go.Proofs.Ytcdmdmbdgmihfaa.Nd
namespace Go.Proofs.Ytcdmdmbdgmihfaa.Nd
open Go.RowKit
/-- a slice of slices of bytes -/
def Bss (w : World) (v : Value) (ps : List (List Nat)) : Prop := ∃ p cap b o, v = .slice p ps.length cap ∧ ps.length ≤ cap ∧ cap ≤ 9223372036854775807 ∧ (ps ≠ [] → p = some ⟨b, o, none⟩ ∧ b < w.heap.size) ∧ ∀ (i : Nat) bs, ps[i]? = some bs → ∃ q c b' o', w.cell? ⟨b, o + i, none⟩ = some (.slice q bs.length c) ∧ Sl w q bs c b' o'
/-- a slice of texts -/
def Strs (w : World) (v : Value) (ns : List ByteArray) : Prop := ∃ p cap b o, v = .slice p ns.length cap ∧ ns.length ≤ cap ∧ cap ≤ 9223372036854775807 ∧ (ns ≠ [] → p = some ⟨b, o, none⟩ ∧ b < w.heap.size) ∧ ∀ (i : Nat) s, ns[i]? = some s → w.cell? ⟨b, o + i, none⟩ = some (.string s)
/-- a slice of numbers -/
def Ints (w : World) (v : Value) (ks : List Int) : Prop := ∃ p cap b o, v = .slice p ks.length cap ∧ ks.length ≤ cap ∧ cap ≤ 9223372036854775807 ∧ (ks ≠ [] → p = some ⟨b, o, none⟩ ∧ b < w.heap.size) ∧ ∀ (i : Nat) k, ks[i]? = some k → w.cell? ⟨b, o + i, none⟩ = some (.int .i64 k)
theorem Bss.lt {w : World} {v : Value} {ps : List (List Nat)} (h : Bss w v ps) : ∀ bs ∈ ps, ∀ x ∈ bs, x < 256 := by
  obtain ⟨p, cap, b, o, _, _, _, _, hat⟩ := h
  intro bs hbs
  obtain ⟨i, hi, rfl⟩ := List.getElem_of_mem hbs
  obtain ⟨q, c, b', o', _, hs⟩ := hat i _ (List.getElem?_eq_getElem hi)
  exact hs.lt
end Go.Proofs.Ytcdmdmbdgmihfaa.Nd
namespace Go.Proofs.Ytcdmdmbdgmihfaa.Nd
open Go.RowKit
theorem Bss.below {w w' : World} {v : Value} {ps : List (List Nat)} (h : Bss w v ps) (hb : Below w.heap.size w w') : Bss w' v ps := by
  obtain ⟨p, cap, b, o, rfl, h1, h2, h3, hat⟩ := h
  refine ⟨p, cap, b, o, rfl, h1, h2, fun hne => ⟨(h3 hne).1, Nat.lt_of_lt_of_le (h3 hne).2 hb.size⟩, fun i bs hi => ?_⟩
  obtain ⟨q, c, b', o', hc, hs⟩ := hat i bs hi
  exact ⟨q, c, b', o', (hb.cell (p := ⟨b, o + i, none⟩) (World.block_lt_of_cell? w _ hc)).trans hc, hs.below hb⟩
theorem Strs.below {w w' : World} {v : Value} {ns : List ByteArray} (h : Strs w v ns) (hb : Below w.heap.size w w') : Strs w' v ns := by
  obtain ⟨p, cap, b, o, rfl, h1, h2, h3, hat⟩ := h
  exact ⟨p, cap, b, o, rfl, h1, h2, fun hne => ⟨(h3 hne).1, Nat.lt_of_lt_of_le (h3 hne).2 hb.size⟩, fun i s hi => (hb.cell (p := ⟨b, o + i, none⟩) (World.block_lt_of_cell? w _ (hat i s hi))).trans (hat i s hi)⟩
theorem Ints.below {w w' : World} {v : Value} {ks : List Int} (h : Ints w v ks) (hb : Below w.heap.size w w') : Ints w' v ks := by
  obtain ⟨p, cap, b, o, rfl, h1, h2, h3, hat⟩ := h
  exact ⟨p, cap, b, o, rfl, h1, h2, fun hne => ⟨(h3 hne).1, Nat.lt_of_lt_of_le (h3 hne).2 hb.size⟩, fun i s hi => (hb.cell (p := ⟨b, o + i, none⟩) (World.block_lt_of_cell? w _ (hat i s hi))).trans (hat i s hi)⟩
end Go.Proofs.Ytcdmdmbdgmihfaa.Nd
namespace Go.Proofs.Ytcdmdmbdgmihfaa.Nd
open Go.RowKit
/-- bytes that the call itself gathers -/
structure RE (W0 W : World) (v : Value) (xs : List Nat) : Prop where
  own : W.ownsRow W0.heap.size 5 1 v xs.length (xs.map u8v)
  bel : Below W0.heap.size W0 W
theorem RE.below {W0 W W' : World} {v : Value} {xs : List Nat} (h : RE W0 W v xs) (hb : Below W.heap.size W W') : RE W0 W' v xs := ⟨own_belowK h.own hb, h.bel.trans (hb.mono h.bel.size)⟩
theorem own_base {W : World} {B B' : Nat} {e : TypeId} {size n : Nat} {v : Value} {xs : List Value} (h : W.ownsRow B e size v n xs) (hb : B' ≤ B) : W.ownsRow B' e size v n xs := by
  obtain ⟨h1, h2 | ⟨g, cap, cur, rfl, hB, r⟩⟩ := h
  · exact ⟨h1, .inl h2⟩
  · exact ⟨h1, .inr ⟨g, cap, cur, rfl, Nat.le_trans hb hB, r⟩⟩
end Go.Proofs.Ytcdmdmbdgmihfaa.Nd
