/-
  Small laws on memory, on rows of a call's own, on slices of bytes; and of the walk for a block that is known whole. The walks of wire.shiftedByByte and wire.Check: the check sum of parts. The walks of wire.word, wire.valueOf, bytes.Clone, slices.Grow (of nothing) and slices.Concat. The walks of bytes.Clone, slices.Grow (of nothing) and slices.Concat. The walks of wire.Frame and wire.Next. The walk of wire.Next. Fields as bytes: what an Out is; the walks of its Num, Int and Bytes. The walks of (*wire.Out).Num, Int and Bytes. The walks of (*wire.Out).Int and Bytes, and wire.Read. The walks of (*wire.In).fail and take.
-/
import Derived.Test.YtjlhjpooggkkoaaRows
import Derived.WalkKit
import Derived.WalkSpells
import Derived.WalkLawsBesides
import Derived.Deep.AppendLies
import Derived.Deep.MidRow
import Derived.Deep.Light
import Derived.Laws.CopyOwn
import Derived.Laws.AppendOwnNone
import Derived.Laws.BytesArg
import Derived.Lib.Strings
import Derived.BigQuiet
import Derived.BigRegion
import Derived.Lib.AppendZeros
import Derived.Deep.DrawnRows
import Derived.Deep.RegionHeld3
import Derived.Maps.AppendAt
namespace Go.Proofs.Ytjlhjpooggkkoaa.Nd
open Go.RowKit
def u8v (n : Nat) : Value := .int .u8 (n : Int)
/-- block b of the world holds just these cells -/
def Row (w : World) (b : Nat) (vs : List Value) (t : TypeId) : Prop := w.heap[b]? = some (.cells vs.toArray t (0, 0))
theorem Row.cell {w : World} {b : Nat} {vs : List Value} {t : TypeId} (h : Row w b vs t) (j : Nat) : w.cell? ⟨b, j, none⟩ = vs[j]? := by
  rw [cell_of_row w b j _ t (0, 0) h]; simp
theorem Row.frozen {w : World} {b : Nat} {vs : List Value} {t : TypeId} (h : Row w b vs t) (j : Nat) : w.frozen? ⟨b, j, none⟩ = false := by
  unfold Row at h; simp [World.frozen?, h]
theorem Row.lt {w : World} {b : Nat} {vs : List Value} {t : TypeId} (h : Row w b vs t) : b < w.heap.size := by
  unfold Row at h
  exact (Array.getElem?_eq_some_iff.1 h).1
theorem Row.of_block {w w' : World} {b : Nat} {vs : List Value} {t : TypeId} (h : Row w b vs t) (hb : w'.heap[b]? = w.heap[b]?) : Row w' b vs t := by
  unfold Row at *; rw [hb]; exact h
theorem Row.drew {w : World} {b : Nat} {vs : List Value} {t : TypeId} (h : Row w b vs t) : Row w.drew b vs t := h
theorem Row.alloc {w : World} {b : Nat} {vs : List Value} {t : TypeId} (h : Row w b vs t) (o : Obj) : Row (w.alloc o) b vs t :=
  h.of_block (Below.heap_alloc _ _ _ h.lt)
theorem Row.new (w : World) (vs : List Value) (t : TypeId) : Row (w.alloc (.cells vs.toArray t)) w.heap.size vs t := heap_alloc_new w _
theorem Row.newAt (w : World) (b : Nat) (vs : List Value) (t : TypeId) (hb : w.heap.size = b) : Row (w.alloc (.cells vs.toArray t)) b vs t := by subst hb; exact heap_alloc_new w _
theorem Row.below {w w' : World} {b B : Nat} {vs : List Value} {t : TypeId} (h : Row w b vs t) (hb : Below B w w') (hB : b < B) : Row w' b vs t :=
  h.of_block (hb.block b hB)
theorem Row.grown {w w' : World} {b : Nat} {row : Option Nat} {vs : List Value} {t : TypeId} (h : Row w b vs t) (hb : w.grownBy w' row) (hB : some b ≠ row) : Row w' b vs t :=
  h.of_block (hb.block b h.lt hB)
theorem Row.set_other {w : World} {b : Nat} {vs : List Value} {t : TypeId} (h : Row w b vs t) (a : Addr) (v : Value) (hne : b ≠ a.block) : Row (w.setCell a v) b vs t :=
  h.of_block (Below.heap_setCell _ _ _ _ hne)
theorem Row.set_same {w : World} {b : Nat} {vs : List Value} {t : TypeId} (h : Row w b vs t) (j : Nat) (v : Value) : Row (w.setCell ⟨b, j, none⟩ v) b (vs.set j v) t := by
  unfold Row at *
  simp only [World.setCell, Array.getElem?_modify, if_true, h]
  simp
theorem grownBy_trans {a b c : World} {row : Option Nat} (h : a.grownBy b row) (k : b.grownBy c row) : a.grownBy c row :=
  ⟨k.os.trans h.os, k.tape.trans h.tape, k.output.trans h.output, Nat.le_trans h.size k.size, fun i hi hne => (k.block i (Nat.lt_of_lt_of_le hi h.size) hne).trans (h.block i hi hne)⟩
theorem grownBy_refl (w : World) (row : Option Nat) : w.grownBy w row := ⟨rfl, rfl, rfl, Nat.le_refl _, fun _ _ _ => rfl⟩
theorem grownBy_setCell (w : World) (a : Addr) (v : Value) : w.grownBy (w.setCell a v) (some a.block) :=
  ⟨rfl, rfl, rfl, by simp [World.setCell], fun k _ hne => Below.heap_setCell _ _ _ _ (fun e => hne (by rw [e]))⟩
theorem grown_of_below {w w' : World} {row : Option Nat} (h : Below w.heap.size w w') : w.grownBy w' row := ⟨h.os, h.tape, h.output, h.size, fun k hk _ => h.block k hk⟩
theorem one_u8 (l : List Nat) : ∀ v ∈ l.map u8v, v.oneCell' = true := by
  intro v hv; simp only [List.mem_map] at hv; obtain ⟨n, _, rfl⟩ := hv; rfl
theorem post_Row {P : Program} {fn : Func} {R : Ending → World → Prop} {a : Act} {w : World} (p : Tmp) (ty : TypeId) (hf : fn.results = #[.cell p ty]) (g : Nat) (hp : a.tmps.getD p undef = .pointer (some ⟨g, 0, none⟩))
    (t : TypeId) (vs : List Value) (hr : Row w g vs t) (d : TypeDesc) (hu : P.underlying ty = some d) (hd : (match d with | .struct _ | .array _ _ => true | _ => false) = true) (n : Nat) (hi : (P.info? ty).map (·.size) = some n) (hn : vs.length = n)
    (hdf : a.defers = []) (h : R (.returned (.agg vs.toArray)) w) : bodyPost P fn R .ret a w :=
  bodyPost_ret (results_cell_row hf a.tmps w g t vs.toArray (0, 0) d hp hr hu hd (by rw [hi]; simp [hn])) hdf h
/-- a slice of bytes that lies in the world -/
structure Sl (w : World) (p : Option Addr) (bs : List Nat) (cap : Nat) (b off : Nat) : Prop where
  lt : ∀ x ∈ bs, x < 256
  cap1 : bs.length ≤ cap
  cap2 : cap ≤ 9223372036854775807
  at_ : 0 < bs.length → p = some ⟨b, off, none⟩
  src : ∀ j, j < bs.length → w.cell? ⟨b, off + j, none⟩ = some (u8v (bs.getD j 0))
theorem Sl.below {w w' : World} {p : Option Addr} {bs : List Nat} {cap b off : Nat} (h : Sl w p bs cap b off) (hb : Below w.heap.size w w') : Sl w' p bs cap b off :=
  ⟨h.lt, h.cap1, h.cap2, h.at_, fun j hj => by rw [hb.cell (World.block_lt_of_cell? w _ (h.src j hj))]; exact h.src j hj⟩
theorem own_step {w w' : World} {B : Nat} {v : Value} {row : Option Nat} {a : World} (hb : Below B a w) (hg : w.grownBy w' row) (hB : B ≤ w.heap.size) (hv : row = v.ownBlock) {e : TypeId} {size n : Nat} {xs : List Value} (ho : w.ownsRow B e size v n xs) : Below B a w' := by
  subst hv
  exact hb.grown hg hB (fun k hk => (ho.lt k hk).1)
/-- append to a row of the call's own, from a slice that may be nil -/
theorem wpList_append_any {P : Program} {w : World} {ops : Array Oper} {rest : List Oper} {o : Oper} {a : Act} {Q : Exit → Act → World → Prop} (hgd : o.guard = none) (s x : Operand) (t : TypeId)
    (ho : o.op = .call { callee := .builtin .append, args := #[s, x], argTypes := #[t, t] })
    (base : Nat) (e : TypeId) (i : TypeInfo) (z : Value) (ht : P.underlying t = some (.slice e)) (hi : P.info? e = some i) (hz : i.zero = some z)
    (hsize : i.size = 1) (hby : i.bytes = 1) (hzs : z.cells.size = 1)
    (v : Value) (n : Nat) (xs : List Value) (hs : a.eval s = v) (hown : w.ownsRow base e 1 v n xs)
    (p : Option Addr) (m c : Nat) (news : List Value) (hx : a.eval x = .slice p m c) (hl : news.length = m) (hpn : p = none → m = 0 ∧ c = 0) (hnews : ∀ ad, p = some ad → ∀ j u, news[j]? = some u → w.cell? (ad.add j) = some u) (h1 : ∀ u ∈ news, u.oneCell' = true)
    (hbytes : n + m ≤ 140737488355328) (hbase : base ≤ w.heap.size)
    (h : ∀ v' w', w'.ownsRow base e 1 v' (n + m) (xs ++ news) → w.grownBy w' v.ownBlock → wpList P ops Q rest (a.put o.dst v') w') : wpList P ops Q (o :: rest) a w := by
  rcases p with _ | ad
  · obtain ⟨rfl, rfl⟩ := hpn rfl
    obtain rfl : news = [] := List.eq_nil_of_length_eq_zero hl
    refine wpList_append_own_none hgd s x t ho base e i 1 ht hi v n xs hs hown hx ?_
    exact h v w (by simpa using hown) (grownBy_refl w _)
  · refine wpList_append_own w hgd s x t ho base e i z 1 1 ht hi hz hsize hby hzs (by decide) v n xs hs hown ad m c news hx (by omega) (hnews ad rfl) h1 (by unfold maxLen; omega) (by omega) hbase ?_
    exact fun v' w' h2 h3 _ => h v' w' h2 h3
/-- append of one value that was just laid into a block of its own -/
theorem wpList_append_one {P : Program} {w : World} {ops : Array Oper} {rest : List Oper} {o : Oper} {a : Act} {Q : Exit → Act → World → Prop} (hgd : o.guard = none) (s x : Operand) (t : TypeId)
    (ho : o.op = .call { callee := .builtin .append, args := #[s, x], argTypes := #[t, t] })
    (base : Nat) (e : TypeId) (i : TypeInfo) (z : Value) (ht : P.underlying t = some (.slice e)) (hi : P.info? e = some i) (hz : i.zero = some z)
    (hsize : i.size = 1) (hby : i.bytes = 1) (hzs : z.cells.size = 1)
    (v : Value) (n : Nat) (xs : List Value) (hs : a.eval s = v) (hown : w.ownsRow base e 1 v n xs) (e' : TypeId) (u : Value) (hu : u.oneCell' = true)
    (hx : a.eval x = .slice (some ⟨w.heap.size, 0, none⟩) 1 1) (hbytes : n + 1 ≤ 140737488355328) (hbase : base ≤ w.heap.size)
    (h : ∀ v' w', w'.ownsRow base e 1 v' (n + 1) (xs ++ [u]) → (∀ a0, Below base a0 w → Below base a0 w') → base ≤ w'.heap.size → wpList P ops Q rest (a.put o.dst v') w') : wpList P ops Q (o :: rest) a (w.alloc (.cells #[u] e')) := by
  have hs1 : base ≤ (w.alloc (.cells #[u] e')).heap.size := by rw [World.size_alloc]; omega
  refine wpList_append_any hgd s x t ho base e i z ht hi hz hsize hby hzs v n xs hs (hown.alloc _) (some ⟨w.heap.size, 0, none⟩) 1 1 [u] hx rfl (fun h => by cases h) ?_ (fun v hv => by simp at hv; subst hv; exact hu) hbytes hs1 ?_
  · intro ad had j u' hj
    cases had
    have h0 : j = 0 := by have := (List.getElem?_eq_some_iff.1 hj).1; simp at this; omega
    subst h0
    rw [Addr.add_mid, (Row.newAt w w.heap.size [u] e' rfl).cell]
    exact hj
  · intro v' w' h2 h3
    refine h v' w' h2 (fun a0 hb => own_step (hb.alloc hbase _) h3 hs1 rfl (hown.alloc (.cells #[u] e'))) (Nat.le_trans hs1 h3.size)
/-- a string's bytes -/
def str (l : List Nat) : ByteArray := ⟨(l.map UInt8.ofNat).toArray⟩
theorem conv_sl {w : World} {p : Option Addr} {bs : List Nat} {cap b off : Nat} (h : Sl w p bs cap b off) : (convert 32 9 (.slice p bs.length cap)).run Try.prog w = .ok (.string (str bs)) w := by
  by_cases h0 : 0 < bs.length
  · obtain rfl := h.at_ h0
    rw [run_convert_bytes_arg w 32 5 Try.underlying32 Try.underlying5 b off bs.length cap (bs.map fun (n : Nat) => (n : Int)) (by simp) (fun i hi => by rw [h.src i hi]; simp [u8v, hi]) 9 Try.underlying9]
    congr 2
    simp [strOfNums, str, Function.comp_def]
  · obtain rfl : bs = [] := List.eq_nil_of_length_eq_zero (by omega)
    rcases p with _ | ⟨b', o', m'⟩
    · exact run_convert_bytes_nil w 32 5 Try.underlying32 Try.underlying5 0 cap 9 Try.underlying9
    · rw [run_convert_bytes_string w 32 9 5 _ _ _ Try.underlying32 Try.underlying5 Try.underlying9]
      rw [List.length_nil, run_bytesToString w _ 0 cap [] (by simp [loadCells, loadCellsFrom, Sem.run_pure])]
      rfl
theorem slice_to (b o L C n : Nat) (h1 : n ≤ C) (w : World) : (Instr.slice 32 (.slice (some ⟨b, o, none⟩) L C) none (some (.int .i64 (n : Int))) none).run Try.prog w = .ok (.slice (some ⟨b, o, none⟩) n C) w := by
  have ht : Try.prog.underlying 32 = some (.slice (Try.prog.elem 32)) := by kernel_rfl
  have he : Try.prog.elem 32 = 5 := by kernel_rfl
  have hsz : (sizeOf 5).run Try.prog w = .ok 1 w := by kernel_rfl
  rw [run_slice_h w 32 (some ⟨b, o, none⟩) L C ht .i64 (n : Int) (by omega) (by omega), he, hsz]
  simp [sliced, Addr.add_mid]
end Go.Proofs.Ytjlhjpooggkkoaa.Nd
namespace Go.Proofs.Ytjlhjpooggkkoaa.Nd.Wire
/-- one bit goes -/
def step (x : Nat) : Nat := if x % 2 = 1 then (x / 2) ^^^ 3988292384 else x / 2
def steps : Nat → Nat → Nat
  | 0, x => x
  | k + 1, x => step (steps k x)
/-- one byte comes -/
def byte (s b : Nat) : Nat := steps 8 (s ^^^ b)
def run (s : Nat) (bs : List Nat) : Nat := bs.foldl byte s
def val (b : List Nat) : Nat := b.getD 0 0 + b.getD 1 0 * 256 + b.getD 2 0 * 65536 + b.getD 3 0 * 16777216
end Go.Proofs.Ytjlhjpooggkkoaa.Nd.Wire
namespace Go.Proofs.Ytjlhjpooggkkoaa.Nd
open Go.RowKit
/-- a slice of bytes among several: where it lies, its bytes -/
structure Part where
  p : Option Addr
  bs : List Nat
  cap : Nat
  b : Nat
  off : Nat
def Part.val (x : Part) : Value := .slice x.p x.bs.length x.cap
def Part.ok (w : World) (x : Part) : Prop := Sl w x.p x.bs x.cap x.b x.off
/-- slices of bytes that lie one behind the other -/
structure Parts (w : World) (pb po : Nat) (ps : List Part) : Prop where
  at_ : ∀ i x, ps[i]? = some x → w.cell? ⟨pb, po + i, none⟩ = some x.val
  ok : ∀ x ∈ ps, x.ok w
  no : ∀ x ∈ ps, x.p = none → x.bs.length = 0 ∧ x.cap = 0
theorem Parts.below {w w' : World} {pb po : Nat} {ps : List Part} (h : Parts w pb po ps) (hb : Below w.heap.size w w') : Parts w' pb po ps :=
  ⟨fun i x hx => by rw [hb.cell (World.block_lt_of_cell? w _ (h.at_ i x hx))]; exact h.at_ i x hx, fun x hx => (h.ok x hx).below hb, h.no⟩
/-- a row that a call owns, as a block that is known whole -/
theorem own_row {w : World} {B n : Nat} {v : Value} {xs : List Value} (h : w.ownsRow B 5 1 v n xs) (hn : 0 < n) : ∃ g cap vs, v = .slice (some ⟨g, 0, none⟩) n cap ∧ B ≤ g ∧ g < w.heap.size ∧ Row w g vs 5 ∧ n ≤ cap ∧ cap ≤ 9223372036854775807 ∧ vs.length = cap ∧ vs.take n = xs := by
  obtain ⟨_, ⟨_, h0⟩ | ⟨g, cap, cur, hv, hb, hg, h1, h2, h3, h4⟩⟩ := h
  · omega
  · have hr : Row w g cur.toList 5 := by unfold Row; rw [hg]
    unfold maxLen at h2
    exact ⟨g, cap, cur.toList, hv, hb, hr.lt, hr, h1, by omega, by simpa using h3, by simpa using h4⟩
theorem row_sl {w : World} {g n cap : Nat} {vs : List Value} {xs : List Nat} (hr : Row w g vs 5) (ht : vs.take n = xs.map u8v) (hn : xs.length ≤ n) (hlt : ∀ x ∈ xs, x < 256) (h1 : xs.length ≤ cap) (h2 : cap ≤ 9223372036854775807) : Sl w (some ⟨g, 0, none⟩) xs cap g 0 :=
  ⟨hlt, h1, h2, fun _ => rfl, fun j hj => by
    rw [Nat.zero_add, hr.cell]
    have e : vs[j]? = (vs.take n)[j]? := by rw [List.getElem?_take_of_lt (by omega)]
    rw [e, ht]
    simp [hj]⟩
theorem Sl.grown {w w' : World} {p : Option Addr} {bs : List Nat} {cap b off : Nat} {row : Option Nat} (h : Sl w p bs cap b off) (hb : w.grownBy w' row) (hne : 0 < bs.length → some b ≠ row) : Sl w' p bs cap b off :=
  ⟨h.lt, h.cap1, h.cap2, h.at_, fun j hj => hb.cell (h.src j hj) (hne (by omega))⟩
theorem Sl.blk {w : World} {p : Option Addr} {bs : List Nat} {cap b off : Nat} (h : Sl w p bs cap b off) (h0 : 0 < bs.length) : b < w.heap.size := World.block_lt_of_cell? w _ (h.src 0 h0)
theorem own_sl {w : World} {B : Nat} {v : Value} {xs : List Nat} (hlt : ∀ x ∈ xs, x < 256) (h : w.ownsRow B 5 1 v xs.length (xs.map u8v)) : ∃ p cap b, v = .slice p xs.length cap ∧ Sl w p xs cap b 0 ∧ (p = none → xs.length = 0 ∧ cap = 0) := by
  by_cases h0 : 0 < xs.length
  · obtain ⟨g, cap, vs, hv, hb, hglt, hr, h1, h2, h3, h4⟩ := own_row h h0
    exact ⟨_, cap, g, hv, row_sl hr h4 (Nat.le_refl _) hlt h1 h2, fun h => by cases h⟩
  · have hx : xs = [] := List.eq_nil_of_length_eq_zero (by omega)
    subst hx
    obtain ⟨_, ⟨rfl, _⟩ | ⟨g, cap, cur, rfl, hb, hg, h1, h2, h3, h4⟩⟩ := h
    · exact ⟨none, 0, 0, rfl, ⟨hlt, by simp, by omega, fun h => by simp at h, fun j hj => by simp at hj⟩, fun _ => ⟨rfl, rfl⟩⟩
    · exact ⟨_, cap, g, rfl, ⟨hlt, by simp, by unfold maxLen at h2; omega, fun h => by simp at h, fun j hj => by simp at hj⟩, fun h => by cases h⟩
theorem own_below {w w' : World} {B : Nat} {v : Value} {n : Nat} {xs : List Value} (h : w.ownsRow B 5 1 v n xs) (hb : Below w.heap.size w w') : w'.ownsRow B 5 1 v n xs := by
  refine h.kept (grown_of_below (row := none) hb) ?_
  cases v.ownBlock <;> simp
end Go.Proofs.Ytjlhjpooggkkoaa.Nd
namespace Go.Proofs.Ytjlhjpooggkkoaa.Nd
open Go.RowKit
theorem i5 : (Try.prog.info? 5).map (fun i => (i.size, i.bytes, i.zero)) = some (1, 1, some (.int .u8 0)) := by kernel_rfl
end Go.Proofs.Ytjlhjpooggkkoaa.Nd
namespace Go.Proofs.Ytjlhjpooggkkoaa.Nd
open Go.RowKit
theorem own_empty (w : World) : (w.alloc (.cells #[] 5)).ownsRow w.heap.size 5 1 (.slice (some ⟨w.heap.size, 0, none⟩) 0 0) 0 [] :=
  World.ownsRow_made (base := w.heap.size) (e := 5) (size := 1) w #[] 0 (Nat.le_refl _) (by simp) rfl
/-- the cells of a slice of bytes, as append asks for them -/
theorem Sl.news {w : World} {p : Option Addr} {bs : List Nat} {cap b off : Nat} (h : Sl w p bs cap b off) : ∀ ad, p = some ad → ∀ j u, (bs.map u8v)[j]? = some u → w.cell? (ad.add j) = some u := by
  intro ad hpa j u hu
  have hj : j < bs.length := by simpa using (List.getElem?_eq_some_iff.1 hu).1
  obtain rfl : ad = ⟨b, off, none⟩ := by have := h.at_ (by omega); rw [hpa] at this; exact Option.some.inj this
  rw [Addr.add_mid, h.src j hj]
  simp [hj] at hu
  rw [← hu]
  simp [hj]
theorem nil_yes (w : World) : (binOp .eql 32 (.slice none 0 0) (.slice none 0 0)).run Try.prog w = .ok (.bool true) w := by kernel_rfl
theorem nil_no (ad : Addr) (n c : Nat) (w : World) : (binOp .eql 32 (.slice (some ad) n c) (.slice none 0 0)).run Try.prog w = .ok (.bool false) w := by kernel_rfl
theorem i5h : ∃ i5i, Hid (Try.prog.info? 5 = some i5i) ∧ Hid (i5i.size = 1) ∧ Hid (i5i.bytes = 1) ∧ Hid (i5i.zero = some (.int .u8 0)) := by
  obtain ⟨i5i, hi5, he5⟩ := Option.map_eq_some_iff.1 i5
  simp only [Prod.mk.injEq] at he5
  obtain ⟨e1, e2, e3⟩ := he5
  exact ⟨i5i, hi5, e1, e2, e3⟩
set_option maxHeartbeats 400000 in
theorem clone_any (bs : List Nat) (p : Option Addr) (cap b off : Nat) (w : World) (hsl : Sl w p bs cap b off) (hno : p = none → bs.length = 0 ∧ cap = 0) (hre : bs.length ≤ 140737488355328) :
    Calls Try.prog 52 #[.slice p bs.length cap] w fun e w' => ∃ v, e = .returned v ∧ w'.ownsRow w.heap.size 5 1 v bs.length (bs.map u8v) ∧ Below w.heap.size w w' := by
  obtain ⟨i5i, HI5, HE1, HE2, HE3⟩ := i5h
  rcases p with _ | ad
  · obtain ⟨h0, h1⟩ := hno rfl
    have hb0 : bs = [] := List.eq_nil_of_length_eq_zero h0
    subst hb0
    obtain rfl := h1
    have hnil := nil_yes w
    go_enter Try.func52, Try.ntmps52
    go_wp2
    go_ret
    exact ⟨_, rfl, World.ownsRow_nil _ _ _ _, Below.refl _ _⟩
  · have hown0 := own_empty w
    have hb0 : Below w.heap.size w (w.alloc (.cells #[] 5)) := (Below.refl _ _).alloc (Nat.le_refl _) _
    have hsrc0 := (hsl.below hb0).news
    have hl0 : (bs.map u8v).length = bs.length := by simp
    have hBs : w.heap.size ≤ (w.alloc (.cells #[] 5)).heap.size := by simp
    have hf0 : 0 + bs.length ≤ 140737488355328 := by omega
    have hnil := nil_no ad bs.length cap w
    clear hsl
    go_enter Try.func52, Try.ntmps52
    go_wp2_with (at_builtin; refine wpList_append_any rfl _ _ 32 rfl w.heap.size 5 i5i (.int .u8 0) Try.underlying32 HI5.out HE3.out HE1.out HE2.out rfl _ 0 [] rfl hown0 (some ad) bs.length cap (bs.map u8v) rfl hl0 hno hsrc0 (one_u8 bs) hf0 hBs ?_; intro v1 w1 hown1 hg1)
    go_ret
    rw [Nat.zero_add, List.nil_append] at hown1
    exact ⟨_, rfl, hown1, own_step hb0 hg1 hBs rfl hown0⟩
end Go.Proofs.Ytjlhjpooggkkoaa.Nd
namespace Go.Proofs.Ytjlhjpooggkkoaa.Nd
open Go.RowKit
theorem own_mono {w : World} {B B' n : Nat} {v : Value} {xs : List Value} (h : w.ownsRow B 5 1 v n xs) (hb : B' ≤ B) : w.ownsRow B' 5 1 v n xs := by
  obtain ⟨h1, h2 | ⟨g, cap, cur, hv, hB, r⟩⟩ := h
  · exact ⟨h1, .inl h2⟩
  · exact ⟨h1, .inr ⟨g, cap, cur, hv, Nat.le_trans hb hB, r⟩⟩
end Go.Proofs.Ytjlhjpooggkkoaa.Nd
namespace Go.Proofs.Ytjlhjpooggkkoaa.Nd
open Go.RowKit
theorem hid_in {p : Prop} (h : p) : Hid p := h
/-- a part of a slice of bytes -/
theorem Sl.part {w : World} {p : Option Addr} {bs : List Nat} {cap b off : Nat} (h : Sl w p bs cap b off) (n m c : Nat) (hnm : n + m ≤ bs.length) (hc : m ≤ c) (hc2 : c ≤ 9223372036854775807) : Sl w (some ⟨b, off + n, none⟩) ((bs.drop n).take m) c b (off + n) :=
  ⟨fun x hx => h.lt x (List.mem_of_mem_drop (List.mem_of_mem_take hx)), by simp; omega, hc2, fun _ => rfl, fun j hj => by
    have hj' : j < m := by simp at hj; omega
    rw [Nat.add_assoc, h.src (n + j) (by omega)]
    simp [hj']⟩
end Go.Proofs.Ytjlhjpooggkkoaa.Nd
namespace Go.Proofs.Ytjlhjpooggkkoaa.Nd
open Go.RowKit
/-- the world has grown; of its blocks only those in S may have turned -/
structure Grew (w w' : World) (S : Nat → Prop) : Prop where
  os : w'.os = w.os
  tape : w'.tape = w.tape
  output : w'.output = w.output
  size : w.heap.size ≤ w'.heap.size
  block : ∀ k, k < w.heap.size → ¬ S k → w'.heap[k]? = w.heap[k]?
theorem Grew.refl (w : World) (S : Nat → Prop) : Grew w w S := ⟨rfl, rfl, rfl, Nat.le_refl _, fun _ _ _ => rfl⟩
theorem Grew.trans {a b c : World} {S T : Nat → Prop} (h : Grew a b S) (k : Grew b c T) (hT : ∀ q, q < a.heap.size → T q → S q) : Grew a c S :=
  ⟨k.os.trans h.os, k.tape.trans h.tape, k.output.trans h.output, Nat.le_trans h.size k.size, fun q hq hS => (k.block q (Nat.lt_of_lt_of_le hq h.size) (fun hT' => hS (hT q hq hT'))).trans (h.block q hq hS)⟩
theorem Grew.mono {a b : World} {S T : Nat → Prop} (h : Grew a b S) (hT : ∀ q, S q → T q) : Grew a b T := ⟨h.os, h.tape, h.output, h.size, fun q hq hn => h.block q hq (fun hs => hn (hT q hs))⟩
theorem Grew.of_grown {w w' : World} {row : Option Nat} (h : w.grownBy w' row) : Grew w w' (fun k => some k = row) := ⟨h.os, h.tape, h.output, h.size, fun k hk hn => h.block k hk hn⟩
theorem Grew.of_below {w w' : World} (S : Nat → Prop) (h : Below w.heap.size w w') : Grew w w' S := ⟨h.os, h.tape, h.output, h.size, fun k hk _ => h.block k hk⟩
theorem Grew.below {a w w' : World} {S : Nat → Prop} {B : Nat} (h : Grew w w' S) (hb : Below B a w) (hB : B ≤ w.heap.size) (hS : ∀ k, S k → B ≤ k) : Below B a w' :=
  ⟨h.os.trans hb.os, h.tape.trans hb.tape, h.output.trans hb.output, Nat.le_trans hb.size h.size, fun k hk => (h.block k (by omega) (fun hs => by have := hS k hs; omega)).trans (hb.block k hk)⟩
theorem Row.grew {w w' : World} {b : Nat} {vs : List Value} {t : TypeId} {S : Nat → Prop} (h : Row w b vs t) (hg : Grew w w' S) (hn : ¬ S b) : Row w' b vs t := h.of_block (hg.block b h.lt hn)
/-- append of one value that was just laid into a block of its own; where the row then lies -/
theorem wpList_append_one_at {P : Program} {w : World} {ops : Array Oper} {rest : List Oper} {o : Oper} {a : Act} {Q : Exit → Act → World → Prop} (hgd : o.guard = none) (s x : Operand) (t : TypeId)
    (ho : o.op = .call { callee := .builtin .append, args := #[s, x], argTypes := #[t, t] })
    (base : Nat) (e : TypeId) (i : TypeInfo) (z : Value) (ht : P.underlying t = some (.slice e)) (hi : P.info? e = some i) (hz : i.zero = some z)
    (hsize : i.size = 1) (hby : i.bytes = 1) (hzs : z.cells.size = 1)
    (v : Value) (n : Nat) (xs : List Value) (hs : a.eval s = v) (hown : w.ownsRow base e 1 v n xs) (e' : TypeId) (u : Value) (hu : u.oneCell' = true)
    (hx : a.eval x = .slice (some ⟨w.heap.size, 0, none⟩) 1 1) (hbytes : n + 1 ≤ 140737488355328) (hbase : base ≤ w.heap.size)
    (h : ∀ v' w', w'.ownsRow base e 1 v' (n + 1) (xs ++ [u]) → Grew w w' (fun k => some k = v.ownBlock) → (v'.ownBlock = v.ownBlock ∨ ∃ q, v'.ownBlock = some q ∧ w.heap.size ≤ q) → wpList P ops Q rest (a.put o.dst v') w') : wpList P ops Q (o :: rest) a (w.alloc (.cells #[u] e')) := by
  have hs1 : base ≤ (w.alloc (.cells #[u] e')).heap.size := by rw [World.size_alloc]; omega
  refine wpList_append_own_at _ hgd s x t ho base e i z 1 1 ht hi hz hsize hby hzs (by decide) v n xs hs (hown.alloc _) ⟨w.heap.size, 0, none⟩ 1 1 [u] hx rfl ?_ (fun v hv => by simp at hv; subst hv; exact hu) (by unfold maxLen; omega) (by omega) hs1 ?_
  · intro j u' hj
    have h0 : j = 0 := by have := (List.getElem?_eq_some_iff.1 hj).1; simp at this; omega
    subst h0
    rw [Addr.add_mid, (Row.newAt w w.heap.size [u] e' rfl).cell]
    exact hj
  · intro v' w' h2 h3 _ h5
    refine h v' w' h2 ?_ ?_
    · exact (Grew.of_below _ ((Below.refl w.heap.size w).alloc (Nat.le_refl _) _)).trans (Grew.of_grown h3) (fun q _ hq => hq)
    · rcases h5 with h5 | h5
      · exact .inl h5
      · exact .inr ⟨_, h5, by rw [World.size_alloc]; omega⟩
/-- the Out at block g has made the bytes xs; its row is v -/
structure OutIs (w : World) (B g : Nat) (v : Value) (xs : List Nat) : Prop where
  row : Row w g [v] 56
  own : w.ownsRow B 5 1 v xs.length (xs.map u8v)
  apart : v.ownBlock ≠ some g
  base : B ≤ w.heap.size
  lt : ∀ x ∈ xs, x < 256
/-- where a row lies behind a call -/
def Moved (w : World) (v v' : Value) : Prop := v'.ownBlock = v.ownBlock ∨ ∃ q, v'.ownBlock = some q ∧ w.heap.size ≤ q
theorem Moved.refl (w : World) (v : Value) : Moved w v v := .inl rfl
theorem Moved.trans {a b : World} {u v x : Value} (h : Moved a u v) (k : Moved b v x) (hs : a.heap.size ≤ b.heap.size) : Moved a u x := by
  rcases k with k | ⟨q, k, hq⟩
  · rcases h with h | ⟨q, h, hq⟩
    · exact .inl (k.trans h)
    · exact .inr ⟨q, k.trans h, hq⟩
  · exact .inr ⟨q, k, by omega⟩
/-- what an Out's call may turn -/
def OutS (g : Nat) (v : Value) : Nat → Prop := fun k => k = g ∨ some k = v.ownBlock
namespace Wire
def numF : Nat → Nat → List Nat
  | 0, n => [n]
  | k + 1, n => if n < 128 then [n] else (n % 128 + 128) :: numF k (n / 128)
/-- a number's bytes -/
def num (n : Nat) : List Nat := numF 9 n
end Wire
theorem or128 (y : Nat) (h : y < 256) : bits .or .u8 (y : Int) 128 = ((y % 128 + 128 : Nat) : Int) := by
  have h1 := u8_or_nat y 128 h (by decide)
  have h2 : ∀ z : Fin 256, (z.1 ||| 128) = z.1 % 128 + 128 := by decide +kernel
  rw [h2 ⟨y, h⟩] at h1
  exact h1
end Go.Proofs.Ytjlhjpooggkkoaa.Nd
namespace Go.Proofs.Ytjlhjpooggkkoaa.Nd
open Go.RowKit
theorem numF_lt : ∀ (k n : Nat), n < 128 ^ (k + 1) → ∀ x ∈ Wire.numF k n, x < 256
  | 0, n, h, x, hx => by simp [Wire.numF] at hx; omega
  | k + 1, n, h, x, hx => by
    simp only [Wire.numF] at hx
    split at hx
    · simp at hx; omega
    · rcases List.mem_cons.1 hx with rfl | hx
      · omega
      · exact numF_lt k (n / 128) (by rw [Nat.div_lt_iff_lt_mul (by decide)]; rw [Nat.pow_succ] at h; exact h) x hx
theorem numF_length : ∀ (k n : Nat), (Wire.numF k n).length ≤ k + 1
  | 0, n => by simp [Wire.numF]
  | k + 1, n => by
    simp only [Wire.numF]
    split
    · simp
    · simp only [List.length_cons]; have := numF_length k (n / 128); omega
theorem num_lt (n : Nat) (h : n < 18446744073709551616) : ∀ x ∈ Wire.num n, x < 256 := numF_lt 9 n (by omega)
theorem num_length (n : Nat) : (Wire.num n).length ≤ 10 := numF_length 9 n
theorem out_step {w w1 w2 : World} {B g : Nat} {v v1 : Value} {xs : List Nat} {y : Nat} (hy : y < 256) (ho : OutIs w B g v xs) (hown : w1.ownsRow B 5 1 v1 (xs.length + 1) (xs.map u8v ++ [u8v y])) (hg : Grew w w1 (fun k => some k = v.ownBlock)) (hm : Moved w v v1) (h2 : w2 = w1.setCell ⟨g, 0, none⟩ v1) :
    OutIs w2 B g v1 (xs ++ [y]) ∧ Grew w w2 (OutS g v) := by
  have hr1 : Row w1 g [v] 56 := ho.row.grew hg (fun h => ho.apart h.symm)
  have hap : v1.ownBlock ≠ some g := by
    rcases hm with hm | ⟨q, hq, hs⟩
    · rw [hm]; exact ho.apart
    · rw [hq]; intro h; cases h; have := ho.row.lt; omega
  have hgs : w1.grownBy w2 (some g) := by rw [h2]; exact grownBy_setCell w1 ⟨g, 0, none⟩ _
  refine ⟨⟨?_, ?_, hap, Nat.le_trans ho.base (Nat.le_trans hg.size hgs.size), ?_⟩, ?_⟩
  · rw [h2]; exact hr1.set_same 0 v1
  · have : w2.ownsRow B 5 1 v1 (xs.length + 1) (xs.map u8v ++ [u8v y]) := hown.kept hgs (.inr hap)
    rw [List.length_append, List.map_append]
    exact this
  · intro x hx
    rcases List.mem_append.1 hx with hx | hx
    · exact ho.lt x hx
    · simp at hx; omega
  · refine (hg.mono (fun q hq => Or.inr hq)).trans (Grew.of_grown hgs) (fun q _ hq => ?_)
    cases hq
    exact Or.inl rfl
set_option maxHeartbeats 1000000 in
set_option maxRecDepth 100000 in
theorem onum_any (w : World) (B g : Nat) (v : Value) (xs : List Nat) (n : Nat) (hn : n < 18446744073709551616) (ho : OutIs w B g v xs) (hl : xs.length + 10 ≤ 140737488355328) :
    Calls Try.prog 43 #[.pointer (some ⟨g, 0, none⟩), .int .u64 (n : Int)] w fun e w' => e = .returned (.tuple #[]) ∧ ∃ v', OutIs w' B g v' (xs ++ Wire.num n) ∧ Grew w w' (OutS g v) ∧ Moved w v v' := by
  obtain ⟨i5i, HI5, HE1, HE2, HE3⟩ := i5h
  go_enter Try.func43, Try.ntmps43
  go_wp2_with fail
  go_loopw [1] (fun u w' => ∃ (k m : Nat) (pre : List Nat) (v' : Value), u = .int .u64 (m : Int) ∧ m < 128 ^ (k + 1) ∧ m < 18446744073709551616 ∧ pre.length + (k + 1) ≤ 10 ∧ pre ++ Wire.numF k m = Wire.num n ∧ OutIs w' B g v' (xs ++ pre) ∧ Grew w w' (OutS g v) ∧ Moved w v v') (fun u _ => (intOf u).toNat)
  case atStart => exact ⟨9, n, [], v, rfl, by omega, hn, by simp, rfl, by simpa using ho, Grew.refl _ _, Moved.refl _ _⟩
  case round =>
    obtain ⟨k, m, pre, v', rfl, hm, hm64, hpl, hpre, ho', hg, hmv⟩ := hrel
    obtain ⟨ys, hys⟩ : ∃ ys, Hid (ys = xs ++ pre) := ⟨_, rfl⟩
    have hyl : ys.length = xs.length + pre.length := by rw [hys.out, List.length_append]
    rw [← hys.out] at ho'
    have c0 : wr.cell? ⟨g, 0, none⟩ = some v' := ho'.row.cell 0
    have f0 := ho'.row.frozen 0
    have hown' := ho'.own
    have hbase := ho'.base
    have hfit : ys.length + 1 ≤ 140737488355328 := by omega
    clear hyl
    have HO : Hid (OutIs wr B g v' ys) := ho'
    have HG : Hid (Grew w wr (OutS g v)) := hg
    have HM : Hid (Moved w v v') := hmv
    have HP : Hid (pre ++ Wire.numF k m = Wire.num n) := hpre
    clear ho' hg hmv hpre ho
    by_cases h128 : 128 ≤ m
    · have hk0 : k ≠ 0 := by intro h; subst h; simp at hm; omega
      obtain ⟨k', rfl⟩ : ∃ k', k = k' + 1 := ⟨k - 1, by omega⟩
      clear hk0
      have k1 : (128 : Int) ≤ (m : Int) := by omega
      have ho1 := or128 (m % 256) (by omega)
      rw [show ((m % 256 : Nat) : Int) = (m : Int) % 256 by simp, show m % 256 % 128 = m % 128 by omega] at ho1
      have HM2 : Hid (m / 128 < 128 ^ (k' + 1)) := by show _ < _; rw [Nat.div_lt_iff_lt_mul (by decide)]; rw [Nat.pow_succ] at hm; exact hm
      clear hm
      go_wp2_with (at_builtin; refine wpList_append_one_at rfl _ _ 32 rfl B 5 i5i (.int .u8 0) Try.underlying32 HI5.out HE3.out HE1.out HE2.out rfl _ _ _ rfl hown' 5 _ rfl rfl hfit hbase ?_; intro v1 w1 hown1 hg1 hm1; have HM1 := hid_in hm1; clear hm1; obtain ⟨q1, cq1, rfl, _, _⟩ := hown1.form (Nat.succ_pos _); have cg : w1.cell? ⟨g, 0, none⟩ = some v' := (HO.out.row.grew hg1 (fun h => HO.out.apart h.symm)).cell 0; have fg := (HO.out.row.grew hg1 (fun h => HO.out.apart h.symm)).frozen 0)
      have hstep := out_step (y := m % 128 + 128) (by omega) HO.out hown1 hg1 HM1.out rfl
      go_roundw
      case rel =>
        go_light
        have e0 : (m : Int) / 128 = ((m / 128 : Nat) : Int) := by simp
        rw [e0]
        refine ⟨k', m / 128, pre ++ [m % 128 + 128], .slice (some ⟨q1, 0, none⟩) (ys.length + 1) cq1, rfl, HM2.out, by omega, by rw [List.length_append]; simp; omega, ?_, ?_, ?_, ?_⟩
        · rw [← HP.out, List.append_assoc]
          congr 1
          simp only [Wire.numF]
          rw [if_neg (by omega)]
          rfl
        · rw [← List.append_assoc, ← hys.out]; exact hstep.1
        · refine HG.out.trans hstep.2 (fun q hq hs => ?_)
          rcases hs with rfl | hs
          · exact Or.inl rfl
          · rcases HM.out with h | ⟨q', h, hq'⟩
            · exact Or.inr (hs.trans h)
            · rw [h] at hs; cases hs; omega
        · exact HM.out.trans HM1.out HG.out.size
      case measure => simp [intOf]; omega
    · have k1 : (m : Int) < 128 := by omega
      have HN : Hid (Wire.numF k m = [m]) := by
        show _ = _
        rcases k with _ | k
        · rfl
        · simp only [Wire.numF]; rw [if_pos (by omega)]
      clear hm
      go_wp2_with (at_builtin; refine wpList_append_one_at rfl _ _ 32 rfl B 5 i5i (.int .u8 0) Try.underlying32 HI5.out HE3.out HE1.out HE2.out rfl _ _ _ rfl hown' 5 _ rfl rfl hfit hbase ?_; intro v1 w1 hown1 hg1 hm1; have HM1 := hid_in hm1; clear hm1; obtain ⟨q1, cq1, rfl, _, _⟩ := hown1.form (Nat.succ_pos _); have cg : w1.cell? ⟨g, 0, none⟩ = some v' := (HO.out.row.grew hg1 (fun h => HO.out.apart h.symm)).cell 0; have fg := (HO.out.row.grew hg1 (fun h => HO.out.apart h.symm)).frozen 0)
      have hstep := out_step (y := m) (by omega) HO.out hown1 hg1 HM1.out rfl
      go_end0
      refine ⟨rfl, _, ?_, ?_, HM.out.trans HM1.out HG.out.size⟩
      · rw [← HP.out, HN.out, ← List.append_assoc, ← hys.out]; exact hstep.1
      · refine HG.out.trans hstep.2 (fun q hq hs => ?_)
        rcases hs with rfl | hs
        · exact Or.inl rfl
        · rcases HM.out with h | ⟨q', h, hq'⟩
          · exact Or.inr (hs.trans h)
          · rw [h] at hs; cases hs; omega
end Go.Proofs.Ytjlhjpooggkkoaa.Nd
namespace Go.Proofs.Ytjlhjpooggkkoaa.Nd
open Go.RowKit
namespace Wire
end Wire
theorem obytes_any (w : World) (B g : Nat) (v : Value) (xs : List Nat) (ho : OutIs w B g v xs) (hl : xs.length ≤ 140737488355328) :
    Calls Try.prog 32 #[.pointer (some ⟨g, 0, none⟩)] w fun e w' => ∃ v', e = .returned v' ∧ w'.ownsRow w.heap.size 5 1 v' xs.length (xs.map u8v) ∧ Below w.heap.size w w' := by
  obtain ⟨p, cap, b, rfl, hsl, hno⟩ := own_sl ho.lt ho.own
  have c0 : w.cell? ⟨g, 0, none⟩ = some (.slice p xs.length cap) := ho.row.cell 0
  have hc := clone_any xs p cap b 0 w hsl hno hl
  clear ho hsl
  go_enter Try.func32, Try.ntmps32
  go_wp2_with fail
  refine hc.mono ?_
  rintro e w1 ⟨v1, rfl, hown, hb⟩
  clear hc
  have HOWN := hid_in hown
  clear hown
  go_wp2
  go_ret
  exact ⟨_, rfl, HOWN.out, hb⟩
/-- the In at block g has still to read the bytes bs; what was wrong is e -/
structure InIs (B : Nat) (w : World) (g : Nat) (bs : List Nat) (e : Nat) : Prop where
  ex : ∃ p cap b off, Row w g [.slice p bs.length cap, .int .i64 (e : Int)] 79 ∧ Sl w p bs cap b off ∧ (p = none → bs.length = 0 ∧ cap = 0) ∧ (0 < bs.length → b ≠ g ∧ b < B)
theorem read_any (bs : List Nat) (p : Option Addr) (cap b off : Nat) (w : World) (hsl : Sl w p bs cap b off) (hno : p = none → bs.length = 0 ∧ cap = 0) (hre : bs.length ≤ 140737488355328) :
    Calls Try.prog 35 #[.slice p bs.length cap] w fun e w' => ∃ g, e = .returned (.pointer (some ⟨g, 0, none⟩)) ∧ InIs w'.heap.size w' g bs 0 ∧ w.heap.size ≤ g ∧ Below w.heap.size w w' := by
  have hc := clone_any bs p cap b off w hsl hno hre
  have hlt := hsl.lt
  clear hsl
  go_enter Try.func35, Try.ntmps35
  go_wp2_with fail
  refine hc.mono ?_
  rintro e w1 ⟨v1, rfl, hown, hb⟩
  obtain ⟨p1, cap1, b1, rfl, hsl1, hno1⟩ := own_sl hlt hown
  clear hown hc
  go_wp2
  go_ret
  have hb2 : Below w1.heap.size w1 (w1.alloc (.cells [.slice p1 bs.length cap1, .int .i64 0].toArray 79)) := (Below.refl _ _).alloc (Nat.le_refl _) _
  refine ⟨w1.heap.size, rfl, ⟨p1, cap1, b1, 0, Row.newAt w1 _ [.slice p1 bs.length cap1, .int .i64 0] 79 rfl, hsl1.below hb2, hno1, fun h0 => ?_⟩, hb.size, hb.alloc hb.size _⟩
  have := hsl1.blk h0
  exact ⟨by omega, by simp; omega⟩
end Go.Proofs.Ytjlhjpooggkkoaa.Nd
namespace Go.Proofs.Ytjlhjpooggkkoaa.Nd
open Go.RowKit
theorem fail_any {B : Nat} (w : World) (g e : Nat) (a b : Value) (hr : Row w g [a, b] 79) :
    Calls Try.prog 53 #[.pointer (some ⟨g, 0, none⟩), .int .i64 (e : Int)] w fun r w' => r = .returned (.tuple #[]) ∧ InIs B w' g [] e ∧ w.grownBy w' (some g) ∧ w'.heap.size = w.heap.size := by
  have c0 : w.cell? ⟨g, 0, none⟩ = some a := hr.cell 0
  have c1 : w.cell? ⟨g, 1, none⟩ = some b := hr.cell 1
  have f0 := hr.frozen 0
  have f1 := hr.frozen 1
  go_enter Try.func53, Try.ntmps53
  go_wp2
  go_end0
  refine ⟨rfl, ⟨none, 0, 0, 0, (hr.set_same 0 _).set_same 1 _, ⟨fun _ h => (by cases h), by simp, by omega, fun h => (by simp at h), fun j hj => (by simp at hj)⟩, fun _ => ⟨rfl, rfl⟩, fun h => (by simp at h)⟩, ?_, by simp [World.setCell]⟩
  exact grownBy_trans (grownBy_setCell w ⟨g, 0, none⟩ _) (grownBy_setCell _ ⟨g, 1, none⟩ _)
theorem take_bad {B : Nat} (w : World) (g e n : Nat) (bs : List Nat) (he : e ≠ 0) (hi : InIs B w g bs e) :
    Calls Try.prog 54 #[.pointer (some ⟨g, 0, none⟩), .int .i64 (n : Int)] w fun r w' => r = .returned (.tuple #[.slice none 0 0, .bool false]) ∧ w' = w := by
  obtain ⟨p, cap, b, off, hr, hsl, hno, hne⟩ := hi.ex
  have c1 : w.cell? ⟨g, 1, none⟩ = some (.int .i64 (e : Int)) := hr.cell 1
  have k1 : ¬ ((e : Int) = 0) := by omega
  clear hi hr hsl hno hne
  go_enter Try.func54, Try.ntmps54
  go_wp2
  go_ret2
  exact ⟨rfl, rfl⟩
set_option maxHeartbeats 400000 in
theorem take_short {B : Nat} (w : World) (g n : Nat) (bs : List Nat) (hn : bs.length < n) (hi : InIs B w g bs 0) :
    Calls Try.prog 54 #[.pointer (some ⟨g, 0, none⟩), .int .i64 (n : Int)] w fun r w' => r = .returned (.tuple #[.slice none 0 0, .bool false]) ∧ InIs B w' g [] 20 ∧ w.grownBy w' (some g) ∧ w'.heap.size = w.heap.size := by
  obtain ⟨p, cap, b, off, hr, hsl, hno, hne⟩ := hi.ex
  have c0 : w.cell? ⟨g, 0, none⟩ = some (.slice p bs.length cap) := hr.cell 0
  have c1 : w.cell? ⟨g, 1, none⟩ = some (.int .i64 0) := hr.cell 1
  have k1 : (bs.length : Int) < (n : Int) := by omega
  have hf := fail_any (B := B) w g 20 _ _ hr
  clear hi hr hsl hno hne
  go_enter Try.func54, Try.ntmps54
  go_wp2_with fail
  refine hf.mono ?_
  rintro e w1 ⟨rfl, h1, h2, h3⟩
  have H := hid_in h1
  have H3 := hid_in h3
  clear h1 h3 hf c0 c1
  go_wp2
  go_ret2
  exact ⟨rfl, H.out, h2, H3.out⟩
theorem slice_rest (b o L C n : Nat) (h1 : n ≤ L) (h2 : L ≤ C) : ∃ q, (n < L → q = some ⟨b, o + n, none⟩) ∧ (q ≠ none) ∧ ∀ w, (Instr.slice 32 (.slice (some ⟨b, o, none⟩) L C) (some (.int .i64 (n : Int))) none none).run Try.prog w = .ok (.slice q (L - n) (C - n)) w := by
  have ht : Try.prog.underlying 32 = some (.slice (Try.prog.elem 32)) := by kernel_rfl
  have he : Try.prog.elem 32 = 5 := by kernel_rfl
  refine ⟨some (if C = n then ⟨b, o, none⟩ else ⟨b, o + n, none⟩), fun h => by rw [if_neg (by omega)], by simp, fun w => ?_⟩
  have hsz : (sizeOf 5).run Try.prog w = .ok 1 w := by kernel_rfl
  rw [run_slice_l w 32 (some ⟨b, o, none⟩) L C ht .i64 (n : Int) (by omega) (by omega), he, hsz]
  simp [sliced, Addr.add_mid]
  split <;> rfl
set_option maxHeartbeats 400000 in
/-- some bytes that are there -/
theorem take_some {B : Nat} (w : World) (g n : Nat) (bs : List Nat) (h0 : 0 < n) (hn : n ≤ bs.length) (hi : InIs B w g bs 0) :
    Calls Try.prog 54 #[.pointer (some ⟨g, 0, none⟩), .int .i64 (n : Int)] w fun r w' => ∃ b off cap, r = .returned (.tuple #[.slice (some ⟨b, off, none⟩) n cap, .bool true]) ∧ Sl w' (some ⟨b, off, none⟩) (bs.take n) cap b off ∧ InIs B w' g (bs.drop n) 0 ∧ w.grownBy w' (some g) ∧ w'.heap.size = w.heap.size := by
  obtain ⟨p, cap, b, off, hr, hsl, hno, hne⟩ := hi.ex
  obtain rfl := hsl.at_ (by omega)
  have hbg := hne (by omega)
  have hc1 := hsl.cap1
  have hc2 := hsl.cap2
  have c0 : w.cell? ⟨g, 0, none⟩ = some (.slice (some ⟨b, off, none⟩) bs.length cap) := hr.cell 0
  have c1 : w.cell? ⟨g, 1, none⟩ = some (.int .i64 0) := hr.cell 1
  have f0 := hr.frozen 0
  have k1 : (n : Int) ≤ (bs.length : Int) := by omega
  have hs1 := slice_to b off bs.length cap n (by omega)
  obtain ⟨q, hq, hqn, hs2⟩ := slice_rest b off bs.length cap n hn hc1
  have HQ := hid_in hq
  have HQN := hid_in hqn
  have HR := hid_in hr
  have HSL := hid_in hsl
  clear hi hr hsl hno hne hq hqn
  go_enter Try.func54, Try.ntmps54
  go_wp2
  go_ret2
  have hg := grownBy_setCell w ⟨g, 0, none⟩ (.slice q (bs.length - n) (cap - n))
  have hslw := HSL.out.grown hg (fun _ => by simpa using hbg.1)
  have e1 : (bs.drop n).length = bs.length - n := by simp
  refine ⟨b, off, cap, rfl, ?_, ⟨q, cap - n, b, off + n, ?_, ?_, fun h => absurd h HQN.out, fun _ => hbg⟩, hg, by simp [World.setCell]⟩
  · have := hslw.part 0 n cap (by omega) (by omega) hc2
    simpa using this
  · rw [e1]; exact HR.out.set_same 0 _
  · have := hslw.part n (bs.length - n) (cap - n) (by omega) (by omega) (by omega)
    rw [List.take_of_length_le (by simp)] at this
    refine ⟨this.lt, this.cap1, this.cap2, fun h => ?_, this.src⟩
    exact HQ.out (by simp at h; omega)
end Go.Proofs.Ytjlhjpooggkkoaa.Nd
