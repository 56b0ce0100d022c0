/-
  The contracts again, over values that read as names. The walks of the reference's Show and Parse. The walk of the reference's Parse. Small laws on memory, on rows of a call's own, on slices of bytes; and of the walk for a block that is known whole.
-/
import Derived.Test.YtglfeocfhlmloaaRows
import Derived.WalkKit
import Derived.WalkSpells
import Derived.WalkLawsBesides
import Derived.Deep.AppendLies
import Derived.Deep.MidRow
import Derived.Deep.Light
import Derived.Laws.CopyOwn
import Derived.Laws.AppendOwnNone
import Derived.Laws.BytesArg
import Derived.Lib.Strings
import Derived.BigQuiet
import Derived.BigRegion
import Derived.Test.YtglfeocfhlmloaaU00
import Derived.Test.YtglfeocfhlmloaaU01
import Derived.Test.YtglfeocfhlmloaaU02
import Derived.Test.YtglfeocfhlmloaaU03
import Derived.Test.YtglfeocfhlmloaaU04
namespace Go.Proofs.Ytglfeocfhlmloaa.Vp
open Go.RowKit
/-- the value reads as these names -/
def Val (w : World) (v : Value) (xs : List Str) : Prop := ∃ p cap, v = .slice p xs.length cap ∧ Rd w p xs cap
theorem Rd.val {w : World} {p : Option Addr} {xs : List Str} {cap : Nat} (h : Rd w p xs cap) : Val w (.slice p xs.length cap) xs := ⟨p, cap, rfl, h⟩
theorem Nms.val {W : World} {base : Nat} {v : Value} {xs : List Str} (h : Nms W base v xs) : Val W v xs := h.rd
theorem Rd.drew {w w' : World} {p : Option Addr} {xs : List Str} {cap : Nat} (h : Rd w p xs cap) (hd : ∃ m, w' = w.drewN m) : Rd w' p xs cap := by
  obtain ⟨m, rfl⟩ := hd
  exact h.below (below_drewN (Below.refl _ _) m)
theorem Rd.none (w : World) : Rd w none [] 0 := ⟨by simp, by omega, fun _ => ⟨rfl, rfl⟩, 0, 0, fun h => absurd rfl h, fun j x hx => by simp at hx⟩
theorem Val.none (w : World) : Val w (.slice none 0 0) [] := ⟨_, _, rfl, Rd.none w⟩
theorem Val.below {w w' : World} {v : Value} {xs : List Str} (h : Val w v xs) (hb : Below w.heap.size w w') : Val w' v xs := by
  obtain ⟨p, cap, rfl, hr⟩ := h; exact ⟨p, cap, rfl, hr.below hb⟩
theorem Val.drew {w w' : World} {v : Value} {xs : List Str} (h : Val w v xs) (hd : ∃ m, w' = w.drewN m) : Val w' v xs := by
  obtain ⟨p, cap, rfl, hr⟩ := h; exact ⟨p, cap, rfl, hr.drew hd⟩
theorem within_v {xs ys : List Str} {u v : Value} {w : World} (hx : Val w u xs) (hy : Val w v ys) : Calls Try.prog 45 #[u, v] w fun e w' => e = .returned (.bool (withinS xs ys)) ∧ ∃ m, w' = w.drewN m := by
  obtain ⟨p, c, rfl, h1⟩ := hx; obtain ⟨q, d, rfl, h2⟩ := hy; exact within_any xs ys p q c d w h1 h2
theorem compare_v {xs ys : List Str} {u v : Value} {w : World} (hx : Val w u xs) (hy : Val w v ys) : Calls Try.prog 58 #[u, v] w fun e w' => e = .returned (.int .i64 (cmpL xs ys)) ∧ w' = w := by
  obtain ⟨p, c, rfl, h1⟩ := hx; obtain ⟨q, d, rfl, h2⟩ := hy; exact compare_any xs ys p q c d w h1 h2
theorem show_v {xs : List Str} {u : Value} {w : World} (hx : Val w u xs) (hl : Lib.lens xs + xs.length ≤ 140737488355328) : Calls Try.prog 34 #[u] w fun e w' => e = .returned (.string (B (showS xs))) ∧ Below w.heap.size w w' := by
  obtain ⟨p, c, rfl, h1⟩ := hx; exact show_any xs p c w h1 (by omega) (by have := join_le xs; omega)
end Go.Proofs.Ytglfeocfhlmloaa.Vp
namespace Go.Proofs.Ytglfeocfhlmloaa.Vp
open Go.RowKit
/-- a path's text, as the reference builds it -/
def showR (xs : List Str) : Str := if xs = [] then [47] else (xs.map (47 :: ·)).flatten
theorem showR_eq (xs : List Str) : showR xs = showS xs := by
  unfold showR showS
  cases xs with
  | nil => rfl
  | cons x r =>
    rw [if_neg (by simp), Lib.join_cons]
    simp [Lib.joinTail]
theorem val_at {w : World} {v : Value} {xs : List Str} (h : Val w v xs) : ∃ p cap b o, v = .slice p xs.length cap ∧ xs.length ≤ cap ∧ cap ≤ 9223372036854775807 ∧ (xs ≠ [] → p = some ⟨b, o, none⟩) ∧ ∀ (j : Nat) x, xs[j]? = some x → w.cell? ⟨b, o + j, none⟩ = some (.string (B x)) := by
  obtain ⟨p, cap, rfl, hr⟩ := h
  obtain ⟨b, o, h1, h2⟩ := hr.cells
  exact ⟨p, cap, b, o, rfl, hr.le, hr.big, fun hne => (h1 hne).1, h2⟩
end Go.Proofs.Ytglfeocfhlmloaa.Vp
namespace Go.Proofs.Ytglfeocfhlmloaa.Vp
open Go.RowKit
theorem pieces_plain (p : Str) (h : ∀ c ∈ p, c ≠ 47) : piecesS p = [p] := by
  induction p with
  | nil => rfl
  | cons c r ih =>
    unfold piecesS
    rw [if_neg (h c (by simp)), ih (fun d hd => h d (by simp [hd]))]
theorem pieces_stroke (p y : Str) (h : ∀ c ∈ p, c ≠ 47) : piecesS (p ++ 47 :: y) = p :: piecesS y := by
  induction p with
  | nil => simp [piecesS]
  | cons c r ih =>
    have e : piecesS (c :: (r ++ 47 :: y)) = match piecesS (r ++ 47 :: y) with | [] => [[c]] | p :: ps => (c :: p) :: ps := by
      conv => lhs; unfold piecesS
      rw [if_neg (h c (by simp))]
      rfl
    rw [List.cons_append, e, ih (fun d hd => h d (by simp [hd]))]
theorem drop_stroke {l : Str} {f i : Nat} (hf : f ≤ i) (hi : l[i]? = some 47) : l.drop f = (l.take i).drop f ++ 47 :: l.drop (i + 1) := by
  obtain ⟨hlt, he⟩ := List.getElem?_eq_some_iff.1 hi
  have h1 : l = l.take i ++ 47 :: l.drop (i + 1) := by
    conv => lhs; rw [← List.take_append_drop i l, List.drop_eq_getElem_cons hlt, he]
  conv => lhs; rw [h1, List.drop_append_of_le_length (by simp; omega)]
/-- behind the pieces that were read -/
def RA (l : Str) (pre : List Str) (f i : Nat) : Prop := (∀ d ∈ (l.take i).drop f, d ≠ 47) ∧ piecesS (l.drop 1) = pre ++ piecesS (l.drop f) ∧ pre.any long = false
theorem RA.stroke {l : Str} {pre : List Str} {f i : Nat} (h : RA l pre f i) (hf : f ≤ i) (hi : l[i]? = some 47) : piecesS (l.drop 1) = (pre ++ [(l.take i).drop f]) ++ piecesS (l.drop (i + 1)) := by
  rw [h.2.1, drop_stroke hf hi, pieces_stroke _ _ h.1]; simp
theorem any_snoc {pre : List Str} {p : Str} (h : pre.any long = false) (hp : p.length ≤ 16) : (pre ++ [p]).any long = false := by
  rw [List.any_append, h]; simp [long]; omega
theorem RA.next {l : Str} {pre : List Str} {f i : Nat} (h : RA l pre f i) (hf : f ≤ i) (hi : l[i]? = some 47) (hp : ((l.take i).drop f).length ≤ 16) : RA l (pre ++ [(l.take i).drop f]) (i + 1) (i + 1) := by
  refine ⟨fun d hd => ?_, h.stroke hf hi, any_snoc h.2.2 hp⟩
  rw [List.drop_of_length_le (by simp; omega)] at hd
  cases hd
theorem RA.le {l : Str} {pre : List Str} {f i : Nat} (h : RA l pre f i) : pre.length ≤ l.length + 1 := by
  have h1 := pieces_len (l.drop 1)
  rw [h.2.1, List.length_append, List.length_drop] at h1
  omega
theorem Nms.grown {W W' : World} {base : Nat} {v : Value} {xs : List Str} {row : Option Nat} (h : Nms W base v xs) (hg : W.grownBy W' row) (hne : ∀ k, v.ownBlock = some k → row ≠ some k) : Nms W' base v xs := by
  refine World.ownsRow.kept h hg ?_
  rcases h.2 with ⟨rfl, _⟩ | ⟨g, cap, cur, rfl, _, hgb, _⟩
  · exact .inl rfl
  · exact .inr (fun e => hne g (by simp [Value.ownBlock]) (by simpa [Value.ownBlock] using e.symm))
end Go.Proofs.Ytglfeocfhlmloaa.Vp
namespace Go.Proofs.Ytglfeocfhlmloaa.Nd
open Go.RowKit
def u8v (n : Nat) : Value := .int .u8 (n : Int)
/-- block b of the world holds just these cells -/
def Row (w : World) (b : Nat) (vs : List Value) (t : TypeId) : Prop := w.heap[b]? = some (.cells vs.toArray t (0, 0))
theorem Row.cell {w : World} {b : Nat} {vs : List Value} {t : TypeId} (h : Row w b vs t) (j : Nat) : w.cell? ⟨b, j, none⟩ = vs[j]? := by
  rw [cell_of_row w b j _ t (0, 0) h]; simp
theorem Row.frozen {w : World} {b : Nat} {vs : List Value} {t : TypeId} (h : Row w b vs t) (j : Nat) : w.frozen? ⟨b, j, none⟩ = false := by
  unfold Row at h; simp [World.frozen?, h]
theorem Row.lt {w : World} {b : Nat} {vs : List Value} {t : TypeId} (h : Row w b vs t) : b < w.heap.size := by
  unfold Row at h
  exact (Array.getElem?_eq_some_iff.1 h).1
theorem Row.of_block {w w' : World} {b : Nat} {vs : List Value} {t : TypeId} (h : Row w b vs t) (hb : w'.heap[b]? = w.heap[b]?) : Row w' b vs t := by
  unfold Row at *; rw [hb]; exact h
theorem Row.drew {w : World} {b : Nat} {vs : List Value} {t : TypeId} (h : Row w b vs t) : Row w.drew b vs t := h
theorem Row.alloc {w : World} {b : Nat} {vs : List Value} {t : TypeId} (h : Row w b vs t) (o : Obj) : Row (w.alloc o) b vs t :=
  h.of_block (Below.heap_alloc _ _ _ h.lt)
theorem Row.new (w : World) (vs : List Value) (t : TypeId) : Row (w.alloc (.cells vs.toArray t)) w.heap.size vs t := heap_alloc_new w _
theorem Row.newAt (w : World) (b : Nat) (vs : List Value) (t : TypeId) (hb : w.heap.size = b) : Row (w.alloc (.cells vs.toArray t)) b vs t := by subst hb; exact heap_alloc_new w _
theorem Row.below {w w' : World} {b B : Nat} {vs : List Value} {t : TypeId} (h : Row w b vs t) (hb : Below B w w') (hB : b < B) : Row w' b vs t :=
  h.of_block (hb.block b hB)
theorem Row.grown {w w' : World} {b : Nat} {row : Option Nat} {vs : List Value} {t : TypeId} (h : Row w b vs t) (hb : w.grownBy w' row) (hB : some b ≠ row) : Row w' b vs t :=
  h.of_block (hb.block b h.lt hB)
theorem Row.set_same {w : World} {b : Nat} {vs : List Value} {t : TypeId} (h : Row w b vs t) (j : Nat) (v : Value) : Row (w.setCell ⟨b, j, none⟩ v) b (vs.set j v) t := by
  unfold Row at *
  simp only [World.setCell, Array.getElem?_modify, if_true, h]
  simp
theorem splice_all {α : Type} (L new : List α) (h : new.length = L.length) : splice L 0 new = new := by
  simp [splice, h]
theorem splice_cons {α : Type} (L : List α) (o : Nat) (v : α) (r : List α) (h : o < L.length) : splice (L.set o v) (o + 1) r = splice L o (v :: r) := by
  unfold splice
  rw [List.take_succ_eq_append_getElem (by simpa using h)]
  have e1 : (L.set o v).take o = L.take o := by
    refine List.ext_getElem? fun j => ?_
    by_cases hj : j < o
    · rw [List.getElem?_take_of_lt hj, List.getElem?_take_of_lt hj, List.getElem?_set_ne (by omega)]
    · rw [List.getElem?_take_eq_none (by omega), List.getElem?_take_eq_none (by omega)]
  have e2 : (L.set o v).drop (o + 1 + r.length) = L.drop (o + (v :: r).length) := by
    rw [show o + (v :: r).length = o + 1 + r.length by simp; omega]
    refine List.ext_getElem? fun j => ?_
    rw [List.getElem?_drop, List.getElem?_drop, List.getElem?_set_ne (by omega)]
  rw [e1, e2]
  simp
theorem Row.setCells {t : TypeId} {b : Nat} : ∀ (new : List Value) (w : World) (vs : List Value) (o : Nat), Row w b vs t → o + new.length ≤ vs.length → Row (w.setCells b o new) b (splice vs o new) t
  | [], w, vs, o, h, _ => by simpa [World.setCells, splice] using h
  | v :: r, w, vs, o, h, hl => by
    simp only [List.length_cons] at hl
    have h' := Row.setCells r (w.setCell ⟨b, o, none⟩ v) (vs.set o v) (o + 1) (h.set_same o v) (by simp; omega)
    rw [splice_cons vs o v r (by omega)] at h'
    exact h'
theorem grownBy_trans {a b c : World} {row : Option Nat} (h : a.grownBy b row) (k : b.grownBy c row) : a.grownBy c row :=
  ⟨k.os.trans h.os, k.tape.trans h.tape, k.output.trans h.output, Nat.le_trans h.size k.size, fun i hi hne => (k.block i (Nat.lt_of_lt_of_le hi h.size) hne).trans (h.block i hi hne)⟩
theorem grownBy_refl (w : World) (row : Option Nat) : w.grownBy w row := ⟨rfl, rfl, rfl, Nat.le_refl _, fun _ _ _ => rfl⟩
theorem grownBy_setCell (w : World) (a : Addr) (v : Value) : w.grownBy (w.setCell a v) (some a.block) :=
  ⟨rfl, rfl, rfl, by simp [World.setCell], fun k _ hne => Below.heap_setCell _ _ _ _ (fun e => hne (by rw [e]))⟩
theorem grownBy_setCells {b : Nat} : ∀ (new : List Value) (w : World) (o : Nat), w.grownBy (w.setCells b o new) (some b)
  | [], w, _ => grownBy_refl w _
  | v :: r, w, o => grownBy_trans (grownBy_setCell w ⟨b, o, none⟩ v) (grownBy_setCells r _ (o + 1))
theorem size_setCells {b : Nat} : ∀ (new : List Value) (w : World) (o : Nat), (w.setCells b o new).heap.size = w.heap.size
  | [], _, _ => rfl
  | v :: r, w, o => (size_setCells r (w.setCell ⟨b, o, none⟩ v) (o + 1)).trans (by simp [World.setCell])
theorem below_of_grown {B : Nat} {a w w' : World} {row : Nat} (h : Below B a w) (hg : w.grownBy w' (some row)) (hB : B ≤ w.heap.size) (hr : B ≤ row) : Below B a w' :=
  h.grown hg hB (fun k e => by cases e; exact hr)
theorem grown_of_below {w w' : World} {row : Option Nat} (h : Below w.heap.size w w') : w.grownBy w' row := ⟨h.os, h.tape, h.output, h.size, fun k hk _ => h.block k hk⟩
theorem one_u8 (l : List Nat) : ∀ v ∈ l.map u8v, v.oneCell' = true := by
  intro v hv; simp only [List.mem_map] at hv; obtain ⟨n, _, rfl⟩ := hv; rfl
theorem there_of_row {w : World} {g : Nat} {vs : List Value} {t : TypeId} (hr : Row w g vs t) (o n : Nat) (h : o + n ≤ vs.length) : w.there g o n := fun j hj => by
  refine ⟨?_, hr.frozen _⟩
  rw [hr.cell, List.getElem?_eq_getElem (by omega)]; rfl
theorem wpList_store_Row {P : Program} {ops : Array Oper} {rest : List Oper} {op : Oper} {a : Act} {w : World} {Q : Exit → Act → World → Prop} (hgd : op.guard = none) (ty : TypeId) (x y : Operand) (ho : op.op = .store ty x y)
    (g o : Nat) (new : List Value) (hx : a.eval x = .pointer (some ⟨g, o, none⟩)) (hy : a.eval y = .agg new.toArray) (t : TypeId) (vs : List Value) (hr : Row w g vs t) (n : Nat) (hi : (P.info? ty).map (·.size) = some n) (hn : new.length = n)
    (hfit : o + n ≤ vs.length) (h1 : ∀ v ∈ new, v.oneCell' = true)
    (h : ∀ w', Row w' g (splice vs o new) t → w.grownBy w' (some g) → w'.heap.size = w.heap.size → wpList P ops Q rest (a.put op.dst undef) w') : wpList P ops Q (op :: rest) a w := by
  refine wpList_store_mid hgd ty x y ho g o new.toArray hx hy (there_of_row hr o _ (by simp; omega)) (by rw [hi]; simp [hn]) (all_oneCell_toArray h1) ?_
  exact h _ (Row.setCells new w vs o hr (by omega)) (grownBy_setCells _ _ _) (size_setCells _ _ _)
/-- a slice of bytes that lies in the world -/
structure Sl (w : World) (p : Option Addr) (bs : List Nat) (cap : Nat) (b off : Nat) : Prop where
  lt : ∀ x ∈ bs, x < 256
  cap1 : bs.length ≤ cap
  cap2 : cap ≤ 9223372036854775807
  at_ : 0 < bs.length → p = some ⟨b, off, none⟩
  src : ∀ j, j < bs.length → w.cell? ⟨b, off + j, none⟩ = some (u8v (bs.getD j 0))
theorem Sl.below {w w' : World} {p : Option Addr} {bs : List Nat} {cap b off : Nat} (h : Sl w p bs cap b off) (hb : Below w.heap.size w w') : Sl w' p bs cap b off :=
  ⟨h.lt, h.cap1, h.cap2, h.at_, fun j hj => by rw [hb.cell (World.block_lt_of_cell? w _ (h.src j hj))]; exact h.src j hj⟩
theorem own_step {w w' : World} {B : Nat} {v : Value} {row : Option Nat} {a : World} (hb : Below B a w) (hg : w.grownBy w' row) (hB : B ≤ w.heap.size) (hv : row = v.ownBlock) {e : TypeId} {size n : Nat} {xs : List Value} (ho : w.ownsRow B e size v n xs) : Below B a w' := by
  subst hv
  exact hb.grown hg hB (fun k hk => (ho.lt k hk).1)
/-- append to a row of the call's own, from a slice that may be nil -/
theorem wpList_append_any {P : Program} {w : World} {ops : Array Oper} {rest : List Oper} {o : Oper} {a : Act} {Q : Exit → Act → World → Prop} (hgd : o.guard = none) (s x : Operand) (t : TypeId)
    (ho : o.op = .call { callee := .builtin .append, args := #[s, x], argTypes := #[t, t] })
    (base : Nat) (e : TypeId) (i : TypeInfo) (z : Value) (ht : P.underlying t = some (.slice e)) (hi : P.info? e = some i) (hz : i.zero = some z)
    (hsize : i.size = 1) (hby : i.bytes = 1) (hzs : z.cells.size = 1)
    (v : Value) (n : Nat) (xs : List Value) (hs : a.eval s = v) (hown : w.ownsRow base e 1 v n xs)
    (p : Option Addr) (m c : Nat) (news : List Value) (hx : a.eval x = .slice p m c) (hl : news.length = m) (hpn : p = none → m = 0 ∧ c = 0) (hnews : ∀ ad, p = some ad → ∀ j u, news[j]? = some u → w.cell? (ad.add j) = some u) (h1 : ∀ u ∈ news, u.oneCell' = true)
    (hbytes : n + m ≤ 140737488355328) (hbase : base ≤ w.heap.size)
    (h : ∀ v' w', w'.ownsRow base e 1 v' (n + m) (xs ++ news) → w.grownBy w' v.ownBlock → wpList P ops Q rest (a.put o.dst v') w') : wpList P ops Q (o :: rest) a w := by
  rcases p with _ | ad
  · obtain ⟨rfl, rfl⟩ := hpn rfl
    obtain rfl : news = [] := List.eq_nil_of_length_eq_zero hl
    refine wpList_append_own_none hgd s x t ho base e i 1 ht hi v n xs hs hown hx ?_
    exact h v w (by simpa using hown) (grownBy_refl w _)
  · refine wpList_append_own w hgd s x t ho base e i z 1 1 ht hi hz hsize hby hzs (by decide) v n xs hs hown ad m c news hx (by omega) (hnews ad rfl) h1 (by unfold maxLen; omega) (by omega) hbase ?_
    exact fun v' w' h2 h3 _ => h v' w' h2 h3
/-- a string's bytes -/
def str (l : List Nat) : ByteArray := ⟨(l.map UInt8.ofNat).toArray⟩
theorem conv_sl {w : World} {p : Option Addr} {bs : List Nat} {cap b off : Nat} (h : Sl w p bs cap b off) : (convert 43 9 (.slice p bs.length cap)).run Try.prog w = .ok (.string (str bs)) w := by
  by_cases h0 : 0 < bs.length
  · obtain rfl := h.at_ h0
    rw [run_convert_bytes_arg w 43 5 Try.underlying43 Try.underlying5 b off bs.length cap (bs.map fun (n : Nat) => (n : Int)) (by simp) (fun i hi => by rw [h.src i hi]; simp [u8v, hi]) 9 Try.underlying9]
    congr 2
    simp [strOfNums, str, Function.comp_def]
  · obtain rfl : bs = [] := List.eq_nil_of_length_eq_zero (by omega)
    rcases p with _ | ⟨b', o', m'⟩
    · exact run_convert_bytes_nil w 43 5 Try.underlying43 Try.underlying5 0 cap 9 Try.underlying9
    · rw [run_convert_bytes_string w 43 9 5 _ _ _ Try.underlying43 Try.underlying5 Try.underlying9]
      rw [List.length_nil, run_bytesToString w _ 0 cap [] (by simp [loadCells, loadCellsFrom, Sem.run_pure])]
      rfl
end Go.Proofs.Ytglfeocfhlmloaa.Nd
