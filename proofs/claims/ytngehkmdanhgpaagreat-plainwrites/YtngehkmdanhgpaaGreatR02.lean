/-
  The walk of node.Decode. Fields that are written; the walks of writeParts and writeItems. The walk of node.Encode. A node's bytes mean it alone: what is written is read as it was, and what is read was written so. Digests and items that are compared. The walks of the reference's Items and Same. Slices of one element; rows of elements of the call's own. Lists of files in memory; a row of files of the call's own, and what is put behind it. The walk of the reference's Insert: a file where its path belongs. Files of two lists that read as the same files. A row of paths of the call's own; one more path behind it. The walks of Check and Split, of the reference's Check. Paths and their texts: what is shown is parsed as it was. Paths in a map by their texts: what a file system of layer 11 is in memory; look-up, store, delete.
-/
import Derived.Lib.AppendZeros
import Derived.Deep.DrawnRows
import Derived.Laws.Tables
import Derived.Lib.SlBytesConst
import Derived.Deep.RegionLaw
import Derived.Laws.CopyOwn
import Derived.Laws.StructEq
import Derived.Maps.OwnSet
import Derived.Maps.RangeRun
import Derived.Test.YtngehkmdanhgpaaGreatR00
import Derived.Test.YtngehkmdanhgpaaGreatR01
namespace Go.Proofs.YtngehkmdanhgpaaGreat.Nd
open Go.RowKit
theorem IsN.form {w : World} {v : Value} {n : Nd} (h : IsN w v n) : ∃ pp cp pi ci, v = .agg #[.int .i64 n.kind, .string n.data, .int .i64 n.size, .slice pp n.parts.length cp, .slice pi n.items.length ci] := by
  obtain ⟨vp, vi, rfl, hp, hi⟩ := h.ex
  obtain ⟨pp, cp, _, _, rfl, _⟩ := hp.ex
  obtain ⟨pi, ci, _, _, rfl, _⟩ := hi.ex
  exact ⟨pp, cp, pi, ci, by simp⟩
theorem post_Row2 {P : Program} {fn : Func} {R : Ending → World → Prop} {a : Act} {w : World} (p u : Tmp) (ty : TypeId) (hf : fn.results = #[.cell p ty, .tmp u]) (g : Nat) (hp : a.tmps.getD p undef = .pointer (some ⟨g, 0, none⟩))
    (t : TypeId) (vs : List Value) (hr : Row w g vs t) (d : TypeDesc) (hu : P.underlying ty = some d) (hd : (match d with | .struct _ | .array _ _ => true | _ => false) = true) (n : Nat) (hi : (P.info? ty).map (·.size) = some n) (hn : vs.length = n)
    (hdf : a.defers = []) (h : R (.returned (.tuple #[.agg vs.toArray, a.tmps.getD u undef])) w) : bodyPost P fn R .ret a w := by
  refine bodyPost_ret ?_ hdf h
  rw [results_cell_tmp hf, hp]
  have hl := run_loadVar_row (P := P) w g t ty vs.toArray (0, 0) d hr hu hd (by rw [hi]; simp [hn])
  simp [asAddr, hl]
end Go.Proofs.YtngehkmdanhgpaaGreat.Nd
namespace Go.Proofs.YtngehkmdanhgpaaGreat.Nd
open Go.RowKit
theorem Els.own {w : World} {v : Value} {k : Nat} {xs : List (List Value)} (h : Els w v k xs) (hne : xs ≠ []) : ∀ q, v.ownBlock = some q → q < w.heap.size := by
  obtain ⟨p, cap, b, o, rfl, _, _, h3, _⟩ := h.ex
  obtain ⟨rfl, hb⟩ := h3 hne
  intro q hq
  cases hq
  exact hb
end Go.Proofs.YtngehkmdanhgpaaGreat.Nd
namespace Go.Proofs.YtngehkmdanhgpaaGreat.Nd
open Go.RowKit
theorem enc_1 {n : Nd} (h : n.kind = 1) : enc n = Wire.num 1 ++ (Wire.num n.data.size ++ bytesS n.data) := by simp [enc, h]
theorem enc_2 {n : Nd} (h : n.kind = 2) : enc n = Wire.num 2 ++ Wire.num n.size.toNat ++ n.parts.flatten := by simp [enc, h]
theorem enc_3 {n : Nd} (h : n.kind = 3) : enc n = Wire.num 3 ++ Wire.num n.items.length ++ n.items.flatMap It.bytes := by simp [enc, h]
theorem itemsOk_kind {l : List It} (h : itemsOk l) : ∀ x ∈ l, 0 ≤ x.kind ∧ x.name.size ≤ 16 := by
  intro x hx
  obtain ⟨i, hi, rfl⟩ := List.getElem_of_mem hx
  have h1 := (h.2 i hi _ (List.getElem?_eq_getElem hi)).1
  unfold itemOk at h1
  simp only [Bool.and_eq_true, Bool.or_eq_true, beq_iff_eq] at h1
  obtain ⟨h2, h3⟩ := h1
  unfold isNameS at h3
  simp only [Bool.and_eq_true, decide_eq_true_eq] at h3
  have h4 := h3.1.2
  rw [bl_length] at h4
  exact ⟨by rcases h2 with h | h <;> omega, h4⟩
end Go.Proofs.YtngehkmdanhgpaaGreat.Nd
namespace Go.Proofs.YtngehkmdanhgpaaGreat.Nd
open Go.RowKit
theorem sNum_num (v : Nat) (r : List Nat) (h : v < 18446744073709551616) : sNum (Wire.num v ++ r, 0) = (v, (r, 0)) := by
  unfold sNum
  rw [if_pos rfl]
  exact rnum_num v r h
theorem sText_text (m : Nat) (S : ByteArray) (r : List Nat) (h : S.size ≤ m) (hm : m ≤ 9223372036854775807) : sText m (Wire.num S.size ++ bytesS S ++ r, 0) = (bytesS S, (r, 0)) := by
  unfold sText Wire.rtext
  rw [if_pos rfl]
  have e := rnum_num S.size (bytesS S ++ r) (by omega)
  rw [← List.append_assoc] at e
  simp only [e]
  rw [if_neg (by simp), if_neg (by simp; omega), if_neg (by simp [bytesS_length])]
  have hl := bytesS_length S
  simp [← hl]
theorem sDig_dig (d r : List Nat) (h : d.length = 32) : sDig (d ++ r, 0) = (d, (r, 0)) := by
  unfold sDig rdigest
  rw [if_pos rfl, if_neg (by simp; omega)]
  simp [← h]
theorem sParts_parts (ps : List (List Nat)) (h : ∀ d ∈ ps, Dg d) (r : List Nat) : ∀ c, c ≤ ps.length → sParts c (ps.flatten ++ r, 0) = (ps.take c, ((ps.drop c).flatten ++ r, 0)) := by
  intro c
  induction c with
  | zero => intro _; simp [sParts]
  | succ c ih =>
    intro hc
    have h1 := ih (by omega)
    have hd : ps.drop c = ps[c] :: ps.drop (c + 1) := List.drop_eq_getElem_cons (by omega)
    have h2 := sDig_dig ps[c] ((ps.drop (c + 1)).flatten ++ r) (h _ (List.getElem_mem _)).1
    simp only [sParts, h1, hd, List.flatten_cons, List.append_assoc, h2]
    rw [List.take_add_one, List.getElem?_eq_getElem (by omega)]
    rfl
theorem sItems_items (f : Nat → Nat) (hf2 : f 2 = 2) (hf3 : f 3 = 3) (l : List It) (h : ∀ x ∈ l, x.ok) (hk : ∀ x ∈ l, (x.kind = 2 ∨ x.kind = 3) ∧ x.name.size ≤ 16) (r : List Nat) : ∀ c, c ≤ l.length → sItems f c (l.flatMap It.bytes ++ r, 0) = (l.take c, ((l.drop c).flatMap It.bytes ++ r, 0)) := by
  intro c
  induction c with
  | zero => intro _; simp [sItems]
  | succ c ih =>
    intro hc
    have h1 := ih (by omega)
    have hd : l.drop c = l[c] :: l.drop (c + 1) := List.drop_eq_getElem_cons (by omega)
    have hm : l[c] ∈ l := List.getElem_mem _
    obtain ⟨hk1, hk2⟩ := hk _ hm
    have e1 := sText_text 16 l[c].name (Wire.num l[c].kind.toNat ++ (l[c].sum ++ ((l.drop (c + 1)).flatMap It.bytes ++ r))) hk2 (by decide)
    have e2 := sNum_num l[c].kind.toNat (l[c].sum ++ ((l.drop (c + 1)).flatMap It.bytes ++ r)) (by rcases hk1 with h | h <;> rw [h] <;> decide)
    have e3 := sDig_dig l[c].sum ((l.drop (c + 1)).flatMap It.bytes ++ r) (h _ hm).sum.1
    rw [List.append_assoc] at e1
    have e4 : ((f l[c].kind.toNat : Nat) : Int) = l[c].kind := by
      rcases hk1 with h | h
      · rw [h]; show ((f 2 : Nat) : Int) = 2; rw [hf2]; rfl
      · rw [h]; show ((f 3 : Nat) : Int) = 3; rw [hf3]; rfl
    simp only [sItems, sItem, h1, hd, List.flatMap_cons, It.bytes, List.append_assoc, e1, e2, e3, e4, str_bytesS]
    rw [List.take_add_one, List.getElem?_eq_getElem (by omega)]
    rfl
theorem itemsOk_kinds {l : List It} (h : itemsOk l) : ∀ x ∈ l, (x.kind = 2 ∨ x.kind = 3) ∧ x.name.size ≤ 16 := by
  intro x hx
  refine ⟨?_, (itemsOk_kind h x hx).2⟩
  obtain ⟨i, hi, rfl⟩ := List.getElem_of_mem hx
  have h1 := (h.2 i hi _ (List.getElem?_eq_getElem hi)).1
  unfold itemOk at h1
  simp only [Bool.and_eq_true, Bool.or_eq_true, beq_iff_eq] at h1
  exact h1.1
theorem empty_of {s : ByteArray} (h : s.size = 0) : s = ByteArray.empty := ByteArray.size_eq_zero_iff.1 h
/-- what is written is read as it was -/
theorem rd_enc {n : Nd} (hr : right n) (hok : n.ok) : rd (enc n, 0) = (n, ([], 0)) := by
  obtain ⟨kind, data, size, parts, items⟩ := n
  rcases hr with ⟨hk, hd1, hd2, hs, hp, hi⟩ | ⟨hk, hd, hs0, hs1, hp, hi⟩ | ⟨hk, hd, hs, hp, hi⟩
  · simp only at hk hd1 hd2 hs hp hi
    subst hk hs hp hi
    rw [enc_1 rfl]
    have e1 := sNum_num 1 (Wire.num data.size ++ bytesS data) (by decide)
    have e2 := sText_text 64 data [] hd2 (by decide)
    rw [List.append_nil] at e2
    rw [rd_1 (by rw [e1]; rfl), e1, e2, str_bytesS]
  · simp only at hk hd hs0 hs1 hp hi
    subst hk hi
    rw [enc_2 rfl, List.append_assoc]
    simp only
    have e1 := sNum_num 2 (Wire.num size.toNat ++ parts.flatten) (by decide)
    have e2 := sNum_num size.toNat parts.flatten (by omega)
    have hc : cutN 1024 size.toNat = size.toNat := by unfold cutN; omega
    have hz : ((size.toNat : Nat) : Int) = size := by omega
    have e3 := sParts_parts parts hok.parts [] parts.length (Nat.le_refl _)
    rw [List.append_nil] at e3
    rw [rd_2 (z := size.toNat) (by rw [e1]; rfl) (by rw [e1, e2]; exact hc), e1, e2, hz, ← hp, e3, empty_of hd]
    simp
  · simp only at hk hd hs hp hi
    subst hk hs hp
    rw [enc_3 rfl, List.append_assoc]
    simp only
    have hl := hi.1
    have e1 := sNum_num 3 (Wire.num items.length ++ items.flatMap It.bytes) (by decide)
    have e2 := sNum_num items.length (items.flatMap It.bytes) (by omega)
    have hc : cutN 64 items.length = items.length := by unfold cutN; omega
    have e3 := sItems_items (cutN 3) rfl rfl items hok.items (itemsOk_kinds hi) [] items.length (Nat.le_refl _)
    rw [List.append_nil] at e3
    rw [rd_3 (z := items.length) (by rw [e1]; rfl) (by rw [e1, e2]; exact hc), e1, e2, e3, empty_of hd]
    simp
/-- these bytes mean that node -/
def Means (bs : List Nat) (n : Nd) : Prop := right n ∧ n.ok ∧ enc n = bs
theorem Means.rd {bs : List Nat} {n : Nd} (h : Means bs n) : Go.Proofs.YtngehkmdanhgpaaGreat.Nd.rd (bs, 0) = (n, ([], 0)) := by rw [← h.2.2]; exact rd_enc h.1 h.2.1
end Go.Proofs.YtngehkmdanhgpaaGreat.Nd
namespace Go.Proofs.YtngehkmdanhgpaaGreat.Nd
open Go.RowKit
theorem ba_beq (a b : ByteArray) : (a == b) = true ↔ a = b := by
  rw [beq_toListBytes, beq_iff_eq, Lib.toList_data, Lib.toList_data]
  constructor
  · intro h
    cases a; cases b
    simpa using h
  · rintro rfl; rfl
end Go.Proofs.YtngehkmdanhgpaaGreat.Nd
namespace Go.Proofs.YtngehkmdanhgpaaGreat.Nd
open Go.RowKit
attribute [local go_sem] has_drewN cellsAt_drewN has_drew cellsAt_drew ptrB_pointer ptrO_pointer
theorem toList_inj {a b : ByteArray} : a.toList = b.toList ↔ a = b := by
  constructor
  · intro h; exact (ba_beq a b).1 (by rw [beq_toListBytes, h]; simp)
  · rintro rfl; rfl
end Go.Proofs.YtngehkmdanhgpaaGreat.Nd
namespace Go.Proofs.YtngehkmdanhgpaaGreat.Nd
open Go.RowKit
theorem own_belowK {w w' : World} {B n k : Nat} {e : TypeId} {v : Value} {xs : List Value} (h : w.ownsRow B e k v n xs) (hb : Below w.heap.size w w') : w'.ownsRow B e k v n xs := by
  obtain ⟨h1, h2 | ⟨g, cap, cur, rfl, hB, hh, r⟩⟩ := h
  · exact ⟨h1, .inl h2⟩
  · refine ⟨h1, .inr ⟨g, cap, cur, rfl, hB, ?_, r⟩⟩
    have hlt : g < w.heap.size := (Array.getElem?_eq_some_iff.1 hh).1
    rw [hb.block g hlt]
    exact hh
theorem own_geK {W : World} {base : Nat} {e : TypeId} {size n : Nat} {v : Value} {xs : List Value} (h : W.ownsRow base e size v n xs) (k : Nat) (hk : v.ownBlock = some k) : base ≤ k ∧ k < W.heap.size := by
  obtain ⟨_, ⟨rfl, _⟩ | ⟨g, cap, cur, rfl, hB, hh, _⟩⟩ := h
  · cases hk
  · have e2 : g = k := by simpa [Value.ownBlock] using hk
    have := (Array.getElem?_eq_some_iff.1 hh).1
    omega
theorem flatten_get {k : Nat} {xs : List (List Value)} (h : ∀ us ∈ xs, us.length = k) : ∀ (i : Nat) us, xs[i]? = some us → ∀ (y : Nat) u, us[y]? = some u → xs.flatten[i * k + y]? = some u := by
  induction xs with
  | nil => intro i us hi; simp at hi
  | cons x r ih =>
    intro i us hi y u hy
    have hx := h x (by simp)
    cases i with
    | zero =>
      simp at hi
      subst hi
      rw [List.flatten_cons, Nat.zero_mul, Nat.zero_add, List.getElem?_append_left (by exact (List.getElem?_eq_some_iff.1 hy).1)]
      exact hy
    | succ i =>
      rw [List.flatten_cons, List.getElem?_append_right (by rw [hx, Nat.add_mul]; omega), hx]
      have := ih (fun us hus => h us (by simp [hus])) i us (by simpa using hi) y u hy
      rw [show (i + 1) * k + y - k = i * k + y by rw [Nat.add_mul]; omega]
      exact this
end Go.Proofs.YtngehkmdanhgpaaGreat.Nd
namespace Go.Proofs.YtngehkmdanhgpaaGreat.Rf
open Go.RowKit
/-- a file -/
structure Fil where
  path : ByteArray
  dir : Bool
  data : ByteArray
def Fil.cells (f : Fil) : List Value := [.string f.path, .bool f.dir, .string f.data]
def Fil.val (f : Fil) : Value := .agg #[.string f.path, .bool f.dir, .string f.data]
def fcells (fs : List Fil) : List Value := fs.flatMap Fil.cells
theorem fcells_len (fs : List Fil) : (fcells fs).length = fs.length * 3 := by
  induction fs with
  | nil => rfl
  | cons f r ih =>
    unfold fcells at ih ⊢
    rw [List.flatMap_cons, List.length_append, ih, List.length_cons]
    simp [Fil.cells]
    omega
theorem fcells_at {fs : List Fil} {i : Nat} {f : Fil} (h : fs[i]? = some f) (y : Nat) (u : Value) (hy : f.cells[y]? = some u) : (fcells fs)[i * 3 + y]? = some u := by
  have h1 := Nd.flatten_get (k := 3) (xs := fs.map Fil.cells) (fun us hus => by obtain ⟨g, _, rfl⟩ := List.mem_map.1 hus; rfl) i f.cells (by rw [List.getElem?_map, h]; rfl) y u hy
  rw [List.flatMap_def.symm] at h1
  exact h1
/-- a value that reads as files -/
def Fls (w : World) (v : Value) (fs : List Fil) : Prop := ∃ p cap b o, v = .slice p fs.length cap ∧ fs.length ≤ cap ∧ cap ≤ 9223372036854775807 ∧ (fs ≠ [] → p = some ⟨b, o, none⟩ ∧ b < w.heap.size) ∧ (∀ j u, (fcells fs)[j]? = some u → w.cell? ⟨b, o + j, none⟩ = some u) ∧ (p = none → fs = [] ∧ cap = 0)
theorem Fls.below {w w' : World} {v : Value} {fs : List Fil} (h : Fls w v fs) (hb : Below w.heap.size w w') : Fls w' v fs := by
  obtain ⟨p, cap, b, o, h1, h2, h3, h4, h5, h6⟩ := h
  refine ⟨p, cap, b, o, h1, h2, h3, fun hn => ⟨(h4 hn).1, Nat.lt_of_lt_of_le (h4 hn).2 hb.size⟩, fun j u hj => ?_, h6⟩
  have hne : fs ≠ [] := by rintro rfl; simp [fcells] at hj
  rw [hb.cell (p := ⟨b, o + j, none⟩) (h4 hne).2]
  exact h5 j u hj
theorem Fls.form {w : World} {v : Value} {fs : List Fil} (h : Fls w v fs) : ∃ p cap, v = .slice p fs.length cap := by
  obtain ⟨p, cap, _, _, h1, _⟩ := h
  exact ⟨p, cap, h1⟩
/-- a row of files of the call's own -/
def FO (w : World) (B : Nat) (v : Value) (fs : List Fil) : Prop := w.ownsRow B 48 3 v fs.length (fcells fs)
theorem FO.below {w w' : World} {B : Nat} {v : Value} {fs : List Fil} (h : FO w B v fs) (hb : Below w.heap.size w w') : FO w' B v fs := Nd.own_belowK h hb
theorem size81 (w : World) : (sizeOf 48).run Tryz.prog w = .ok 3 w := by kernel_rfl
theorem slice22_from (p : Option Addr) (b o L C n : Nat) (h1 : n ≤ L) (h2 : L ≤ C) (hp : 0 < L → p = some ⟨b, o, none⟩) : ∃ q, (n < L → q = some ⟨b, o + n * 3, none⟩) ∧ (q = none → p = none) ∧ ∀ w, (Instr.slice 22 (.slice p L C) (some (.int .i64 (n : Int))) none none).run Tryz.prog w = .ok (.slice q (L - n) (C - n)) w := by
  have ht : Tryz.prog.underlying 22 = some (.slice (Tryz.prog.elem 22)) := by kernel_rfl
  have he : Tryz.prog.elem 22 = 48 := by kernel_rfl
  rcases p with _ | ⟨b', o', s'⟩
  · refine ⟨none, (fun h => by have h3 := hp (by omega); cases h3), fun _ => rfl, fun w => ?_⟩
    rw [run_slice_l w 22 none L C ht .i64 (n : Int) (by omega) (by omega), he, size81]
    simp [sliced]
  · refine ⟨some (if C = n then ⟨b', o', s'⟩ else (⟨b', o', s'⟩ : Addr).add (n * 3)), fun h => ?_, (fun e => by cases e), fun w => ?_⟩
    · have h3 := Option.some.inj (hp (by omega))
      rw [if_neg (by omega), h3, Addr.add_mid]
    · rw [run_slice_l w 22 _ L C ht .i64 (n : Int) (by omega) (by omega), he, size81]
      simp [sliced]
      split <;> rfl
theorem Fls.first {w : World} {p : Option Addr} {n cap : Nat} {fs : List Fil} (h : Fls w (.slice p n cap) fs) (k : Nat) (hk : k ≤ fs.length) : n = fs.length ∧ k ≤ cap ∧ Fls w (.slice p k cap) (fs.take k) := by
  obtain ⟨p', cap', b, o, h1, h2, h3, h4, h5, h6⟩ := h
  simp only [Value.slice.injEq] at h1
  obtain ⟨rfl, rfl, rfl⟩ := h1
  refine ⟨rfl, by omega, p, cap, b, o, by rw [List.length_take, Nat.min_eq_left hk], by rw [List.length_take]; omega, h3, fun hne => h4 (by rintro rfl; simp at hne), fun j u hj => h5 j u ?_, fun e => ⟨by rw [(h6 e).1]; simp, (h6 e).2⟩⟩
  have e : fcells fs = fcells (fs.take k) ++ fcells (fs.drop k) := by
    unfold fcells
    rw [← List.flatMap_append, List.take_append_drop]
  rw [e, List.getElem?_append_left (List.getElem?_eq_some_iff.1 hj).1]
  exact hj
theorem Fls.rest {w : World} {p : Option Addr} {n cap : Nat} {fs : List Fil} (h : Fls w (.slice p n cap) fs) (k : Nat) (hk : k ≤ fs.length) : ∃ q, (∀ W, (Instr.slice 22 (.slice p n cap) (some (.int .i64 (k : Int))) none none).run Tryz.prog W = .ok (.slice q (fs.length - k) (cap - k)) W) ∧ Fls w (.slice q (fs.length - k) (cap - k)) (fs.drop k) := by
  obtain ⟨p', cap', b, o, h1, h2, h3, h4, h5, h6⟩ := h
  simp only [Value.slice.injEq] at h1
  obtain ⟨rfl, rfl, rfl⟩ := h1
  obtain ⟨q, h7, h8, h9⟩ := slice22_from p b o fs.length cap k hk h2 (fun h0 => (h4 (by rintro rfl; simp at h0)).1)
  refine ⟨q, h9, q, cap - k, b, o + k * 3, by rw [List.length_drop], by rw [List.length_drop]; omega, by omega, fun hne => ?_, fun j u hj => ?_, fun e => ?_⟩
  · have hlt : k < fs.length := by
      rcases Nat.lt_or_ge k fs.length with h | h
      · exact h
      · exact absurd (List.drop_eq_nil_of_le h) hne
    exact ⟨h7 hlt, (h4 (by rintro rfl; simp at hlt)).2⟩
  · have e : fcells fs = fcells (fs.take k) ++ fcells (fs.drop k) := by
      unfold fcells
      rw [← List.flatMap_append, List.take_append_drop]
    have hl : (fcells (fs.take k)).length = k * 3 := by rw [fcells_len, List.length_take, Nat.min_eq_left hk]
    rw [Nat.add_assoc]
    refine h5 (k * 3 + j) u ?_
    rw [e, List.getElem?_append_right (by omega), hl, Nat.add_sub_cancel_left]
    exact hj
  · obtain ⟨rfl, rfl⟩ := h6 (h8 e)
    exact ⟨by simp, by omega⟩
end Go.Proofs.YtngehkmdanhgpaaGreat.Rf
namespace Go.Proofs.YtngehkmdanhgpaaGreat.Rf
open Go.RowKit
open Vp (Str B bl Val cmpL parseS showS)
/-- does the one come ahead of the other? -/
def ahead (g f : Fil) : Prop := cmpL (nmsOf g.path) (nmsOf f.path) < 0
instance (g f : Fil) : Decidable (ahead g f) := by unfold ahead; infer_instance
theorem fls_one (w : World) (f : Fil) : Fls (w.alloc (.cells #[.string f.path, .bool f.dir, .string f.data] 48)) (.slice (some ⟨w.heap.size, 0, none⟩) 1 1) [f] := by
  have hr := Nd.Row.new w [.string f.path, .bool f.dir, .string f.data] 48
  refine ⟨_, 1, w.heap.size, 0, rfl, by simp, by omega, fun _ => ⟨rfl, by simp⟩, fun j u hj => ?_, fun e => by cases e⟩
  rw [Nat.zero_add, hr.cell]
  simpa [fcells, Fil.cells] using hj
theorem Fls.path {w : World} {v : Value} {fs : List Fil} {i : Nat} {g : Fil} (h : Fls w v fs) (hi : fs[i]? = some g) : ∃ b o cap, v = .slice (some ⟨b, o, none⟩) fs.length cap ∧ w.cell? ⟨b, o + i * 3, none⟩ = some (.string g.path) := by
  obtain ⟨p, cap, b, o, h1, h2, h3, h4, h5, h6⟩ := h
  have hne : fs ≠ [] := by rintro rfl; simp at hi
  obtain ⟨rfl, _⟩ := h4 hne
  exact ⟨b, o, cap, h1, h5 _ _ (fcells_at hi 0 _ rfl)⟩
theorem FO.mono {w : World} {B B' : Nat} {v : Value} {fs : List Fil} (h : FO w B v fs) (hb : B' ≤ B) : FO w B' v fs := by
  obtain ⟨h1, h2 | ⟨g, cap, cur, hv, hB, r⟩⟩ := h
  · exact ⟨h1, .inl h2⟩
  · exact ⟨h1, .inr ⟨g, cap, cur, hv, Nat.le_trans hb hB, r⟩⟩
theorem FO.step {w w' a : World} {B : Nat} {v : Value} {fs : List Fil} (h : FO w B v fs) (hb : Below B a w) (hB : B ≤ w.heap.size) (hg : w.grownBy w' v.ownBlock) : Below B a w' :=
  hb.grown hg hB (fun k e => (Nd.own_geK h k e).1)
end Go.Proofs.YtngehkmdanhgpaaGreat.Rf
namespace Go.Proofs.YtngehkmdanhgpaaGreat.Rf
open Go.RowKit
theorem below_drew (w : World) : Below w.heap.size w w.drew := (Below.refl _ _).drew
theorem Fls.range {w : World} {b o : Nat} {fs : List Fil} (h : ∀ j u, (fcells fs)[j]? = some u → w.cell? ⟨b, o + j, none⟩ = some u) (i : Nat) (f : Fil) (hi : fs[i]? = some f) : w.rangeAt b (o + i * 3) f.cells := fun j u hj => by
  rw [Nat.add_assoc]
  exact h _ _ (fcells_at hi j u hj)
end Go.Proofs.YtngehkmdanhgpaaGreat.Rf
namespace Go.Proofs.YtngehkmdanhgpaaGreat.Rf
open Go.RowKit
open Vp (Str B bl Val cmpL parseS showS sv)
/-- names in a row of their own -/
def Nm (w : World) (v : Value) (xs : List Str) : Prop := w.ownsRow 0 9 1 v xs.length (xs.map sv)
theorem own0 {w : World} {base n size : Nat} {e : TypeId} {v : Value} {xs : List Value} (h : w.ownsRow base e size v n xs) : w.ownsRow 0 e size v n xs := by
  refine ⟨h.1, ?_⟩
  rcases h.2 with h | ⟨g, cap, cur, h1, _, h3⟩
  · exact .inl h
  · exact .inr ⟨g, cap, cur, h1, Nat.zero_le _, h3⟩
theorem Nm.of {w : World} {base : Nat} {v : Value} {xs : List Str} (h : Vp.Nms w base v xs) : Nm w v xs := own0 h
theorem Nm.val {w : World} {v : Value} {xs : List Str} (h : Nm w v xs) : Val w v xs := Vp.Nms.val (base := 0) h
theorem Nm.below {w w' : World} {v : Value} {xs : List Str} (h : Nm w v xs) (hb : Below w.heap.size w w') : Nm w' v xs := Nd.own_belowK h hb
theorem Nm.form {w : World} {v : Value} {xs : List Str} (h : Nm w v xs) : ∃ p c, v = .slice p xs.length c := Vp.Nms.shape (base := 0) h
/-- what grows in a row of another type leaves names as they are -/
theorem Nm.grown {w w' : World} {v r : Value} {xs : List Str} {B n : Nat} {us : List Value} (h : Nm w v xs) (ho : w.ownsRow B 35 1 r n us) (hg : w.grownBy w' r.ownBlock) : Nm w' v xs := by
  obtain ⟨h1, h2 | ⟨g, cap, cur, rfl, hB, hh, rest⟩⟩ := h
  · exact ⟨h1, .inl h2⟩
  · refine ⟨h1, .inr ⟨g, cap, cur, rfl, hB, ?_, rest⟩⟩
    have hlt : g < w.heap.size := (Array.getElem?_eq_some_iff.1 hh).1
    rw [hg.block g hlt (fun e => ?_)]
    · exact hh
    · obtain ⟨_, ⟨rfl, _⟩ | ⟨g', cap', cur', rfl, _, hh', _⟩⟩ := ho
      · cases e
      · have e2 : g = g' := by simpa [Value.ownBlock] using e
        subst e2
        rw [hh] at hh'
        simp at hh'
/-- a row of paths of the call's own -/
def PO (w : World) (B : Nat) (v : Value) (ps : List (List Str)) : Prop := ∃ us : List Value, us.length = ps.length ∧ w.ownsRow B 35 1 v ps.length us ∧ ∀ (i : Nat) x, ps[i]? = some x → ∃ u, us[i]? = some u ∧ Nm w u x
theorem PO.nil (w : World) (B : Nat) : PO w B (.slice none 0 0) [] := ⟨[], rfl, World.ownsRow_nil _ _ _ _, fun i x h => by simp at h⟩
theorem PO.below {w w' : World} {B : Nat} {v : Value} {ps : List (List Str)} (h : PO w B v ps) (hb : Below w.heap.size w w') : PO w' B v ps := by
  obtain ⟨us, h1, h2, h3⟩ := h
  refine ⟨us, h1, Nd.own_belowK h2 hb, fun i x hx => ?_⟩
  obtain ⟨u, h4, h5⟩ := h3 i x hx
  exact ⟨u, h4, h5.below hb⟩
theorem PO.own {w : World} {B : Nat} {v : Value} {ps : List (List Str)} (h : PO w B v ps) (k : Nat) (hk : v.ownBlock = some k) : B ≤ k ∧ k < w.heap.size := by
  obtain ⟨us, _, h2, _⟩ := h
  exact Nd.own_geK h2 k hk
end Go.Proofs.YtngehkmdanhgpaaGreat.Rf
namespace Go.Proofs.YtngehkmdanhgpaaGreat.Vp
open Go.RowKit
/-- whether names are a path's -/
def checkS (xs : List Str) : Int := if xs.all isNameS = false then 41 else if 8 < xs.length then 42 else 0
theorem lens_mem {xs : List Str} {x : Str} (h : x ∈ xs) : x.length ≤ Lib.lens xs := by
  induction xs with
  | nil => cases h
  | cons y r ih =>
    simp only [Lib.lens, List.map_cons, List.sum_cons] at ih ⊢
    rcases List.mem_cons.1 h with rfl | h
    · omega
    · have := ih h; omega
theorem allS_snoc {p : Str → Bool} {l : List Str} {i : Nat} {c : Str} (hc : l[i]? = some c) (h : (l.take i).all p = true) (hp : p c = true) : (l.take (i + 1)).all p = true := by
  rw [List.take_add_one, hc]; simp [List.all_append, h, hp]
theorem allS_no {p : Str → Bool} {l : List Str} {i : Nat} {c : Str} (hc : l[i]? = some c) (hp : p c = false) : l.all p = false := by
  rw [List.all_eq_false]
  exact ⟨c, List.mem_of_getElem? hc, by simp [hp]⟩
set_option maxHeartbeats 400000 in
set_option maxRecDepth 100000 in
theorem check_v {xs : List Str} {u : Value} {w : World} (hx : Val w u xs) (hl : Lib.lens xs + xs.length ≤ 140737488355328) : Calls Tryz.prog 121 #[u] w fun e w' => e = .returned (.int .i64 (checkS xs)) ∧ w' = w := by
  obtain ⟨p, cap, b, o, rfl, hle, hbig, hp, hc⟩ := val_at hx
  obtain ⟨R, hR⟩ : ∃ R, Hid (R = checkS xs) := ⟨_, rfl⟩
  rw [← hR.out]
  have HC := hid_in hc
  have HP := hid_in hp
  have HL := hid_in hl
  have hb1 : xs.length ≤ 9223372036854775807 := by omega
  generalize hn : xs.length = n at *
  have Hn := hid_in hn
  clear hn hc hp hx hl
  go_enter Tryz.func121, Tryz.ntmps121
  go_wp2_with fail
  go_loopw [7] (fun vi w' => w' = w ∧ ∃ i : Nat, i ≤ n ∧ vi = .int .i64 (i : Int) ∧ Hid ((xs.take i).all isNameS = true)) (fun vi _ => n - (intOf vi).toNat)
  case atStart => exact ⟨rfl, 0, by omega, rfl, rfl⟩
  case round =>
    obtain ⟨hw, i, hi, rfl, hall⟩ := hrel
    obtain rfl := hw.symm
    by_cases hlt : i < n
    · obtain ⟨x, hxi⟩ : ∃ d, xs[i]? = some d := ⟨_, List.getElem?_eq_getElem (by rw [Hn.out]; exact hlt)⟩
      have cx := HC.out i x hxi
      obtain rfl := HP.out (by rintro rfl; simp at hxi)
      have HN := hid_in (isName_any x (by have := lens_mem (List.mem_of_getElem? hxi); have := HL.out; omega))
      have HX := hid_in hxi
      clear hxi
      cases hnm : isNameS x
      · rw [hnm] at HN
        have HNM := hid_in hnm
        clear hnm
        go_wp2_with (go_at_call 137; refine (HN.out _).mono ?_; rintro e w' ⟨rfl, hw⟩; obtain rfl := hw.symm)
        go_ret
        refine ⟨congrArg (fun z => Ending.returned (Value.int .i64 z)) (Eq.trans ?_ hR.out.symm), rfl⟩
        unfold checkS
        rw [if_pos (allS_no HX.out HNM.out)]
      · rw [hnm] at HN
        have hsn : Hid ((xs.take (i + 1)).all isNameS = true) := allS_snoc HX.out hall.out hnm
        clear hnm
        go_wp2_with (go_at_call 137; refine (HN.out _).mono ?_; rintro e w' ⟨rfl, hw⟩; obtain rfl := hw.symm)
        go_roundw
        case rel =>
          go_light
          exact ⟨trivial, i + 1, by omega, by go_num, hsn⟩
        case measure => simp [intOf]; omega
    · have hin : i = n := by omega
      subst hin
      have HA : Hid (R = if 8 < i then 42 else 0) := by
        show _ = _
        rw [hR.out]
        have := hall.out
        rw [List.take_of_length_le (by rw [Hn.out]; omega)] at this
        unfold checkS
        rw [if_neg (by rw [this]; simp), Hn.out]
      clear hR
      by_cases h8 : 8 < i
      · have HA2 := hid_in (HA.out.trans (if_pos h8))
        go_wp2_with fail
        go_ret
        refine ⟨congrArg (fun z => Ending.returned (Value.int .i64 z)) (Eq.trans ?_ HA2.out.symm), rfl⟩
        rfl
      · have HA2 := hid_in (HA.out.trans (if_neg h8))
        go_wp2_with fail
        go_ret
        refine ⟨congrArg (fun z => Ending.returned (Value.int .i64 z)) (Eq.trans ?_ HA2.out.symm), rfl⟩
        rfl
theorem clone_v {xs : List Str} {u : Value} {w : World} (hx : Val w u xs) (hl : xs.length ≤ 100000) : Calls Tryz.prog 122 #[u] w fun e w' => ∃ v', e = .returned v' ∧ Nms w' w.heap.size v' xs ∧ Below w.heap.size w w' := by
  obtain ⟨p, cap, rfl, hr⟩ := hx
  by_cases h0 : xs = []
  · subst h0
    cases p with
    | none => exact (Tryz.slices_Clone_string_nil 0 cap w).mono fun e w' ⟨he, hw⟩ => ⟨_, he, World.ownsRow_nil _ _ _ _, hw ▸ Below.refl _ _⟩
    | some a => exact (Tryz.slices_Clone_string_zero a cap w).mono fun e w' ⟨v', he, h1, _, h2⟩ => ⟨v', he, h1, h2⟩
  · obtain ⟨b, o, h1, h2⟩ := hr.cells
    obtain ⟨rfl, _⟩ := h1 h0
    refine (Tryz.slices_Clone_string b o xs.length cap (xs.map B) w (by simp) (by omega) (fun j hj => ?_)).mono fun e w' ⟨v', he, h3, _, h4⟩ => ⟨v', he, ?_, h4⟩
    · have hj2 : j < xs.length := by simpa using hj
      have := h2 j xs[j] (List.getElem?_eq_getElem hj2)
      simpa [List.getD_eq_getElem?_getD, hj2, sv] using this
    · unfold Nms
      rw [List.take_of_length_le (by simp), List.map_map] at h3
      exact h3
/-- the directory's path, the last name, the error -/
def splitS (xs : List Str) : List Str × Str × Int := if checkS xs ≠ 0 then ([], [], checkS xs) else if xs = [] then ([], [], 132) else (xs.dropLast, xs.getLastD [], 0)
set_option maxHeartbeats 1000000 in
set_option maxRecDepth 100000 in
theorem split_v {xs : List Str} {u : Value} {w : World} (hx : Val w u xs) (hl : Lib.lens xs + xs.length ≤ 140737488355328) (hl2 : xs.length ≤ 100000) : Calls Tryz.prog 90 #[u] w fun e w' => ∃ v, e = .returned (.tuple #[v, .string (B (splitS xs).2.1), .int .i64 (splitS xs).2.2]) ∧ Nms w' w.heap.size v (splitS xs).1 ∧ Below w.heap.size w w' := by
  have HC := hid_in (check_v hx hl)
  have HS : Hid (splitS xs = if checkS xs ≠ 0 then ([], [], checkS xs) else if xs = [] then ([], [], 132) else (xs.dropLast, xs.getLastD [], 0)) := rfl
  generalize splitS xs = R at HS ⊢
  generalize checkS xs = k at HC HS
  by_cases hk : k = 0
  · subst hk
    by_cases h0 : xs = []
    · have HR : R = ([], [], 132) := by rw [HS.out, if_neg (by simp), if_pos h0]
      subst HR h0
      obtain ⟨p, cap, rfl, hr⟩ := hx
      clear HS hr
      go_enter Tryz.func90, Tryz.ntmps90
      go_wp2_with (go_at_call 121; refine HC.out.mono ?_; rintro e w' ⟨rfl, hw⟩; obtain rfl := hw.symm)
      go_ret3
      exact ⟨_, rfl, World.ownsRow_nil _ _ _ _, Below.refl _ _⟩
    · have HR : R = (xs.dropLast, xs.getLastD [], 0) := by rw [HS.out, if_neg (by simp), if_neg h0]
      subst HR
      clear HS
      obtain ⟨p, cap, rfl, hr⟩ := hx
      obtain ⟨b, o, h1, h2⟩ := hr.cells
      obtain ⟨rfl, hb⟩ := h1 h0
      obtain ⟨k, hk⟩ : ∃ k, xs.length = k + 1 := ⟨xs.length - 1, by have := List.length_pos_iff.2 h0; omega⟩
      have hlast : xs[k]? = some (xs.getLastD []) := by
        rw [List.getLastD_eq_getLast?, List.getLast?_eq_getElem?, hk]
        have hlt : k < xs.length := by omega
        simp [List.getElem?_eq_getElem hlt]
      have hcl := h2 k _ hlast
      have hdl : xs.dropLast = xs.take k := by rw [List.dropLast_eq_take, hk]; rfl
      have hcd : Hid (∀ W, (∃ m, W = w.drewN m) → Calls Tryz.prog 122 #[.slice (some ⟨b, o, none⟩) k cap] W fun e w' => ∃ v', e = .returned v' ∧ Nms w' w.heap.size v' xs.dropLast ∧ Below w.heap.size w w') := by
        intro W hW
        have hv : Val W (.slice (some ⟨b, o, none⟩) k cap) xs.dropLast := by
          refine Val.drew ⟨_, _, ?_, by rw [hdl]; exact hr.take k (by omega)⟩ hW
          simp [hk]
        have hsz : W.heap.size = w.heap.size := by obtain ⟨m, rfl⟩ := hW; simp
        refine (clone_v hv (by simp; omega)).mono fun e w' ⟨v', he, h3, h4⟩ => ⟨v', he, ?_, ?_⟩
        · rw [hsz] at h3; exact h3
        · rw [hsz] at h4
          obtain ⟨m, rfl⟩ := hW
          exact (below_drewN (Below.refl _ _) m).trans h4
      have hcap : (k : Int) ≤ cap := by have := hr.le; omega
      have hcb := hr.big
      have HB := hid_in hb
      rw [hk] at HC hl2
      have hcl2 : w.cell? ⟨b, o + k, none⟩ = some (.string (B (xs.getLastD []))) := hcl
      clear hcl
      generalize B (xs.getLastD []) = sl at hcl2 ⊢
      have HCL := hid_in hcl2
      have hk0 : ((k : Int) + 1 == 0) = false := by rw [beq_eq_false_iff_ne]; omega
      clear hr h1 h2 hlast hdl hl h0 hb
      rw [hk]
      clear hk
      go_enter Tryz.func90, Tryz.ntmps90
      go_wp2_with (go_at_call 121; refine HC.out.mono ?_; rintro e w' ⟨rfl, hw⟩; obtain rfl := hw.symm)
      go_region_with (first | (go_at_call 122; refine (hcd.out _ ⟨1, rfl⟩).mono ?_; rintro e w2 ⟨v', rfl, hn, hbl⟩; have hc2 : w2.cell? ⟨b, o + k, none⟩ = some (.string sl) := (hbl.cell (p := ⟨b, o + k, none⟩) HB.out).trans HCL.out; have HN := hid_in hn; have HBL := hid_in hbl; clear hn hbl))
      all_goals
        go_wp2
        go_ret3
        exact ⟨v', rfl, HN.out, HBL.out⟩
  · have HR : R = ([], [], k) := by rw [HS.out, if_pos hk]
    subst HR
    have hk2 : (k != 0) = true := by simpa using hk
    clear HS hk
    go_enter Tryz.func90, Tryz.ntmps90
    go_wp2_with (go_at_call 121; refine HC.out.mono ?_; rintro e w' ⟨rfl, hw⟩; obtain rfl := hw.symm)
    go_ret3
    exact ⟨_, rfl, World.ownsRow_nil _ _ _ _, Below.refl _ _⟩
end Go.Proofs.YtngehkmdanhgpaaGreat.Vp
namespace Go.Proofs.YtngehkmdanhgpaaGreat.Vp
/-- a path's names -/
def IsPath (xs : List Str) : Prop := ∀ x ∈ xs, isNameS x = true
theorem name_facts {x : Str} (h : isNameS x = true) : x ≠ [] ∧ x ≠ [46] ∧ x ≠ [46, 46] ∧ x.length ≤ 16 ∧ x.all plain = true := by
  unfold isNameS at h
  simp only [Bool.and_eq_true, Bool.not_eq_true', beq_eq_false_iff_ne, decide_eq_true_eq] at h
  exact ⟨h.1.1.1.1, h.1.1.1.2, h.1.1.2, h.1.2, h.2⟩
theorem name_of {x : Str} (h0 : x ≠ []) (h1 : x ≠ [46]) (h2 : x ≠ [46, 46]) (h3 : x.length ≤ 16) (h4 : x.all plain = true) : isNameS x = true := by
  unfold isNameS
  rw [beq_eq_false_iff_ne.2 h0, beq_eq_false_iff_ne.2 h1, beq_eq_false_iff_ne.2 h2, decide_eq_true h3, h4]; rfl
theorem plain_ne {c : UInt8} (h : plain c = true) : c ≠ 47 := by
  rintro rfl
  exact absurd h (by decide)
theorem name_no {x : Str} (h : isNameS x = true) : ∀ c ∈ x, c ≠ 47 := fun c hc => plain_ne (List.all_eq_true.1 (name_facts h).2.2.2.2 c hc)
theorem step_name (xs : List Str) {x : Str} (h : isNameS x = true) : stepS xs x = xs ++ [x] := by
  obtain ⟨h0, h1, h2, _⟩ := name_facts h
  unfold stepS
  rw [if_neg (by rintro (e | e); exact h0 e; exact h1 e), if_neg h2]
theorem fold_names (acc : List Str) {xs : List Str} (h : IsPath xs) : xs.foldl stepS acc = acc ++ xs := by
  induction xs generalizing acc with
  | nil => simp
  | cons x r ih =>
    rw [List.foldl_cons, step_name acc (h x (by simp)), ih _ (fun y hy => h y (by simp [hy]))]
    simp
theorem names_self {xs : List Str} (h : IsPath xs) : namesS xs = xs := by
  have := fold_names [] h
  simpa [namesS] using this
theorem long_none {xs : List Str} (h : IsPath xs) : xs.any long = false := by
  rw [List.any_eq_false]
  intro x hx
  have := (name_facts (h x hx)).2.2.2.1
  simp [long]; omega
theorem ok_name {x : Str} (h : isNameS x = true) : x.all okByte = true := by
  rw [List.all_eq_true]
  intro c hc
  unfold okByte
  rw [List.all_eq_true.1 (name_facts h).2.2.2.2 c hc]; rfl
theorem pieces_tail {r : List Str} (h : IsPath r) (x : Str) (hx : ∀ c ∈ x, c ≠ 47) : piecesS (x ++ Lib.joinTail [47] r) = x :: r := by
  induction r generalizing x with
  | nil => simp [Lib.joinTail, pieces_plain x hx]
  | cons y r ih =>
    have e : Lib.joinTail [47] (y :: r) = 47 :: (y ++ Lib.joinTail [47] r) := by simp [Lib.joinTail]
    rw [e, pieces_stroke _ _ hx, ih (fun z hz => h z (by simp [hz])) y (name_no (h y (by simp)))]
theorem show_ok {xs : List Str} (h : IsPath xs) : (showS xs).all okByte = true := by
  rw [← showR_eq]
  unfold showR
  split
  · decide
  · rw [List.all_flatten]
    rw [List.all_map, List.all_eq_true]
    intro x hx
    simp only [Function.comp, List.all_cons, ok_name (h x hx), Bool.and_true]
    decide
theorem show_len (xs : List Str) : (showS xs).length ≤ Lib.lens xs + xs.length + 1 := by
  unfold showS
  have := join_le xs
  simp; omega
theorem text_of {l : Str} (h : (47 :: l).all okByte = true) : isTextS (47 :: l) = true := by
  have e : isTextS (47 :: l) = (((47 : UInt8) == 47) && (47 :: l).all okByte) := rfl
  rw [e, h]; rfl
/-- what a text means, by its pieces -/
theorem parse_of {l : Str} {ps xs : List Str} (hl : (47 :: l).length ≤ 256) (hok : (47 :: l).all okByte = true) (hp : piecesS l = ps) (hlong : ps.any long = false) (hn : namesS ps = xs) : parseS (47 :: l) = if 8 < xs.length then ([], 42) else (xs, 0) := by
  unfold parseS
  rw [if_neg (by omega), if_neg (by rw [text_of hok]; simp)]
  simp only [List.drop_succ_cons, List.drop_zero]
  rw [hp, if_neg (by rw [hlong]; simp), hn]
theorem parse_show {xs : List Str} (h : IsPath xs) (hl : (showS xs).length ≤ 256) : parseS (showS xs) = if 8 < xs.length then ([], 42) else (xs, 0) := by
  have hok := show_ok h
  cases xs with
  | nil => decide +kernel
  | cons x r =>
    have hp : piecesS (Lib.join (x :: r) [47]) = x :: r := by
      rw [Lib.join_cons]; exact pieces_tail (fun z hz => h z (by simp [hz])) x (name_no (h x (by simp)))
    exact parse_of hl hok hp (long_none h) (names_self h)
theorem pieces_mem {x : Str} {q : UInt8 → Bool} (h : x.all q = true) : ∀ p ∈ piecesS x, p.all (fun c => q c && !(c == 47)) = true := by
  induction x with
  | nil => intro p hp; simp [piecesS] at hp; subst hp; rfl
  | cons c r ih =>
    rw [List.all_cons, Bool.and_eq_true] at h
    intro p hp
    unfold piecesS at hp
    by_cases hc : c = 47
    · rw [if_pos hc] at hp
      rcases List.mem_cons.1 hp with rfl | hp
      · rfl
      · exact ih h.2 p hp
    · rw [if_neg hc] at hp
      cases hq : piecesS r with
      | nil =>
        rw [hq] at hp
        simp at hp; subst hp
        simp [h.1, hc]
      | cons p0 ps =>
        rw [hq] at hp
        rcases List.mem_cons.1 hp with rfl | hp
        · rw [List.all_cons, ih h.2 p0 (by rw [hq]; simp), h.1]; simp [hc]
        · exact ih h.2 p (by rw [hq]; simp [hp])
theorem step_path {xs : List Str} {p : Str} (h : IsPath xs) (hp : p.all plain = true) (hl : p.length ≤ 16) : IsPath (stepS xs p) := by
  unfold stepS
  split
  · exact h
  · rename_i h1
    split
    · intro x hx; exact h x (List.dropLast_subset xs hx)
    · rename_i h2
      intro x hx
      rcases List.mem_append.1 hx with hx | hx
      · exact h x hx
      · simp at hx; subst hx
        exact name_of (fun e => h1 (.inl e)) (fun e => h1 (.inr e)) h2 hl hp
theorem names_path {ps : List Str} (h1 : ∀ p ∈ ps, p.all plain = true) (h2 : ps.any long = false) : IsPath (namesS ps) := by
  have : ∀ (qs acc : List Str), (∀ p ∈ qs, p.all plain = true) → qs.any long = false → IsPath acc → IsPath (qs.foldl stepS acc) := by
    intro qs
    induction qs with
    | nil => intro acc _ _ h; exact h
    | cons q r ih =>
      intro acc g1 g2 h
      rw [List.any_cons, Bool.or_eq_false_iff] at g2
      refine ih _ (fun p hp => g1 p (by simp [hp])) g2.2 (step_path h (g1 q (by simp)) ?_)
      have := g2.1
      simp [long] at this
      exact this
  exact this ps [] h1 h2 (fun x hx => by cases hx)
/-- what Parse answers is a path. -/
theorem parse_path_ok (s : Str) : IsPath (parseS s).1 ∧ (parseS s).1.length ≤ 8 := by
  have hnil : IsPath [] := fun x hx => by cases hx
  unfold parseS
  split
  · exact ⟨hnil, by simp⟩
  · split
    · exact ⟨hnil, by simp⟩
    · rename_i ht
      split
      · exact ⟨hnil, by simp⟩
      · rename_i hlong
        split
        · exact ⟨hnil, by simp⟩
        · rename_i h8
          refine ⟨names_path ?_ (by simpa using hlong), by simp only; omega⟩
          cases s with
          | nil => exact absurd rfl ht
          | cons c r =>
            have e : isTextS (c :: r) = ((c == 47) && (c :: r).all okByte) := rfl
            rw [e] at ht
            have hall : r.all okByte = true := by
              cases hq : r.all okByte
              · rw [List.all_cons, hq] at ht; simp at ht
              · rfl
            intro p hp
            have := pieces_mem hall p (by simpa using hp)
            rw [List.all_eq_true] at this ⊢
            intro d hd
            have hd2 := this d hd
            unfold okByte at hd2
            simp at hd2
            rcases hd2 with ⟨h1 | h1, h2⟩
            · exact h1
            · exact absurd h1 h2
end Go.Proofs.YtngehkmdanhgpaaGreat.Vp
namespace Go.Proofs.YtngehkmdanhgpaaGreat.Pl
open Go.RowKit
open Go.ChangeMaps (setBlock heap_setBlock_same heap_setBlock_other)
open Vp (Str B bl Val cmpL parseS showS splitS withinS IsPath)
open Nd (Row)
theorem hid_in {p : Prop} (h : p) : Hid p := h
/-- what is asked of a kind of key -/
structure KeyOf {α : Type} (kt : TypeId) (kv : α → Value) (G : α → Prop) : Prop where
  inj : ∀ {a b : α}, kv a = kv b → a = b
  check : ∀ (em : Bool) (d : α), G d → ∀ w, (Instr.checkKey em 10000 kt (kv d)).run Tryz.prog w = .ok () w
  find : ∀ (d : α), G d → ∀ (w : World) (es : List MapEntry), (∀ e ∈ es, ∃ d : α, G d ∧ e.key = kv d) →
    ((Instr.findKey kt (kv d) es).run Tryz.prog w = .ok none w ∧ ∀ e ∈ es, e.key ≠ kv d) ∨
    ∃ j e, (Instr.findKey kt (kv d) es).run Tryz.prog w = .ok (some (j, e.val)) w ∧ es[j]? = some e ∧ e.key = kv d
  stays : ∀ (d : α), G d → ∀ w, (Instr.keyThatStays (kv d) (kv d)).run Tryz.prog w = .ok (kv d) w
/-- a text as a key -/
theorem now_str (d : ByteArray) : ∀ (es : List MapEntry) (i : Nat), (∀ e ∈ es, ∃ x : ByteArray, True ∧ e.key = .string x) →
    (Instr.findNow .string (.string d) es i = some none ∧ ∀ e ∈ es, e.key ≠ .string d) ∨
    ∃ j e, Instr.findNow .string (.string d) es i = some (some (i + j, e.val)) ∧ es[j]? = some e ∧ e.key = .string d
  | [], i, _ => .inl ⟨rfl, by simp⟩
  | e :: es, i, h => by
    obtain ⟨x, -, hk⟩ := h e (by simp)
    by_cases hc : d = x
    · refine .inr ⟨0, e, ?_, by simp, by rw [hk, hc]⟩
      have hb : (d == x) = true := (MapKept.bytes_beq d x).2 hc
      simp only [Instr.findNow, hk, Instr.sameNow, hb, Nat.add_zero]
    · have hstep : Instr.findNow .string (.string d) (e :: es) i = Instr.findNow .string (.string d) es (i + 1) := by
        have hb : (d == x) = false := by
          rw [Bool.eq_false_iff]
          exact fun hh => hc ((MapKept.bytes_beq d x).1 hh)
        simp only [Instr.findNow, hk, Instr.sameNow, hb]
      rw [hstep]
      rcases now_str d es (i + 1) (fun y hy => h y (by simp [hy])) with ⟨h1, h2⟩ | ⟨j, e2, h1, h2, h3⟩
      · refine .inl ⟨h1, fun y hy => ?_⟩
        rcases List.mem_cons.1 hy with rfl | hy
        · rw [hk]; exact fun hh => hc (by injection hh with hh; exact hh.symm)
        · exact h2 y hy
      · exact .inr ⟨j + 1, e2, by rw [h1, show i + 1 + j = i + (j + 1) by omega], by simpa using h2, h3⟩
theorem keyText : KeyOf 9 Value.string (fun _ => True) where
  inj h := by injection h
  check em d _ w := by
    have h : ∀ n : Nat, (Instr.checkKey em (n + 1) 9 (.string d)).run Tryz.prog w = .ok () w := by
      intro n
      simp only [Instr.checkKey, Sem.run_bind, run_underlying Tryz.underlying9, Result.andThen_ok, Sem.run_pure]
    exact h 9999
  find d _ w es h := by
    have hs : ∀ r, Instr.findNow .string (.string d) es 0 = some r → (Instr.findKey 9 (.string d) es).run Tryz.prog w = .ok r w := by
      intro r hr
      simp only [Instr.findKey, Sem.run_bind, run_underlying Tryz.underlying9, Result.andThen_ok, hr, Sem.run_pure]
    rcases now_str d es 0 h with ⟨h1, h2⟩ | ⟨j, e, h1, h2, h3⟩
    · exact .inl ⟨hs _ h1, h2⟩
    · exact .inr ⟨j, e, hs _ (by rw [h1, Nat.zero_add]), h2, h3⟩
  stays d _ w := by
    have h : Instr.sameBits 10000 (.string d) (.string d) = true := by
      show Instr.sameBits (9999 + 1) (.string d) (.string d) = true
      simp only [Instr.sameBits]
      exact (MapKept.bytes_beq d d).2 rfl
    simp only [Instr.keyThatStays, h, if_true, Sem.run_pure]
/-- a path in memory: the value of its names, its names, its text, whether it is a directory, its data -/
structure Spot where
  v : Value
  names : List Str
  path : ByteArray
  dir : Bool
  data : ByteArray
def Spot.cells (s : Spot) : List Value := [s.v, .string s.path, .bool s.dir, .string s.data]
def Spot.val (s : Spot) : Value := .agg #[s.v, .string s.path, .bool s.dir, .string s.data]
/-- what is at a path -/
structure Ent where
  names : List Str
  dir : Bool
  data : ByteArray
  deriving DecidableEq
def Spot.ent (s : Spot) : Ent := ⟨s.names, s.dir, s.data⟩
/-- a path -/
def Gp (xs : List Str) : Prop := IsPath xs ∧ xs.length ≤ 8
theorem Gp.lens {xs : List Str} (h : Gp xs) : Lib.lens xs + xs.length ≤ 136 := by
  obtain ⟨h1, h2⟩ := h
  have : Lib.lens xs ≤ 16 * xs.length := by
    clear h2
    induction xs with
    | nil => simp [Lib.lens]
    | cons x r ih =>
      have := (Vp.name_facts (h1 x (by simp))).2.2.2.1
      have := ih (fun y hy => h1 y (by simp [hy]))
      simp only [Lib.lens, List.map_cons, List.sum_cons, List.length_cons] at *
      omega
  omega
theorem Gp.parse {xs : List Str} (h : Gp xs) : parseS (showS xs) = (xs, 0) := by
  have h1 := Vp.show_len xs
  have h2 := h.lens
  rw [Vp.parse_show h.1 (by omega), if_neg (by have := h.2; omega)]
theorem Gp.inj {xs ys : List Str} (h : Gp xs) (k : Gp ys) (e : showS xs = showS ys) : xs = ys := by
  have h1 := h.parse
  rw [e, k.parse] at h1
  exact (Prod.mk.inj h1).1.symm
theorem B_inj {x y : Str} (h : B x = B y) : x = y := by
  have := congrArg bl h
  simpa [B, bl] using this
theorem Gp.injB {xs ys : List Str} (h : Gp xs) (k : Gp ys) (e : B (showS xs) = B (showS ys)) : xs = ys := h.inj k (B_inj e)
theorem Gp.nil : Gp [] := ⟨fun x hx => by simp at hx, by simp⟩
theorem Gp.take {xs : List Str} (h : Gp xs) (i : Nat) : Gp (xs.take i) := ⟨fun x hx => h.1 x (List.mem_of_mem_take hx), by have := h.2; simp; omega⟩
theorem Gp.dropLast {xs : List Str} (h : Gp xs) : Gp xs.dropLast := ⟨fun x hx => h.1 x (List.dropLast_subset xs hx), by have := h.2; simp; omega⟩
theorem gp_parse (s : Str) : Gp (parseS s).1 := Vp.parse_path_ok s
/-- names stay where rows of names stay -/
theorem nm_kept {w w' : World} {v : Value} {xs : List Str} (h : Rf.Nm w v xs) (hk : ∀ (b : Nat) (cs : Array Value) (fr : Nat × Nat), w.heap[b]? = some (.cells cs 9 fr) → w'.heap[b]? = some (.cells cs 9 fr)) : Rf.Nm w' v xs := by
  refine ⟨h.1, ?_⟩
  rcases h.2 with h | ⟨g', cap, cur, h1, h2, h3, h4⟩
  · exact .inl h
  · exact .inr ⟨g', cap, cur, h1, h2, hk _ _ _ h3, h4⟩
/-- block m is the map of these paths -/
structure MapP (w : World) (m : Nat) (L : List Spot) : Prop where
  ex : ∃ es clock, w.heap[m]? = some (.map es clock) ∧ es.toList.map (fun e => (e.key, e.val)) = L.map (fun s => (Value.string s.path, s.val)) ∧ (∀ e ∈ es.toList, e.born < clock) ∧ (es.toList.map (·.born)).Nodup
  good : ∀ s ∈ L, s.path = B (showS s.names) ∧ Gp s.names
  nms : ∀ s ∈ L, Rf.Nm w s.v s.names
  one : (L.map (·.names)).Nodup
theorem MapP.lt {w : World} {m : Nat} {L : List Spot} (h : MapP w m L) : m < w.heap.size := by
  obtain ⟨es, clock, hb, _⟩ := h.ex
  exact (Array.getElem?_eq_some_iff.1 hb).1
/-- a file system of layer 11: block g leads to the map m -/
structure Fs (w : World) (g m : Nat) (L : List Spot) : Prop where
  row : Row w g [.map (some m)] 60
  map : MapP w m L
theorem Fs.ne {w : World} {g m : Nat} {L : List Spot} (h : Fs w g m L) : g ≠ m := by
  rintro rfl
  obtain ⟨es, clock, hb, _⟩ := h.map.ex
  have := h.row
  unfold Row at this
  rw [hb] at this
  cases this
/-- it stays where no old block is turned -/
theorem MapP.grown {w w' : World} {m : Nat} {L : List Spot} {row : Option Nat} (h : MapP w m L) (hg : w.grownBy w' row) (hr : ∀ k, row = some k → k ≠ m ∧ ∀ cs fr, w.heap[k]? ≠ some (.cells cs 9 fr)) : MapP w' m L := by
  obtain ⟨es, clock, hb, h1⟩ := h.ex
  refine ⟨⟨es, clock, ?_, h1⟩, h.good, fun s hs => nm_kept (h.nms s hs) fun b cs fr e => ?_, h.one⟩
  · rw [hg.block m h.lt (fun e => (hr m e.symm).1 rfl), hb]
  · rw [hg.block b (Array.getElem?_eq_some_iff.1 e).1 (fun e2 => (hr b e2.symm).2 cs fr e)]
    exact e
theorem grown_of_below {w w' : World} (h : Below w.heap.size w w') : w.grownBy w' none := ⟨h.os, h.tape, h.output, h.size, fun k hk _ => h.block k hk⟩
theorem Fs.grown {w w' : World} {g m : Nat} {L : List Spot} {row : Option Nat} (h : Fs w g m L) (hg : w.grownBy w' row) (hr : ∀ k, row = some k → k ≠ m ∧ k ≠ g ∧ ∀ cs fr, w.heap[k]? ≠ some (.cells cs 9 fr)) : Fs w' g m L :=
  ⟨h.row.grown hg (fun e => (hr g e.symm).2.1 rfl), h.map.grown hg (fun k e => ⟨(hr k e).1, (hr k e).2.2⟩)⟩
/-- a cell is written in a row that holds no names -/
theorem Fs.set {w : World} {g m b : Nat} {L : List Spot} {vs : List Value} {t : TypeId} (h : Fs w g m L) (hr : Row w b vs t) (h9 : t ≠ 9) (hg : b ≠ g) (j : Nat) (v : Value) : Fs (w.setCell ⟨b, j, none⟩ v) g m L := by
  refine h.grown (Nd.grownBy_setCell w ⟨b, j, none⟩ v) fun k e => ?_
  obtain rfl := Option.some.inj e
  refine ⟨?_, hg, fun cs fr e2 => ?_⟩
  · rintro rfl
    obtain ⟨es, clock, hb, _⟩ := h.map.ex
    unfold Row at hr
    rw [hb] at hr
    cases hr
  · unfold Row at hr
    rw [hr] at e2
    cases e2
    exact h9 rfl
theorem Fs.below {w w' : World} {g m : Nat} {L : List Spot} (h : Fs w g m L) (hb : Below w.heap.size w w') : Fs w' g m L := h.grown (grown_of_below hb) (fun k e => by cases e)
/-- the place of a path -/
def spotAt (L : List Spot) (xs : List Str) : Option Spot := L.find? (fun s => decide (s.names = xs))
def entAt (A : List Ent) (xs : List Str) : Option Ent := A.find? (fun e => decide (e.names = xs))
theorem spotAt_ent (L : List Spot) (xs : List Str) : (spotAt L xs).map Spot.ent = entAt (L.map Spot.ent) xs := by
  unfold spotAt entAt
  rw [List.find?_map]
  rfl
theorem names_at {L : List Spot} (h : (L.map (·.names)).Nodup) {i j : Nat} {a b : Spot} (hi : L[i]? = some a) (hj : L[j]? = some b) (e : a.names = b.names) : i = j := by
  have h1 := List.pairwise_iff_getElem.1 h
  obtain ⟨hil, rfl⟩ := List.getElem?_eq_some_iff.1 hi
  obtain ⟨hjl, rfl⟩ := List.getElem?_eq_some_iff.1 hj
  rcases Nat.lt_trichotomy i j with h7 | h7 | h7
  · exact absurd (by rw [List.getElem_map, List.getElem_map]; exact e) (h1 i j (by simpa using hil) (by simpa using hjl) h7)
  · exact h7
  · exact absurd (by rw [List.getElem_map, List.getElem_map]; exact e.symm) (h1 j i (by simpa using hjl) (by simpa using hil) h7)
/-- a path is looked for -/
theorem MapP.find {w : World} {m : Nat} {L : List Spot} (h : MapP w m L) {es : Array MapEntry} (he : es.toList.map (fun e => (e.key, e.val)) = L.map (fun s => (Value.string s.path, s.val))) (xs : List Str) (hx : Gp xs) :
    ((Instr.findKey 9 (.string (B (showS xs))) es.toList).run Tryz.prog w = .ok none w ∧ spotAt L xs = none) ∨
    ∃ j s e, (Instr.findKey 9 (.string (B (showS xs))) es.toList).run Tryz.prog w = .ok (some (j, s.val)) w ∧ es.toList[j]? = some e ∧ e.key = .string (B (showS xs)) ∧ e.val = s.val ∧ L[j]? = some s ∧ spotAt L xs = some s ∧ s.names = xs := by
  have hkey : ∀ e ∈ es.toList, ∃ d : ByteArray, True ∧ e.key = .string d := by
    intro e hm
    have : (e.key, e.val) ∈ L.map (fun s => (Value.string s.path, s.val)) := by rw [← he]; exact List.mem_map.2 ⟨e, hm, rfl⟩
    obtain ⟨s, _, hs⟩ := List.mem_map.1 this
    exact ⟨s.path, trivial, (Prod.mk.inj hs).1.symm⟩
  have hat : ∀ (j : Nat) (e : MapEntry), es.toList[j]? = some e → ∃ s, L[j]? = some s ∧ e.key = .string s.path ∧ e.val = s.val := by
    intro j e hj
    have := congrArg (fun l => l[j]?) he
    simp only [List.getElem?_map, hj, Option.map_some] at this
    cases hL : L[j]? with
    | none => rw [hL] at this; cases this
    | some s =>
      rw [hL] at this
      simp only [Option.map_some, Option.some.injEq, Prod.mk.injEq] at this
      exact ⟨s, rfl, this.1, this.2⟩
  rcases keyText.find (B (showS xs)) trivial w es.toList hkey with ⟨h1, h2⟩ | ⟨j, e, h1, h2, h3⟩
  · refine .inl ⟨h1, ?_⟩
    unfold spotAt
    rw [List.find?_eq_none]
    intro s hs hn
    obtain ⟨i, hi⟩ := List.getElem?_of_mem hs
    have hil : i < es.toList.length := by
      have := congrArg List.length he
      simp only [List.length_map] at this
      rw [this]
      exact (List.getElem?_eq_some_iff.1 hi).1
    obtain ⟨s2, e1, e2, _⟩ := hat i _ (List.getElem?_eq_getElem hil)
    rw [hi] at e1
    obtain rfl := Option.some.inj e1
    refine h2 _ (List.getElem_mem hil) ?_
    rw [e2, (h.good s hs).1, of_decide_eq_true hn]
  · obtain ⟨s, e1, e2, e3⟩ := hat j e h2
    have hs := List.mem_of_getElem? e1
    have hn : s.names = xs := by
      refine (h.good s hs).2.injB hx ?_
      rw [← (h.good s hs).1]
      rw [e2] at h3
      injection h3
    refine .inr ⟨j, s, e, by rw [h1, e3], h2, h3, e3, e1, ?_, hn⟩
    unfold spotAt
    cases hf : L.find? (fun s => decide (s.names = xs)) with
    | none => exact absurd (decide_eq_true hn) (List.find?_eq_none.1 hf s hs)
    | some s2 =>
      have h5 := List.mem_of_find?_eq_some hf
      have h6 : s2.names = xs := by simpa using List.find?_some hf
      obtain ⟨i, hi⟩ := List.getElem?_of_mem h5
      have hij : i = j := names_at h.one hi e1 (by rw [h6, hn])
      subst hij
      rw [hi] at e1
      exact e1
/-- a spot of nothing -/
def Spot.zero : Spot := ⟨.slice none 0 0, [], ⟨#[]⟩, false, ⟨#[]⟩⟩
theorem Fs.look2 {w : World} {m : Nat} {L : List Spot} (h : MapP w m L) (xs : List Str) (hx : Gp xs) :
    (Instr.lookup 58 (.map (some m)) (.string (B (showS xs))) true).run Tryz.prog w = .ok (.tuple #[((spotAt L xs).getD Spot.zero).val, .bool (spotAt L xs).isSome]) w := by
  obtain ⟨es, clock, hb, he, _⟩ := h.ex
  have ht : Tryz.prog.underlying 58 = some (.map 9 63) := Tryz.underlying58
  rcases h.find he xs hx with ⟨h1, h2⟩ | ⟨j, s, e, h1, _, _, _, _, h2, _⟩
  · simp [Instr.lookup, run_underlying ht, MapKept.run_getObj_map hb, keyText.check _ (B (showS xs)) trivial, h1, h2, Result.andThen]
    try rfl
  · simp [Instr.lookup, run_underlying ht, MapKept.run_getObj_map hb, keyText.check _ (B (showS xs)) trivial, h1, h2, Result.andThen]
theorem Fs.look1 {w : World} {m : Nat} {L : List Spot} (h : MapP w m L) (xs : List Str) (hx : Gp xs) :
    (Instr.lookup 58 (.map (some m)) (.string (B (showS xs))) false).run Tryz.prog w = .ok ((spotAt L xs).getD Spot.zero).val w := by
  obtain ⟨es, clock, hb, he, _⟩ := h.ex
  have ht : Tryz.prog.underlying 58 = some (.map 9 63) := Tryz.underlying58
  rcases h.find he xs hx with ⟨h1, h2⟩ | ⟨j, s, e, h1, _, _, _, _, h2, _⟩
  · simp [Instr.lookup, run_underlying ht, MapKept.run_getObj_map hb, keyText.check _ (B (showS xs)) trivial, h1, h2, Result.andThen]
    try rfl
  · simp [Instr.lookup, run_underlying ht, MapKept.run_getObj_map hb, keyText.check _ (B (showS xs)) trivial, h1, h2, Result.andThen]
end Go.Proofs.YtngehkmdanhgpaaGreat.Pl
