/-
  What a node reads as; the walk of node.read. The walk of node.Decode. Fields that are written; the walks of writeParts and writeItems. The walk of node.Encode. A node's bytes mean it alone: what is written is read as it was, and what is read was written so. Slices of one element; rows of elements of the call's own. The walks of the reference's Num, Int, Text and Flag.
-/
import Derived.Laws.Tables
import Derived.Laws.CopyOwn
import Derived.Deep.RegionLaw
import Derived.Deep.DrawnRows
import Derived.OwnWalk
import Derived.Laws.StructEq
import Derived.Test.YtjjofjnhhajjjaaB00
import Derived.Test.YtjjofjnhhajjjaaB01
import Derived.Test.YtjjofjnhhajjjaaB02
import Derived.Test.YtjjofjnhhajjjaaB03
import Derived.Test.YtjjofjnhhajjjaaB04
namespace Go.Proofs.Ytjjofjnhhajjjaa.Nd
open Go.RowKit
def okS (s : Sta) : Prop := ∀ x ∈ s.1, x < 256
/-- what is read as a node, right or not -/
def rd (s : Sta) : Nd × Sta :=
  let a := sNum s
  let k := cutN 3 a.1
  if k = 1 then (⟨1, str (sText 64 a.2).1, 0, [], []⟩, (sText 64 a.2).2)
  else if k = 2 then
    let b := sNum a.2
    let z := cutN 1024 b.1
    (⟨2, ByteArray.empty, z, (sParts (pieces z) b.2).1, []⟩, (sParts (pieces z) b.2).2)
  else if k = 3 then
    let b := sNum a.2
    let z := cutN 64 b.1
    (⟨3, ByteArray.empty, 0, [], (sItems (cutN 3) z b.2).1⟩, (sItems (cutN 3) z b.2).2)
  else (⟨k, ByteArray.empty, 0, [], []⟩, a.2)
theorem In.ok {B : Nat} {w : World} {g : Nat} {s : Sta} (h : In B w g s) : okS s := InIs.lt h
theorem set5 {W : World} {Z : Nat} {t : TypeId} {a0 a1 a2 a3 a4 : Value} (h : Row W Z [a0, a1, a2, a3, a4] t) (b0 b1 b2 b3 b4 : Value) :
    Row (((((W.setCell ⟨Z, 0, none⟩ b0).setCell ⟨Z, 1, none⟩ b1).setCell ⟨Z, 2, none⟩ b2).setCell ⟨Z, 3, none⟩ b3).setCell ⟨Z, 4, none⟩ b4) Z [b0, b1, b2, b3, b4] t ∧ W.grownBy (((((W.setCell ⟨Z, 0, none⟩ b0).setCell ⟨Z, 1, none⟩ b1).setCell ⟨Z, 2, none⟩ b2).setCell ⟨Z, 3, none⟩ b3).setCell ⟨Z, 4, none⟩ b4) (some Z) :=
  ⟨((((h.set_same 0 b0).set_same 1 b1).set_same 2 b2).set_same 3 b3).set_same 4 b4,
    grownBy_trans (grownBy_trans (grownBy_trans (grownBy_trans (grownBy_setCell W ⟨Z, 0, none⟩ b0) (grownBy_setCell _ ⟨Z, 1, none⟩ b1)) (grownBy_setCell _ ⟨Z, 2, none⟩ b2)) (grownBy_setCell _ ⟨Z, 3, none⟩ b3)) (grownBy_setCell _ ⟨Z, 4, none⟩ b4)⟩
/-- the slices of a node lie in blocks from lo on -/
def Fresh (lo : Nat) (v : Value) : Prop := ∀ k d s vp vi, v = .agg #[.int .i64 k, .string d, .int .i64 s, vp, vi] → (∀ q, Value.ownBlock vp = some q → lo ≤ q) ∧ ∀ q, Value.ownBlock vi = some q → lo ≤ q
theorem Fresh.mono {lo lo' : Nat} {v : Value} (h : Fresh lo v) (hl : lo' ≤ lo) : Fresh lo' v := fun k d s vp vi e => ⟨fun q hq => Nat.le_trans hl ((h k d s vp vi e).1 q hq), fun q hq => Nat.le_trans hl ((h k d s vp vi e).2 q hq)⟩
theorem IsN.grown {w w' : World} {v : Value} {n : Nd} {lo z : Nat} (h : IsN w v n) (hg : w.grownBy w' (some z)) (hf : Fresh lo v) (hz : z < lo) : IsN w' v n := by
  obtain ⟨vp, vi, e, hp, hi⟩ := h.ex
  obtain ⟨f1, f2⟩ := hf _ _ _ _ _ e
  exact ⟨⟨vp, vi, e, hp.grown hg (fun q hq => by have := f1 q hq; omega), hi.grown hg (fun q hq => by have := f2 q hq; omega)⟩, h.ok⟩
theorem In.grown {B : Nat} {w w' : World} {g k : Nat} {s : Sta} (h : In B w g s) (hg : w.grownBy w' (some k)) (hk : B ≤ k) (hgk : g ≠ k) : In B w' g s := ((InIs.toB h).grown hg hk hgk).is
theorem rd_1 {s : Sta} (h : cutN 3 (sNum s).1 = 1) : rd s = (⟨1, str (sText 64 (sNum s).2).1, 0, [], []⟩, (sText 64 (sNum s).2).2) := by simp [rd, h]
theorem rd_2 {s : Sta} (h : cutN 3 (sNum s).1 = 2) {z : Nat} (hz : cutN 1024 (sNum (sNum s).2).1 = z) : rd s = (⟨2, ByteArray.empty, z, (sParts (pieces z) (sNum (sNum s).2).2).1, []⟩, (sParts (pieces z) (sNum (sNum s).2).2).2) := by subst hz; simp [rd, h]
theorem rd_3 {s : Sta} (h : cutN 3 (sNum s).1 = 3) {z : Nat} (hz : cutN 64 (sNum (sNum s).2).1 = z) : rd s = (⟨3, ByteArray.empty, 0, [], (sItems (cutN 3) z (sNum (sNum s).2).2).1⟩, (sItems (cutN 3) z (sNum (sNum s).2).2).2) := by subst hz; simp [rd, h]
end Go.Proofs.Ytjjofjnhhajjjaa.Nd
namespace Go.Proofs.Ytjjofjnhhajjjaa.Nd
open Go.RowKit
theorem IsN.form {w : World} {v : Value} {n : Nd} (h : IsN w v n) : ∃ pp cp pi ci, v = .agg #[.int .i64 n.kind, .string n.data, .int .i64 n.size, .slice pp n.parts.length cp, .slice pi n.items.length ci] := by
  obtain ⟨vp, vi, rfl, hp, hi⟩ := h.ex
  obtain ⟨pp, cp, _, _, rfl, _⟩ := hp.ex
  obtain ⟨pi, ci, _, _, rfl, _⟩ := hi.ex
  exact ⟨pp, cp, pi, ci, by simp⟩
theorem str_size (l : List Nat) : (str l).size = l.length := by
  show (str l).data.size = l.length
  simp [str]
theorem post_Row2 {P : Program} {fn : Func} {R : Ending → World → Prop} {a : Act} {w : World} (p u : Tmp) (ty : TypeId) (hf : fn.results = #[.cell p ty, .tmp u]) (g : Nat) (hp : a.tmps.getD p undef = .pointer (some ⟨g, 0, none⟩))
    (t : TypeId) (vs : List Value) (hr : Row w g vs t) (d : TypeDesc) (hu : P.underlying ty = some d) (hd : (match d with | .struct _ | .array _ _ => true | _ => false) = true) (n : Nat) (hi : (P.info? ty).map (·.size) = some n) (hn : vs.length = n)
    (hdf : a.defers = []) (h : R (.returned (.tuple #[.agg vs.toArray, a.tmps.getD u undef])) w) : bodyPost P fn R .ret a w := by
  refine bodyPost_ret ?_ hdf h
  rw [results_cell_tmp hf, hp]
  have hl := run_loadVar_row (P := P) w g t ty vs.toArray (0, 0) d hr hu hd (by rw [hi]; simp [hn])
  simp [asAddr, hl]
end Go.Proofs.Ytjjofjnhhajjjaa.Nd
namespace Go.Proofs.Ytjjofjnhhajjjaa.Nd
open Go.RowKit
theorem Els.own {w : World} {v : Value} {k : Nat} {xs : List (List Value)} (h : Els w v k xs) (hne : xs ≠ []) : ∀ q, v.ownBlock = some q → q < w.heap.size := by
  obtain ⟨p, cap, b, o, rfl, _, _, h3, _⟩ := h.ex
  obtain ⟨rfl, hb⟩ := h3 hne
  intro q hq
  cases hq
  exact hb
/-- the Out at block g has made the bytes xs, in blocks from B on -/
def OutB (w : World) (B g : Nat) (xs : List Nat) : Prop := ∃ v, OutIs w B g v xs
theorem OutB.below {w w' : World} {B g : Nat} {xs : List Nat} (h : OutB w B g xs) (hb : Below w.heap.size w w') : OutB w' B g xs := by
  obtain ⟨v, hv⟩ := h
  exact ⟨v, hv.below hb⟩
theorem OutB.base {w : World} {B g : Nat} {xs : List Nat} (h : OutB w B g xs) : B ≤ w.heap.size := by
  obtain ⟨v, hv⟩ := h
  exact hv.base
theorem out_below {w w' : World} {B g : Nat} {v : Value} {xs : List Nat} (hg : B ≤ g) (ho : OutIs w B g v xs) (h : Grew w w' (OutS g v)) : Below B w w' :=
  h.below (Below.refl _ _) ho.base (outS_ge ho hg)
theorem num_o (w : World) (B g : Nat) (xs : List Nat) (n : Nat) (hn : n < 18446744073709551616) (hg : B ≤ g) (ho : OutB w B g xs) (hl : xs.length + 10 ≤ 140737488355328) :
    Calls Try.prog 88 #[.pointer (some ⟨g, 0, none⟩), .int .u64 (n : Int)] w fun e w' => e = .returned (.tuple #[]) ∧ OutB w' B g (xs ++ Wire.num n) ∧ Below B w w' := by
  obtain ⟨v, hv⟩ := ho
  refine (onum_any w B g v xs n hn hv hl).mono ?_
  rintro e w' ⟨rfl, v', h1, h2, _⟩
  exact ⟨rfl, ⟨v', h1⟩, out_below hg hv h2⟩
theorem text_o (w : World) (B g : Nat) (xs : List Nat) (s : ByteArray) (hg : B ≤ g) (ho : OutB w B g xs) (hl : xs.length + 10 + s.size ≤ 140737488355328) :
    Calls Try.prog 76 #[.pointer (some ⟨g, 0, none⟩), .string s] w fun e w' => e = .returned (.tuple #[]) ∧ OutB w' B g (xs ++ (Wire.num s.size ++ bytesS s)) ∧ Below B w w' := by
  obtain ⟨v, hv⟩ := ho
  refine (otext_any w B g v xs s hv hl).mono ?_
  rintro e w' ⟨rfl, v', h1, h2, _⟩
  exact ⟨rfl, ⟨v', h1⟩, out_below hg hv h2⟩
/-- the same, apart from block I -/
def OutA (w : World) (B g : Nat) (xs : List Nat) (I : Nat) : Prop := ∃ v, OutIs w B g v xs ∧ v.ownBlock ≠ some I
theorem OutA.toB {w : World} {B g I : Nat} {xs : List Nat} (h : OutA w B g xs I) : OutB w B g xs := by
  obtain ⟨v, hv, _⟩ := h
  exact ⟨v, hv⟩
theorem OutA.below {w w' : World} {B g I : Nat} {xs : List Nat} (h : OutA w B g xs I) (hb : Below w.heap.size w w') : OutA w' B g xs I := by
  obtain ⟨v, hv, hn⟩ := h
  exact ⟨v, hv.below hb, hn⟩
theorem OutB.blk {w : World} {B g : Nat} {xs : List Nat} (h : OutB w B g xs) : g < w.heap.size := by
  obtain ⟨v, hv⟩ := h
  exact hv.row.lt
end Go.Proofs.Ytjjofjnhhajjjaa.Nd
namespace Go.Proofs.Ytjjofjnhhajjjaa.Nd
open Go.RowKit
theorem Els.keep {w w' : World} {v : Value} {k B : Nat} {xs : List (List Value)} (h : Els w v k xs) (hb : Below B w w') (hB : w.heap.size ≤ B) : Els w' v k xs := h.below (hb.mono hB)
theorem enc_1 {n : Nd} (h : n.kind = 1) : enc n = Wire.num 1 ++ (Wire.num n.data.size ++ bytesS n.data) := by simp [enc, h]
theorem enc_2 {n : Nd} (h : n.kind = 2) : enc n = Wire.num 2 ++ Wire.num n.size.toNat ++ n.parts.flatten := by simp [enc, h]
theorem enc_3 {n : Nd} (h : n.kind = 3) : enc n = Wire.num 3 ++ Wire.num n.items.length ++ n.items.flatMap It.bytes := by simp [enc, h]
theorem itemsOk_kind {l : List It} (h : itemsOk l) : ∀ x ∈ l, 0 ≤ x.kind ∧ x.name.size ≤ 16 := by
  intro x hx
  obtain ⟨i, hi, rfl⟩ := List.getElem_of_mem hx
  have h1 := (h.2 i hi _ (List.getElem?_eq_getElem hi)).1
  unfold itemOk at h1
  simp only [Bool.and_eq_true, Bool.or_eq_true, beq_iff_eq] at h1
  obtain ⟨h2, h3⟩ := h1
  unfold isNameS at h3
  simp only [Bool.and_eq_true, decide_eq_true_eq] at h3
  have h4 := h3.1.2
  rw [bl_length] at h4
  exact ⟨by rcases h2 with h | h <;> omega, h4⟩
end Go.Proofs.Ytjjofjnhhajjjaa.Nd
namespace Go.Proofs.Ytjjofjnhhajjjaa.Nd
open Go.RowKit
theorem bytesS_str {l : List Nat} (h : ∀ x ∈ l, x < 256) : bytesS (str l) = l := by
  unfold bytesS str
  simp only [List.map_map]
  conv => rhs; rw [← List.map_id l]
  apply List.map_congr_left
  intro x hx
  have := h x hx
  simp
  omega
theorem sNum_num (v : Nat) (r : List Nat) (h : v < 18446744073709551616) : sNum (Wire.num v ++ r, 0) = (v, (r, 0)) := by
  unfold sNum
  rw [if_pos rfl]
  exact rnum_num v r h
theorem sText_text (m : Nat) (S : ByteArray) (r : List Nat) (h : S.size ≤ m) (hm : m ≤ 9223372036854775807) : sText m (Wire.num S.size ++ bytesS S ++ r, 0) = (bytesS S, (r, 0)) := by
  unfold sText Wire.rtext
  rw [if_pos rfl]
  have e := rnum_num S.size (bytesS S ++ r) (by omega)
  rw [← List.append_assoc] at e
  simp only [e]
  rw [if_neg (by simp), if_neg (by simp; omega), if_neg (by simp [bytesS_length])]
  have hl := bytesS_length S
  simp [← hl]
theorem sDig_dig (d r : List Nat) (h : d.length = 32) : sDig (d ++ r, 0) = (d, (r, 0)) := by
  unfold sDig rdigest
  rw [if_pos rfl, if_neg (by simp; omega)]
  simp [← h]
theorem sParts_parts (ps : List (List Nat)) (h : ∀ d ∈ ps, Dg d) (r : List Nat) : ∀ c, c ≤ ps.length → sParts c (ps.flatten ++ r, 0) = (ps.take c, ((ps.drop c).flatten ++ r, 0)) := by
  intro c
  induction c with
  | zero => intro _; simp [sParts]
  | succ c ih =>
    intro hc
    have h1 := ih (by omega)
    have hd : ps.drop c = ps[c] :: ps.drop (c + 1) := List.drop_eq_getElem_cons (by omega)
    have h2 := sDig_dig ps[c] ((ps.drop (c + 1)).flatten ++ r) (h _ (List.getElem_mem _)).1
    simp only [sParts, h1, hd, List.flatten_cons, List.append_assoc, h2]
    rw [List.take_add_one, List.getElem?_eq_getElem (by omega)]
    rfl
theorem sItems_items (f : Nat → Nat) (hf2 : f 2 = 2) (hf3 : f 3 = 3) (l : List It) (h : ∀ x ∈ l, x.ok) (hk : ∀ x ∈ l, (x.kind = 2 ∨ x.kind = 3) ∧ x.name.size ≤ 16) (r : List Nat) : ∀ c, c ≤ l.length → sItems f c (l.flatMap It.bytes ++ r, 0) = (l.take c, ((l.drop c).flatMap It.bytes ++ r, 0)) := by
  intro c
  induction c with
  | zero => intro _; simp [sItems]
  | succ c ih =>
    intro hc
    have h1 := ih (by omega)
    have hd : l.drop c = l[c] :: l.drop (c + 1) := List.drop_eq_getElem_cons (by omega)
    have hm : l[c] ∈ l := List.getElem_mem _
    obtain ⟨hk1, hk2⟩ := hk _ hm
    have e1 := sText_text 16 l[c].name (Wire.num l[c].kind.toNat ++ (l[c].sum ++ ((l.drop (c + 1)).flatMap It.bytes ++ r))) hk2 (by decide)
    have e2 := sNum_num l[c].kind.toNat (l[c].sum ++ ((l.drop (c + 1)).flatMap It.bytes ++ r)) (by rcases hk1 with h | h <;> rw [h] <;> decide)
    have e3 := sDig_dig l[c].sum ((l.drop (c + 1)).flatMap It.bytes ++ r) (h _ hm).sum.1
    rw [List.append_assoc] at e1
    have e4 : ((f l[c].kind.toNat : Nat) : Int) = l[c].kind := by
      rcases hk1 with h | h
      · rw [h]; show ((f 2 : Nat) : Int) = 2; rw [hf2]; rfl
      · rw [h]; show ((f 3 : Nat) : Int) = 3; rw [hf3]; rfl
    simp only [sItems, sItem, h1, hd, List.flatMap_cons, It.bytes, List.append_assoc, e1, e2, e3, e4, str_bytesS]
    rw [List.take_add_one, List.getElem?_eq_getElem (by omega)]
    rfl
theorem itemsOk_kinds {l : List It} (h : itemsOk l) : ∀ x ∈ l, (x.kind = 2 ∨ x.kind = 3) ∧ x.name.size ≤ 16 := by
  intro x hx
  refine ⟨?_, (itemsOk_kind h x hx).2⟩
  obtain ⟨i, hi, rfl⟩ := List.getElem_of_mem hx
  have h1 := (h.2 i hi _ (List.getElem?_eq_getElem hi)).1
  unfold itemOk at h1
  simp only [Bool.and_eq_true, Bool.or_eq_true, beq_iff_eq] at h1
  exact h1.1
theorem empty_of {s : ByteArray} (h : s.size = 0) : s = ByteArray.empty := ByteArray.size_eq_zero_iff.1 h
/-- what is written is read as it was -/
theorem rd_enc {n : Nd} (hr : right n) (hok : n.ok) : rd (enc n, 0) = (n, ([], 0)) := by
  obtain ⟨kind, data, size, parts, items⟩ := n
  rcases hr with ⟨hk, hd1, hd2, hs, hp, hi⟩ | ⟨hk, hd, hs0, hs1, hp, hi⟩ | ⟨hk, hd, hs, hp, hi⟩
  · simp only at hk hd1 hd2 hs hp hi
    subst hk hs hp hi
    rw [enc_1 rfl]
    have e1 := sNum_num 1 (Wire.num data.size ++ bytesS data) (by decide)
    have e2 := sText_text 64 data [] hd2 (by decide)
    rw [List.append_nil] at e2
    rw [rd_1 (by rw [e1]; rfl), e1, e2, str_bytesS]
  · simp only at hk hd hs0 hs1 hp hi
    subst hk hi
    rw [enc_2 rfl, List.append_assoc]
    simp only
    have e1 := sNum_num 2 (Wire.num size.toNat ++ parts.flatten) (by decide)
    have e2 := sNum_num size.toNat parts.flatten (by omega)
    have hc : cutN 1024 size.toNat = size.toNat := by unfold cutN; omega
    have hz : ((size.toNat : Nat) : Int) = size := by omega
    have e3 := sParts_parts parts hok.parts [] parts.length (Nat.le_refl _)
    rw [List.append_nil] at e3
    rw [rd_2 (z := size.toNat) (by rw [e1]; rfl) (by rw [e1, e2]; exact hc), e1, e2, hz, ← hp, e3, empty_of hd]
    simp
  · simp only at hk hd hs hp hi
    subst hk hs hp
    rw [enc_3 rfl, List.append_assoc]
    simp only
    have hl := hi.1
    have e1 := sNum_num 3 (Wire.num items.length ++ items.flatMap It.bytes) (by decide)
    have e2 := sNum_num items.length (items.flatMap It.bytes) (by omega)
    have hc : cutN 64 items.length = items.length := by unfold cutN; omega
    have e3 := sItems_items (cutN 3) rfl rfl items hok.items (itemsOk_kinds hi) [] items.length (Nat.le_refl _)
    rw [List.append_nil] at e3
    rw [rd_3 (z := items.length) (by rw [e1]; rfl) (by rw [e1, e2]; exact hc), e1, e2, e3, empty_of hd]
    simp
/-- these bytes mean that node -/
def Means (bs : List Nat) (n : Nd) : Prop := right n ∧ n.ok ∧ enc n = bs
theorem Means.rd {bs : List Nat} {n : Nd} (h : Means bs n) : Go.Proofs.Ytjjofjnhhajjjaa.Nd.rd (bs, 0) = (n, ([], 0)) := by rw [← h.2.2]; exact rd_enc h.1 h.2.1
end Go.Proofs.Ytjjofjnhhajjjaa.Nd
namespace Go.Proofs.Ytjjofjnhhajjjaa.Nd
open Go.RowKit
theorem own_belowK {w w' : World} {B n k : Nat} {e : TypeId} {v : Value} {xs : List Value} (h : w.ownsRow B e k v n xs) (hb : Below w.heap.size w w') : w'.ownsRow B e k v n xs := by
  obtain ⟨h1, h2 | ⟨g, cap, cur, rfl, hB, hh, r⟩⟩ := h
  · exact ⟨h1, .inl h2⟩
  · refine ⟨h1, .inr ⟨g, cap, cur, rfl, hB, ?_, r⟩⟩
    have hlt : g < w.heap.size := (Array.getElem?_eq_some_iff.1 hh).1
    rw [hb.block g hlt]
    exact hh
theorem flatten_get {k : Nat} {xs : List (List Value)} (h : ∀ us ∈ xs, us.length = k) : ∀ (i : Nat) us, xs[i]? = some us → ∀ (y : Nat) u, us[y]? = some u → xs.flatten[i * k + y]? = some u := by
  induction xs with
  | nil => intro i us hi; simp at hi
  | cons x r ih =>
    intro i us hi y u hy
    have hx := h x (by simp)
    cases i with
    | zero =>
      simp at hi
      subst hi
      rw [List.flatten_cons, Nat.zero_mul, Nat.zero_add, List.getElem?_append_left (by exact (List.getElem?_eq_some_iff.1 hy).1)]
      exact hy
    | succ i =>
      rw [List.flatten_cons, List.getElem?_append_right (by rw [hx, Nat.add_mul]; omega), hx]
      have := ih (fun us hus => h us (by simp [hus])) i us (by simpa using hi) y u hy
      rw [show (i + 1) * k + y - k = i * k + y by rw [Nat.add_mul]; omega]
      exact this
end Go.Proofs.Ytjjofjnhhajjjaa.Nd
namespace Go.Proofs.Ytjjofjnhhajjjaa.Nd
open Go.RowKit
set_option maxHeartbeats 1000000 in
set_option maxRecDepth 100000 in
theorem rwnum_any (w : World) (n : Nat) (hn : n < 18446744073709551616) :
    Calls Try.prog 71 #[.int .u64 (n : Int)] w fun e w' => ∃ v, e = .returned v ∧ w'.ownsRow w.heap.size 5 1 v (Wire.num n).length ((Wire.num n).map u8v) ∧ Below w.heap.size w w' := by
  obtain ⟨i5i, HI5, HE1, HE2, HE3⟩ := i5h
  go_enter Try.func71, Try.ntmps71
  go_wp2_with fail
  go_loopw [0, 3] (fun u v w' => ∃ (k m : Nat) (pre : List Nat), u = .int .u64 (m : Int) ∧ m < 128 ^ (k + 1) ∧ m < 18446744073709551616 ∧ pre.length + (k + 1) ≤ 10 ∧ pre ++ Wire.numF k m = Wire.num n ∧ w'.ownsRow w.heap.size 5 1 v pre.length (pre.map u8v) ∧ Below w.heap.size w w' ∧ w.heap.size ≤ w'.heap.size) (fun u _ _ => (intOf u).toNat)
  case atStart => exact ⟨9, n, [], rfl, by omega, hn, by simp, rfl, World.ownsRow_nil _ _ _ _, Below.refl _ _, Nat.le_refl _⟩
  case round =>
    obtain ⟨k, m, pre, rfl, hm, hm64, hpl, hpre, hown, hbel, hsz⟩ := hrel
    have HP := hid_in hpre
    have HB := hid_in hbel
    have hfit : pre.length + 1 ≤ 140737488355328 := by omega
    clear hpre hbel
    by_cases h128 : 128 ≤ m
    · have hk0 : k ≠ 0 := by intro h; subst h; simp at hm; omega
      obtain ⟨k', rfl⟩ : ∃ k', k = k' + 1 := ⟨k - 1, by omega⟩
      have k1 : (128 : Int) ≤ (m : Int) := by omega
      have HM2 : Hid (m / 128 < 128 ^ (k' + 1)) := by show _ < _; rw [Nat.div_lt_iff_lt_mul (by decide)]; rw [Nat.pow_succ] at hm; exact hm
      clear hm hk0
      go_wp2_with (at_builtin; refine wpList_append_one rfl _ _ 54 rfl w.heap.size 5 i5i (.int .u8 0) Try.underlying54 HI5.out HE3.out HE1.out HE2.out rfl _ _ _ rfl hown 5 _ rfl rfl hfit hsz ?_; intro v1 w1 hown1 hb1 hs1; have HB1 := hid_in hb1; clear hb1)
      go_roundw
      case rel =>
        go_light
        have e0 : (m : Int) / 128 = ((m / 128 : Nat) : Int) := by simp
        have e1 : (m : Int) % 128 + 128 = ((m % 128 + 128 : Nat) : Int) := by omega
        rw [e0]
        rw [e1] at hown1
        refine ⟨k', m / 128, pre ++ [m % 128 + 128], rfl, HM2.out, by omega, by rw [List.length_append]; simp; omega, ?_, ?_, HB1.out _ HB.out, hs1⟩
        · rw [← HP.out, List.append_assoc]
          congr 1
          simp only [Wire.numF]
          rw [if_neg (by omega)]
          rfl
        · rw [List.length_append, List.map_append]; exact hown1
      case measure => simp [intOf]; omega
    · have k1 : (m : Int) < 128 := by omega
      have HN : Hid (Wire.numF k m = [m]) := by
        show _ = _
        rcases k with _ | k
        · rfl
        · simp only [Wire.numF]; rw [if_pos (by omega)]
      clear hm
      go_wp2_with (at_builtin; refine wpList_append_one rfl _ _ 54 rfl w.heap.size 5 i5i (.int .u8 0) Try.underlying54 HI5.out HE3.out HE1.out HE2.out rfl _ _ _ rfl hown 5 _ rfl rfl hfit hsz ?_; intro v1 w1 hown1 hb1 hs1; have HB1 := hid_in hb1; clear hb1)
      go_ret
      refine ⟨_, rfl, ?_, HB1.out _ HB.out⟩
      rw [← HP.out, HN.out, List.length_append, List.map_append]
      exact hown1
set_option maxHeartbeats 1000000 in
theorem rwtext_any (w : World) (s : ByteArray) (hl : 10 + s.size ≤ 140737488355328) :
    Calls Try.prog 46 #[.string s] w fun e w' => ∃ v, e = .returned v ∧ w'.ownsRow w.heap.size 5 1 v (Wire.num s.size ++ bytesS s).length ((Wire.num s.size ++ bytesS s).map u8v) ∧ Below w.heap.size w w' := by
  obtain ⟨i5i, HI5, HE1, HE2, HE3⟩ := i5h
  have hnum := rwnum_any w s.size (by omega)
  have ks : (s.size : Int) ≤ 140737488355328 := by omega
  have hnl := num_length s.size
  go_enter Try.func46, Try.ntmps46
  go_wp2_with fail
  refine hnum.mono ?_
  rintro e w1 ⟨v1, rfl, hown, hb⟩
  have HB := hid_in hb
  have hbase : w.heap.size ≤ w1.heap.size := hb.size
  have hfit : (Wire.num s.size).length + s.size ≤ 140737488355328 := by omega
  clear hnum hb
  go_wp2_with (at_builtin; refine wpList_append_string_at rfl _ _ 54 9 rfl w.heap.size 5 i5i Try.underlying54 Try.underlying9 HI5.out HE3.out HE1.out HE2.out _ _ _ rfl hown s rfl hfit hbase ?_; intro v2 w2 hown2 hg2 hm2; have HG2 : Hid (w1.grownBy w2 v1.ownBlock) := hg2; clear hm2)
  go_ret
  refine ⟨_, rfl, ?_, own_step HB.out HG2.out hbase rfl hown⟩
  rw [List.length_append, List.map_append, bytesS_length, ← strCells_bytes]
  exact hown2
end Go.Proofs.Ytjjofjnhhajjjaa.Nd
