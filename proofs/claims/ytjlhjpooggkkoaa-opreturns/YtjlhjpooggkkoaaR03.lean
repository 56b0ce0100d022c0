/-
  Fields that are read, by states: what is still to be read and what was wrong; node.number. What a node reads as; the walk of node.read. The walk of node.Decode. Fields that are written; the walks of writeParts and writeItems. The walk of node.Encode. A node's bytes mean it alone: what is written is read as it was, and what is read was written so. Digests and items that are compared. The walks of the reference's Items and Same. Slices of one element; rows of elements of the call's own. The reference's In, by states. The walks of the reference's Num, Int, Text and Flag.
-/
import Derived.Laws.CopyOwn
import Derived.Deep.RegionLaw
import Derived.Deep.DrawnRows
import Derived.OwnWalk
import Derived.Laws.Tables
import Derived.Laws.StructEq
import Derived.Test.YtjlhjpooggkkoaaR00
import Derived.Test.YtjlhjpooggkkoaaR01
import Derived.Test.YtjlhjpooggkkoaaR02
namespace Go.Proofs.Ytjlhjpooggkkoaa.Nd
open Go.RowKit
theorem InIs.lt {B : Nat} {w : World} {g e : Nat} {bs : List Nat} (h : InIs B w g bs e) : ∀ x ∈ bs, x < 256 := by
  obtain ⟨_, _, _, _, _, hsl, _⟩ := h.ex
  exact hsl.lt
theorem InIs.blk {B : Nat} {w : World} {g e : Nat} {bs : List Nat} (h : InIs B w g bs e) : g < w.heap.size := by
  obtain ⟨_, _, _, _, hr, _⟩ := h.ex
  exact hr.lt
/-- the In at block g is in state s -/
def In (B : Nat) (w : World) (g : Nat) (s : Sta) : Prop := InIs B w g s.1 s.2
theorem grew_of_grownS {w w' : World} {g : Nat} (h : w.grownBy w' (some g)) : Grew w w' (· = g) := (Grew.of_grown h).mono (fun q hq => by simpa using hq)
theorem num_s (w : World) (g B : Nat) (s : Sta) (hi : In B w g s) : Calls Try.prog 47 #[.pointer (some ⟨g, 0, none⟩)] w fun r w' => r = .returned (.int .u64 ((sNum s).1 : Int)) ∧ In B w' g (sNum s).2 ∧ Grew w w' (· = g) := by
  obtain ⟨bs, e⟩ := s
  unfold sNum
  split
  · rename_i h
    obtain rfl : e = 0 := h
    refine (inum_any w g bs hi.lt hi).mono ?_
    rintro r w' ⟨rfl, h1, h2, _⟩
    exact ⟨rfl, h1, grew_of_grownS h2⟩
  · rename_i h
    refine (inum_bad w g e bs h hi).mono ?_
    rintro r w' ⟨rfl, rfl⟩
    exact ⟨rfl, hi, Grew.refl _ _⟩
theorem text_s (w : World) (g B : Nat) (s : Sta) (m : Nat) (hm : m ≤ 9223372036854775807) (hi : In B w g s) : Calls Try.prog 37 #[.pointer (some ⟨g, 0, none⟩), .int .i64 (m : Int)] w fun r w' => r = .returned (.string (str (sText m s).1)) ∧ In B w' g (sText m s).2 ∧ Grew w w' (· = g) := by
  obtain ⟨bs, e⟩ := s
  unfold sText
  split
  · rename_i h
    obtain rfl : e = 0 := h
    refine (itext_any w g bs m (by omega) (by omega) hi.lt hi).mono ?_
    rintro r w' ⟨rfl, h1, h2, _⟩
    exact ⟨rfl, h1, grew_of_grownS h2⟩
  · rename_i h
    refine (itext_bad w g e bs m (by omega) (by omega) h hi).mono ?_
    rintro r w' ⟨rfl, rfl⟩
    exact ⟨rfl, hi, Grew.refl _ _⟩
/-- a number, cut off above the most -/
def cutN (m n : Nat) : Nat := min n (m + 1)
end Go.Proofs.Ytjlhjpooggkkoaa.Nd
namespace Go.Proofs.Ytjlhjpooggkkoaa.Nd
open Go.RowKit
def okS (s : Sta) : Prop := ∀ x ∈ s.1, x < 256
theorem okS_drop {s t : Sta} (h : okS s) (n : Nat) (ht : t.1 = s.1.drop n) : okS t := fun x hx => h x (List.mem_of_mem_drop (by rw [← ht]; exact hx))
theorem okS_nil {t : Sta} (ht : t.1 = []) : okS t := fun x hx => by rw [ht] at hx; cases hx
theorem sNum_ok {s : Sta} (h : okS s) : okS (sNum s).2 := by
  unfold sNum
  split
  · obtain ⟨n, h1, _⟩ := rnumF_sub 10 0 0 s.1
    exact okS_drop h n h1
  · exact h
theorem sText_ok {s : Sta} (m : Nat) (h : okS s) : okS (sText m s).2 := by
  unfold sText Wire.rtext
  obtain ⟨n, h1, _⟩ := rnumF_sub 10 0 0 s.1
  split
  · split
    · exact okS_drop h n h1
    · split
      · exact okS_nil rfl
      · split
        · exact okS_nil rfl
        · exact okS_drop h (n + (Wire.rnum s.1).1) (by show List.drop _ (Wire.rnum s.1).2.1 = _; rw [show (Wire.rnum s.1).2.1 = List.drop n s.1 from h1, List.drop_drop])
  · exact h
/-- what is read as a node, right or not -/
def rd (s : Sta) : Nd × Sta :=
  let a := sNum s
  let k := cutN 3 a.1
  if k = 1 then (⟨1, str (sText 64 a.2).1, 0, [], []⟩, (sText 64 a.2).2)
  else if k = 2 then
    let b := sNum a.2
    let z := cutN 1024 b.1
    (⟨2, ByteArray.empty, z, (sParts (pieces z) b.2).1, []⟩, (sParts (pieces z) b.2).2)
  else if k = 3 then
    let b := sNum a.2
    let z := cutN 64 b.1
    (⟨3, ByteArray.empty, 0, [], (sItems (cutN 3) z b.2).1⟩, (sItems (cutN 3) z b.2).2)
  else (⟨k, ByteArray.empty, 0, [], []⟩, a.2)
theorem In.ok {B : Nat} {w : World} {g : Nat} {s : Sta} (h : In B w g s) : okS s := InIs.lt h
theorem set5 {W : World} {Z : Nat} {t : TypeId} {a0 a1 a2 a3 a4 : Value} (h : Row W Z [a0, a1, a2, a3, a4] t) (b0 b1 b2 b3 b4 : Value) :
    Row (((((W.setCell ⟨Z, 0, none⟩ b0).setCell ⟨Z, 1, none⟩ b1).setCell ⟨Z, 2, none⟩ b2).setCell ⟨Z, 3, none⟩ b3).setCell ⟨Z, 4, none⟩ b4) Z [b0, b1, b2, b3, b4] t ∧ W.grownBy (((((W.setCell ⟨Z, 0, none⟩ b0).setCell ⟨Z, 1, none⟩ b1).setCell ⟨Z, 2, none⟩ b2).setCell ⟨Z, 3, none⟩ b3).setCell ⟨Z, 4, none⟩ b4) (some Z) :=
  ⟨((((h.set_same 0 b0).set_same 1 b1).set_same 2 b2).set_same 3 b3).set_same 4 b4,
    grownBy_trans (grownBy_trans (grownBy_trans (grownBy_trans (grownBy_setCell W ⟨Z, 0, none⟩ b0) (grownBy_setCell _ ⟨Z, 1, none⟩ b1)) (grownBy_setCell _ ⟨Z, 2, none⟩ b2)) (grownBy_setCell _ ⟨Z, 3, none⟩ b3)) (grownBy_setCell _ ⟨Z, 4, none⟩ b4)⟩
/-- the slices of a node lie in blocks from lo on -/
def Fresh (lo : Nat) (v : Value) : Prop := ∀ k d s vp vi, v = .agg #[.int .i64 k, .string d, .int .i64 s, vp, vi] → (∀ q, Value.ownBlock vp = some q → lo ≤ q) ∧ ∀ q, Value.ownBlock vi = some q → lo ≤ q
theorem Fresh.mono {lo lo' : Nat} {v : Value} (h : Fresh lo v) (hl : lo' ≤ lo) : Fresh lo' v := fun k d s vp vi e => ⟨fun q hq => Nat.le_trans hl ((h k d s vp vi e).1 q hq), fun q hq => Nat.le_trans hl ((h k d s vp vi e).2 q hq)⟩
theorem IsN.grown {w w' : World} {v : Value} {n : Nd} {lo z : Nat} (h : IsN w v n) (hg : w.grownBy w' (some z)) (hf : Fresh lo v) (hz : z < lo) : IsN w' v n := by
  obtain ⟨vp, vi, e, hp, hi⟩ := h.ex
  obtain ⟨f1, f2⟩ := hf _ _ _ _ _ e
  exact ⟨⟨vp, vi, e, hp.grown hg (fun q hq => by have := f1 q hq; omega), hi.grown hg (fun q hq => by have := f2 q hq; omega)⟩, h.ok⟩
theorem In.grown {B : Nat} {w w' : World} {g k : Nat} {s : Sta} (h : In B w g s) (hg : w.grownBy w' (some k)) (hk : B ≤ k) (hgk : g ≠ k) : In B w' g s := ((InIs.toB h).grown hg hk hgk).is
theorem rd_1 {s : Sta} (h : cutN 3 (sNum s).1 = 1) : rd s = (⟨1, str (sText 64 (sNum s).2).1, 0, [], []⟩, (sText 64 (sNum s).2).2) := by simp [rd, h]
theorem rd_2 {s : Sta} (h : cutN 3 (sNum s).1 = 2) {z : Nat} (hz : cutN 1024 (sNum (sNum s).2).1 = z) : rd s = (⟨2, ByteArray.empty, z, (sParts (pieces z) (sNum (sNum s).2).2).1, []⟩, (sParts (pieces z) (sNum (sNum s).2).2).2) := by subst hz; simp [rd, h]
theorem rd_3 {s : Sta} (h : cutN 3 (sNum s).1 = 3) {z : Nat} (hz : cutN 64 (sNum (sNum s).2).1 = z) : rd s = (⟨3, ByteArray.empty, 0, [], (sItems (cutN 3) z (sNum (sNum s).2).2).1⟩, (sItems (cutN 3) z (sNum (sNum s).2).2).2) := by subst hz; simp [rd, h]
end Go.Proofs.Ytjlhjpooggkkoaa.Nd
namespace Go.Proofs.Ytjlhjpooggkkoaa.Nd
open Go.RowKit
theorem IsN.form {w : World} {v : Value} {n : Nd} (h : IsN w v n) : ∃ pp cp pi ci, v = .agg #[.int .i64 n.kind, .string n.data, .int .i64 n.size, .slice pp n.parts.length cp, .slice pi n.items.length ci] := by
  obtain ⟨vp, vi, rfl, hp, hi⟩ := h.ex
  obtain ⟨pp, cp, _, _, rfl, _⟩ := hp.ex
  obtain ⟨pi, ci, _, _, rfl, _⟩ := hi.ex
  exact ⟨pp, cp, pi, ci, by simp⟩
theorem sText_len (m : Nat) (s : Sta) : (sText m s).1.length ≤ m := by
  unfold sText Wire.rtext
  split
  · split
    · simp
    · split
      · simp
      · split
        · simp
        · rename_i h1 h2
          simp only [List.length_take]
          omega
  · simp
theorem str_size (l : List Nat) : (str l).size = l.length := by
  show (str l).data.size = l.length
  simp [str]
theorem post_Row2 {P : Program} {fn : Func} {R : Ending → World → Prop} {a : Act} {w : World} (p u : Tmp) (ty : TypeId) (hf : fn.results = #[.cell p ty, .tmp u]) (g : Nat) (hp : a.tmps.getD p undef = .pointer (some ⟨g, 0, none⟩))
    (t : TypeId) (vs : List Value) (hr : Row w g vs t) (d : TypeDesc) (hu : P.underlying ty = some d) (hd : (match d with | .struct _ | .array _ _ => true | _ => false) = true) (n : Nat) (hi : (P.info? ty).map (·.size) = some n) (hn : vs.length = n)
    (hdf : a.defers = []) (h : R (.returned (.tuple #[.agg vs.toArray, a.tmps.getD u undef])) w) : bodyPost P fn R .ret a w := by
  refine bodyPost_ret ?_ hdf h
  rw [results_cell_tmp hf, hp]
  have hl := run_loadVar_row (P := P) w g t ty vs.toArray (0, 0) d hr hu hd (by rw [hi]; simp [hn])
  simp [asAddr, hl]
end Go.Proofs.Ytjlhjpooggkkoaa.Nd
namespace Go.Proofs.Ytjlhjpooggkkoaa.Nd
open Go.RowKit
theorem Els.own {w : World} {v : Value} {k : Nat} {xs : List (List Value)} (h : Els w v k xs) (hne : xs ≠ []) : ∀ q, v.ownBlock = some q → q < w.heap.size := by
  obtain ⟨p, cap, b, o, rfl, _, _, h3, _⟩ := h.ex
  obtain ⟨rfl, hb⟩ := h3 hne
  intro q hq
  cases hq
  exact hb
/-- the Out at block g has made the bytes xs, in blocks from B on -/
def OutB (w : World) (B g : Nat) (xs : List Nat) : Prop := ∃ v, OutIs w B g v xs
theorem OutB.below {w w' : World} {B g : Nat} {xs : List Nat} (h : OutB w B g xs) (hb : Below w.heap.size w w') : OutB w' B g xs := by
  obtain ⟨v, hv⟩ := h
  exact ⟨v, hv.below hb⟩
theorem OutB.base {w : World} {B g : Nat} {xs : List Nat} (h : OutB w B g xs) : B ≤ w.heap.size := by
  obtain ⟨v, hv⟩ := h
  exact hv.base
theorem out_below {w w' : World} {B g : Nat} {v : Value} {xs : List Nat} (hg : B ≤ g) (ho : OutIs w B g v xs) (h : Grew w w' (OutS g v)) : Below B w w' :=
  h.below (Below.refl _ _) ho.base (outS_ge ho hg)
theorem num_o (w : World) (B g : Nat) (xs : List Nat) (n : Nat) (hn : n < 18446744073709551616) (hg : B ≤ g) (ho : OutB w B g xs) (hl : xs.length + 10 ≤ 140737488355328) :
    Calls Try.prog 43 #[.pointer (some ⟨g, 0, none⟩), .int .u64 (n : Int)] w fun e w' => e = .returned (.tuple #[]) ∧ OutB w' B g (xs ++ Wire.num n) ∧ Below B w w' := by
  obtain ⟨v, hv⟩ := ho
  refine (onum_any w B g v xs n hn hv hl).mono ?_
  rintro e w' ⟨rfl, v', h1, h2, _⟩
  exact ⟨rfl, ⟨v', h1⟩, out_below hg hv h2⟩
theorem text_o (w : World) (B g : Nat) (xs : List Nat) (s : ByteArray) (hg : B ≤ g) (ho : OutB w B g xs) (hl : xs.length + 10 + s.size ≤ 140737488355328) :
    Calls Try.prog 31 #[.pointer (some ⟨g, 0, none⟩), .string s] w fun e w' => e = .returned (.tuple #[]) ∧ OutB w' B g (xs ++ (Wire.num s.size ++ bytesS s)) ∧ Below B w w' := by
  obtain ⟨v, hv⟩ := ho
  refine (otext_any w B g v xs s hv hl).mono ?_
  rintro e w' ⟨rfl, v', h1, h2, _⟩
  exact ⟨rfl, ⟨v', h1⟩, out_below hg hv h2⟩
/-- the same, apart from block I -/
def OutA (w : World) (B g : Nat) (xs : List Nat) (I : Nat) : Prop := ∃ v, OutIs w B g v xs ∧ v.ownBlock ≠ some I
theorem OutA.toB {w : World} {B g I : Nat} {xs : List Nat} (h : OutA w B g xs I) : OutB w B g xs := by
  obtain ⟨v, hv, _⟩ := h
  exact ⟨v, hv⟩
theorem OutA.below {w w' : World} {B g I : Nat} {xs : List Nat} (h : OutA w B g xs I) (hb : Below w.heap.size w w') : OutA w' B g xs I := by
  obtain ⟨v, hv, hn⟩ := h
  exact ⟨v, hv.below hb, hn⟩
theorem OutB.blk {w : World} {B g : Nat} {xs : List Nat} (h : OutB w B g xs) : g < w.heap.size := by
  obtain ⟨v, hv⟩ := h
  exact hv.row.lt
end Go.Proofs.Ytjlhjpooggkkoaa.Nd
namespace Go.Proofs.Ytjlhjpooggkkoaa.Nd
open Go.RowKit
theorem enc_1 {n : Nd} (h : n.kind = 1) : enc n = Wire.num 1 ++ (Wire.num n.data.size ++ bytesS n.data) := by simp [enc, h]
theorem enc_2 {n : Nd} (h : n.kind = 2) : enc n = Wire.num 2 ++ Wire.num n.size.toNat ++ n.parts.flatten := by simp [enc, h]
theorem enc_3 {n : Nd} (h : n.kind = 3) : enc n = Wire.num 3 ++ Wire.num n.items.length ++ n.items.flatMap It.bytes := by simp [enc, h]
theorem itemsOk_kind {l : List It} (h : itemsOk l) : ∀ x ∈ l, 0 ≤ x.kind ∧ x.name.size ≤ 16 := by
  intro x hx
  obtain ⟨i, hi, rfl⟩ := List.getElem_of_mem hx
  have h1 := (h.2 i hi _ (List.getElem?_eq_getElem hi)).1
  unfold itemOk at h1
  simp only [Bool.and_eq_true, Bool.or_eq_true, beq_iff_eq] at h1
  obtain ⟨h2, h3⟩ := h1
  unfold isNameS at h3
  simp only [Bool.and_eq_true, decide_eq_true_eq] at h3
  have h4 := h3.1.2
  rw [bl_length] at h4
  exact ⟨by rcases h2 with h | h <;> omega, h4⟩
end Go.Proofs.Ytjlhjpooggkkoaa.Nd
namespace Go.Proofs.Ytjlhjpooggkkoaa.Nd
open Go.RowKit
theorem rnumF_inv : ∀ (f k acc : Nat) (bs : List Nat) (v : Nat) (r : List Nat), k + f = 9 → (∀ x ∈ bs, x < 256) → Wire.rnumF (f + 1) k acc bs = (v, r, 0) → ∃ m, v = acc + m * 128 ^ k ∧ bs = Wire.numF f m ++ r ∧ (0 < k → 0 < m)
  | 0, k, acc, [], v, r, _, _, h => by simp [Wire.rnumF] at h
  | 0, k, acc, c :: r', v, r, hk, hlt, h => by
    simp only [Wire.rnumF] at h
    split at h
    · simp at h
    · rename_i hc
      split at h
      · simp only [Prod.mk.injEq, and_true] at h
        obtain ⟨rfl, rfl⟩ := h
        refine ⟨c, rfl, by simp [Wire.numF], fun hk0 => ?_⟩
        rcases Nat.eq_zero_or_pos c with h0 | h0
        · exact absurd (Or.inl ⟨h0, hk0⟩) hc
        · exact h0
      · simp at h
  | f + 1, k, acc, [], v, r, _, _, h => by simp [Wire.rnumF] at h
  | f + 1, k, acc, c :: r', v, r, hk, hlt, h => by
    rw [Wire.rnumF] at h
    split at h
    · simp at h
    · rename_i hc
      split at h
      · rename_i h128
        simp only [Prod.mk.injEq, and_true] at h
        obtain ⟨rfl, rfl⟩ := h
        refine ⟨c, rfl, by simp [Wire.numF, h128], fun hk0 => ?_⟩
        rcases Nat.eq_zero_or_pos c with h0 | h0
        · exact absurd (Or.inl ⟨h0, hk0⟩) hc
        · exact h0
      · rename_i h128
        obtain ⟨m, h1, h2, h3⟩ := rnumF_inv f (k + 1) _ r' v r (by omega) (fun x hx => hlt x (by simp [hx])) h
        have hm := h3 (by omega)
        have hc2 := hlt c (by simp)
        refine ⟨c % 128 + 128 * m, ?_, ?_, fun _ => by omega⟩
        · rw [h1, Nat.pow_succ, Nat.add_mul, Nat.add_assoc]
          congr 2
          rw [Nat.mul_comm (128 ^ k) 128, ← Nat.mul_assoc, Nat.mul_comm m 128]
        · have e1 : ¬ (c % 128 + 128 * m < 128) := by omega
          have e2 : (c % 128 + 128 * m) % 128 + 128 = c := by omega
          have e3 : (c % 128 + 128 * m) / 128 = m := by omega
          rw [Wire.numF, if_neg e1, e2, e3, List.cons_append, ← h2]
theorem rnum_inv {bs : List Nat} {v : Nat} {r : List Nat} (hlt : ∀ x ∈ bs, x < 256) (h : Wire.rnum bs = (v, r, 0)) : bs = Wire.num v ++ r := by
  obtain ⟨m, h1, h2, _⟩ := rnumF_inv 9 0 0 bs v r rfl hlt h
  have : v = m := by rw [h1]; simp
  rw [this]
  exact h2
theorem sNum_inv {s : Sta} (hs : okS s) (h : (sNum s).2.2 = 0) : s.2 = 0 ∧ s.1 = Wire.num (sNum s).1 ++ (sNum s).2.1 ∧ (sNum s).1 < 18446744073709551616 := by
  unfold sNum at h ⊢
  split at h
  · rename_i h0
    rw [if_pos h0]
    refine ⟨h0, rnum_inv hs (Prod.ext rfl (Prod.ext rfl h)), rnum_lt _⟩
  · rename_i h0
    exact absurd h h0
theorem sText_inv {m : Nat} {s : Sta} (hs : okS s) (h : (sText m s).2.2 = 0) : s.2 = 0 ∧ s.1 = Wire.num (sText m s).1.length ++ (sText m s).1 ++ (sText m s).2.1 := by
  by_cases h0 : s.2 = 0
  · refine ⟨h0, ?_⟩
    unfold sText at h ⊢
    rw [if_pos h0] at h ⊢
    unfold Wire.rtext at h ⊢
    split at h
    · rename_i h1; exact absurd h h1
    · rename_i h1
      rw [if_neg h1]
      split at h
      · simp at h
      · rename_i h2
        rw [if_neg h2]
        split at h
        · simp at h
        · rename_i h3
          rw [if_neg h3]
          have e : (Wire.rnum s.1).2.2 = 0 := by simpa using h1
          have e2 := rnum_inv hs (Prod.ext rfl (Prod.ext rfl e) : Wire.rnum s.1 = ((Wire.rnum s.1).1, (Wire.rnum s.1).2.1, 0))
          show s.1 = Wire.num ((Wire.rnum s.1).2.1.take (Wire.rnum s.1).1).length ++ (Wire.rnum s.1).2.1.take (Wire.rnum s.1).1 ++ (Wire.rnum s.1).2.1.drop (Wire.rnum s.1).1
          rw [List.length_take, Nat.min_eq_left (by omega), List.append_assoc, List.take_append_drop]
          exact e2
  · unfold sText at h
    rw [if_neg h0] at h
    exact absurd h h0
theorem bytesS_str {l : List Nat} (h : ∀ x ∈ l, x < 256) : bytesS (str l) = l := by
  unfold bytesS str
  simp only [List.map_map]
  conv => rhs; rw [← List.map_id l]
  apply List.map_congr_left
  intro x hx
  have := h x hx
  simp
  omega
theorem sText_bytes {m : Nat} {s : Sta} (hs : okS s) : ∀ x ∈ (sText m s).1, x < 256 := by
  intro x hx
  obtain ⟨n, h1, _⟩ := rnumF_sub 10 0 0 s.1
  unfold sText Wire.rtext at hx
  split at hx
  · split at hx
    · cases hx
    · split at hx
      · cases hx
      · split at hx
        · cases hx
        · have := List.mem_of_mem_take hx
          rw [show (Wire.rnum s.1).2.1 = List.drop n s.1 from h1] at this
          exact hs x (List.mem_of_mem_drop this)
  · cases hx
theorem sNum_num (v : Nat) (r : List Nat) (h : v < 18446744073709551616) : sNum (Wire.num v ++ r, 0) = (v, (r, 0)) := by
  unfold sNum
  rw [if_pos rfl]
  exact rnum_num v r h
theorem sText_text (m : Nat) (S : ByteArray) (r : List Nat) (h : S.size ≤ m) (hm : m ≤ 9223372036854775807) : sText m (Wire.num S.size ++ bytesS S ++ r, 0) = (bytesS S, (r, 0)) := by
  unfold sText Wire.rtext
  rw [if_pos rfl]
  have e := rnum_num S.size (bytesS S ++ r) (by omega)
  rw [← List.append_assoc] at e
  simp only [e]
  rw [if_neg (by simp), if_neg (by simp; omega), if_neg (by simp [bytesS_length])]
  have hl := bytesS_length S
  simp [← hl]
theorem sDig_dig (d r : List Nat) (h : d.length = 32) : sDig (d ++ r, 0) = (d, (r, 0)) := by
  unfold sDig rdigest
  rw [if_pos rfl, if_neg (by simp; omega)]
  simp [← h]
theorem sParts_parts (ps : List (List Nat)) (h : ∀ d ∈ ps, Dg d) (r : List Nat) : ∀ c, c ≤ ps.length → sParts c (ps.flatten ++ r, 0) = (ps.take c, ((ps.drop c).flatten ++ r, 0)) := by
  intro c
  induction c with
  | zero => intro _; simp [sParts]
  | succ c ih =>
    intro hc
    have h1 := ih (by omega)
    have hd : ps.drop c = ps[c] :: ps.drop (c + 1) := List.drop_eq_getElem_cons (by omega)
    have h2 := sDig_dig ps[c] ((ps.drop (c + 1)).flatten ++ r) (h _ (List.getElem_mem _)).1
    simp only [sParts, h1, hd, List.flatten_cons, List.append_assoc, h2]
    rw [List.take_add_one, List.getElem?_eq_getElem (by omega)]
    rfl
theorem sItems_items (f : Nat → Nat) (hf2 : f 2 = 2) (hf3 : f 3 = 3) (l : List It) (h : ∀ x ∈ l, x.ok) (hk : ∀ x ∈ l, (x.kind = 2 ∨ x.kind = 3) ∧ x.name.size ≤ 16) (r : List Nat) : ∀ c, c ≤ l.length → sItems f c (l.flatMap It.bytes ++ r, 0) = (l.take c, ((l.drop c).flatMap It.bytes ++ r, 0)) := by
  intro c
  induction c with
  | zero => intro _; simp [sItems]
  | succ c ih =>
    intro hc
    have h1 := ih (by omega)
    have hd : l.drop c = l[c] :: l.drop (c + 1) := List.drop_eq_getElem_cons (by omega)
    have hm : l[c] ∈ l := List.getElem_mem _
    obtain ⟨hk1, hk2⟩ := hk _ hm
    have e1 := sText_text 16 l[c].name (Wire.num l[c].kind.toNat ++ (l[c].sum ++ ((l.drop (c + 1)).flatMap It.bytes ++ r))) hk2 (by decide)
    have e2 := sNum_num l[c].kind.toNat (l[c].sum ++ ((l.drop (c + 1)).flatMap It.bytes ++ r)) (by rcases hk1 with h | h <;> rw [h] <;> decide)
    have e3 := sDig_dig l[c].sum ((l.drop (c + 1)).flatMap It.bytes ++ r) (h _ hm).sum.1
    rw [List.append_assoc] at e1
    have e4 : ((f l[c].kind.toNat : Nat) : Int) = l[c].kind := by
      rcases hk1 with h | h
      · rw [h]; show ((f 2 : Nat) : Int) = 2; rw [hf2]; rfl
      · rw [h]; show ((f 3 : Nat) : Int) = 3; rw [hf3]; rfl
    simp only [sItems, sItem, h1, hd, List.flatMap_cons, It.bytes, List.append_assoc, e1, e2, e3, e4, str_bytesS]
    rw [List.take_add_one, List.getElem?_eq_getElem (by omega)]
    rfl
theorem itemsOk_kinds {l : List It} (h : itemsOk l) : ∀ x ∈ l, (x.kind = 2 ∨ x.kind = 3) ∧ x.name.size ≤ 16 := by
  intro x hx
  refine ⟨?_, (itemsOk_kind h x hx).2⟩
  obtain ⟨i, hi, rfl⟩ := List.getElem_of_mem hx
  have h1 := (h.2 i hi _ (List.getElem?_eq_getElem hi)).1
  unfold itemOk at h1
  simp only [Bool.and_eq_true, Bool.or_eq_true, beq_iff_eq] at h1
  exact h1.1
theorem empty_of {s : ByteArray} (h : s.size = 0) : s = ByteArray.empty := ByteArray.size_eq_zero_iff.1 h
/-- what is written is read as it was -/
theorem rd_enc {n : Nd} (hr : right n) (hok : n.ok) : rd (enc n, 0) = (n, ([], 0)) := by
  obtain ⟨kind, data, size, parts, items⟩ := n
  rcases hr with ⟨hk, hd1, hd2, hs, hp, hi⟩ | ⟨hk, hd, hs0, hs1, hp, hi⟩ | ⟨hk, hd, hs, hp, hi⟩
  · simp only at hk hd1 hd2 hs hp hi
    subst hk hs hp hi
    rw [enc_1 rfl]
    have e1 := sNum_num 1 (Wire.num data.size ++ bytesS data) (by decide)
    have e2 := sText_text 64 data [] hd2 (by decide)
    rw [List.append_nil] at e2
    rw [rd_1 (by rw [e1]; rfl), e1, e2, str_bytesS]
  · simp only at hk hd hs0 hs1 hp hi
    subst hk hi
    rw [enc_2 rfl, List.append_assoc]
    simp only
    have e1 := sNum_num 2 (Wire.num size.toNat ++ parts.flatten) (by decide)
    have e2 := sNum_num size.toNat parts.flatten (by omega)
    have hc : cutN 1024 size.toNat = size.toNat := by unfold cutN; omega
    have hz : ((size.toNat : Nat) : Int) = size := by omega
    have e3 := sParts_parts parts hok.parts [] parts.length (Nat.le_refl _)
    rw [List.append_nil] at e3
    rw [rd_2 (z := size.toNat) (by rw [e1]; rfl) (by rw [e1, e2]; exact hc), e1, e2, hz, ← hp, e3, empty_of hd]
    simp
  · simp only at hk hd hs hp hi
    subst hk hs hp
    rw [enc_3 rfl, List.append_assoc]
    simp only
    have hl := hi.1
    have e1 := sNum_num 3 (Wire.num items.length ++ items.flatMap It.bytes) (by decide)
    have e2 := sNum_num items.length (items.flatMap It.bytes) (by omega)
    have hc : cutN 64 items.length = items.length := by unfold cutN; omega
    have e3 := sItems_items (cutN 3) rfl rfl items hok.items (itemsOk_kinds hi) [] items.length (Nat.le_refl _)
    rw [List.append_nil] at e3
    rw [rd_3 (z := items.length) (by rw [e1]; rfl) (by rw [e1, e2]; exact hc), e1, e2, e3, empty_of hd]
    simp
/-- these bytes mean that node -/
def Means (bs : List Nat) (n : Nd) : Prop := right n ∧ n.ok ∧ enc n = bs
theorem Means.rd {bs : List Nat} {n : Nd} (h : Means bs n) : Go.Proofs.Ytjlhjpooggkkoaa.Nd.rd (bs, 0) = (n, ([], 0)) := by rw [← h.2.2]; exact rd_enc h.1 h.2.1
end Go.Proofs.Ytjlhjpooggkkoaa.Nd
namespace Go.Proofs.Ytjlhjpooggkkoaa.Nd
open Go.RowKit
theorem ba_beq (a b : ByteArray) : (a == b) = true ↔ a = b := by
  rw [beq_toListBytes, beq_iff_eq, Lib.toList_data, Lib.toList_data]
  constructor
  · intro h
    cases a; cases b
    simpa using h
  · rintro rfl; rfl
end Go.Proofs.Ytjlhjpooggkkoaa.Nd
namespace Go.Proofs.Ytjlhjpooggkkoaa.Nd
open Go.RowKit
attribute [local go_sem] has_drewN cellsAt_drewN has_drew cellsAt_drew ptrB_pointer ptrO_pointer
theorem toList_inj {a b : ByteArray} : a.toList = b.toList ↔ a = b := by
  constructor
  · intro h; exact (ba_beq a b).1 (by rw [beq_toListBytes, h]; simp)
  · rintro rfl; rfl
end Go.Proofs.Ytjlhjpooggkkoaa.Nd
namespace Go.Proofs.Ytjlhjpooggkkoaa.Nd
open Go.RowKit
theorem own_belowK {w w' : World} {B n k : Nat} {e : TypeId} {v : Value} {xs : List Value} (h : w.ownsRow B e k v n xs) (hb : Below w.heap.size w w') : w'.ownsRow B e k v n xs := by
  obtain ⟨h1, h2 | ⟨g, cap, cur, rfl, hB, hh, r⟩⟩ := h
  · exact ⟨h1, .inl h2⟩
  · refine ⟨h1, .inr ⟨g, cap, cur, rfl, hB, ?_, r⟩⟩
    have hlt : g < w.heap.size := (Array.getElem?_eq_some_iff.1 hh).1
    rw [hb.block g hlt]
    exact hh
theorem own_grewK {w w' : World} {B n k : Nat} {e : TypeId} {v : Value} {xs : List Value} {S : Nat → Prop} (h : w.ownsRow B e k v n xs) (hg : Grew w w' S) (hn : ∀ q, v.ownBlock = some q → ¬ S q) : w'.ownsRow B e k v n xs := by
  obtain ⟨h1, h2 | ⟨g, cap, cur, rfl, hB, hh, r⟩⟩ := h
  · exact ⟨h1, .inl h2⟩
  · refine ⟨h1, .inr ⟨g, cap, cur, rfl, hB, ?_, r⟩⟩
    have hlt : g < w.heap.size := (Array.getElem?_eq_some_iff.1 hh).1
    rw [hg.block g hlt (hn g rfl)]
    exact hh
theorem own_geK {W : World} {base : Nat} {e : TypeId} {size n : Nat} {v : Value} {xs : List Value} (h : W.ownsRow base e size v n xs) (k : Nat) (hk : v.ownBlock = some k) : base ≤ k ∧ k < W.heap.size := by
  obtain ⟨_, ⟨rfl, _⟩ | ⟨g, cap, cur, rfl, hB, hh, _⟩⟩ := h
  · cases hk
  · have e2 : g = k := by simpa [Value.ownBlock] using hk
    have := (Array.getElem?_eq_some_iff.1 hh).1
    omega
/-- a slice of one element is built -/
theorem wp_slice1 {P : Program} {op : Oper} {a : Act} {w : World} {K : Act → World → Prop} {Q : Exit → Act → World → Prop} (t : TypeId) (x : Operand) (ho : op.op = .buildSlice t 1 #[(0, x)]) (v u : Value) (w' : World) (hx : a.eval x = v) (hr : (Instr.buildSlice t 1 #[(0, v)]).run P w = .ok u w') (h : K (a.put op.dst u) w') : op.wp P a w K Q := by
  unfold Oper.wp execOp
  simp only [ho, List.map_toArray, List.map_cons, List.map_nil, hx, Sem.run_bind, hr, Result.andThen_ok]
  exact h
end Go.Proofs.Ytjlhjpooggkkoaa.Nd
namespace Go.Proofs.Ytjlhjpooggkkoaa.Nd
open Go.RowKit
/-- the reference's In at block g is in state s -/
def RI (B : Nat) (w : World) (g : Nat) (s : Sta) : Prop := ∃ bs k, RIs B w g 67 bs k s.2 ∧ bs.drop k = s.1
theorem RI.blk {B : Nat} {w : World} {g : Nat} {s : Sta} (h : RI B w g s) : g < w.heap.size := by
  obtain ⟨bs, k, h, _⟩ := h
  obtain ⟨_, _, _, _, hr, _⟩ := h.ex
  exact hr.lt
theorem RI.ok {B : Nat} {w : World} {g : Nat} {s : Sta} (h : RI B w g s) : okS s := by
  obtain ⟨bs, k, h, hd⟩ := h
  obtain ⟨_, _, _, _, _, hsl, _⟩ := h.ex
  exact fun x hx => hsl.lt x (List.mem_of_mem_drop (by rw [hd]; exact hx))
theorem RI.belowM {B m : Nat} {w w' : World} {g : Nat} {s : Sta} (h : RI B w g s) (hb : Below m w w') (hg : g < m) (hB : B ≤ m) : RI B w' g s := by
  obtain ⟨bs, k, h, hd⟩ := h
  obtain ⟨p, cap, b, off, hr, hsl, hne⟩ := h.ex
  refine ⟨bs, k, ⟨⟨p, cap, b, off, hr.below hb hg, ⟨hsl.lt, hsl.cap1, hsl.cap2, hsl.at_, fun j hj => ?_⟩, hne⟩, h.le⟩, hd⟩
  have hlt : b < m := Nat.lt_of_lt_of_le (hne (by omega)).2 hB
  rw [hb.cell (p := ⟨b, off + j, none⟩) hlt]
  exact hsl.src j hj
theorem rnum_s (w : World) (g B : Nat) (s : Sta) (hi : RI B w g s) : Calls Try.prog 49 #[.pointer (some ⟨g, 0, none⟩)] w fun r w' => r = .returned (.int .u64 ((sNum s).1 : Int)) ∧ RI B w' g (sNum s).2 ∧ Grew w w' (· = g) := by
  obtain ⟨l, e⟩ := s
  obtain ⟨bs, k, h, hd⟩ := hi
  simp only at h hd
  unfold sNum
  split
  · rename_i h0
    obtain rfl : e = 0 := h0
    refine (rnumI_any w g 67 bs k h).mono ?_
    rintro r w' ⟨rfl, ⟨k', h1, h2⟩, h3⟩
    rw [hd] at h1 h2 ⊢
    exact ⟨rfl, ⟨bs, k', h2, h1⟩, h3⟩
  · rename_i h0
    refine (rnumI_bad w g 67 bs k e h0 h).mono ?_
    rintro r w' ⟨rfl, rfl⟩
    exact ⟨rfl, ⟨bs, k, h, hd⟩, Grew.refl _ _⟩
theorem rtext_s (w : World) (g B : Nat) (s : Sta) (m : Nat) (hm : m ≤ 9223372036854775807) (hi : RI B w g s) : Calls Try.prog 40 #[.pointer (some ⟨g, 0, none⟩), .int .i64 (m : Int)] w fun r w' => r = .returned (.string (str (sText m s).1)) ∧ RI B w' g (sText m s).2 ∧ Grew w w' (· = g) := by
  obtain ⟨l, e⟩ := s
  obtain ⟨bs, k, h, hd⟩ := hi
  simp only at h hd
  unfold sText
  split
  · rename_i h0
    obtain rfl : e = 0 := h0
    refine (rtextI_any w g 67 bs k m (by omega) (by omega) h).mono ?_
    rintro r w' ⟨rfl, ⟨k', h1, h2⟩, h3⟩
    rw [hd] at h1 h2 ⊢
    exact ⟨rfl, ⟨bs, k', h2, h1⟩, h3⟩
  · rename_i h0
    refine (rtextI_bad w g 67 bs k e m h0 h).mono ?_
    rintro r w' ⟨rfl, rfl⟩
    exact ⟨rfl, ⟨bs, k, h, hd⟩, Grew.refl _ _⟩
theorem rleft_s (w : World) (g B : Nat) (s : Sta) (hi : RI B w g s) : Calls Try.prog 41 #[.pointer (some ⟨g, 0, none⟩)] w fun r w' => r = .returned (.int .i64 (s.1.length : Int)) ∧ w' = w.drew := by
  obtain ⟨bs, k, h, hd⟩ := hi
  rw [← hd]
  exact rleft_any w g 67 bs k s.2 h
theorem rleft_t (w : World) (g B : Nat) (t1 : List Nat) (t2 : Nat) (hi : RI B w g (t1, t2)) : Calls Try.prog 41 #[.pointer (some ⟨g, 0, none⟩)] w fun rr w' => rr = .returned (.int .i64 (t1.length : Int)) ∧ w' = w.drew := rleft_s w g B (t1, t2) hi
def zs : List Value := [.int .i64 0, .string ⟨#[]⟩, .int .i64 0, .slice none 0 0, .slice none 0 0]
end Go.Proofs.Ytjlhjpooggkkoaa.Nd
namespace Go.Proofs.Ytjlhjpooggkkoaa.Nd
open Go.RowKit
set_option maxHeartbeats 1000000 in
set_option maxRecDepth 100000 in
theorem rwnum_any (w : World) (n : Nat) (hn : n < 18446744073709551616) :
    Calls Try.prog 45 #[.int .u64 (n : Int)] w fun e w' => ∃ v, e = .returned v ∧ w'.ownsRow w.heap.size 5 1 v (Wire.num n).length ((Wire.num n).map u8v) ∧ Below w.heap.size w w' := by
  obtain ⟨i5i, HI5, HE1, HE2, HE3⟩ := i5h
  go_enter Try.func45, Try.ntmps45
  go_wp2_with fail
  go_loopw [0, 3] (fun u v w' => ∃ (k m : Nat) (pre : List Nat), u = .int .u64 (m : Int) ∧ m < 128 ^ (k + 1) ∧ m < 18446744073709551616 ∧ pre.length + (k + 1) ≤ 10 ∧ pre ++ Wire.numF k m = Wire.num n ∧ w'.ownsRow w.heap.size 5 1 v pre.length (pre.map u8v) ∧ Below w.heap.size w w' ∧ w.heap.size ≤ w'.heap.size) (fun u _ _ => (intOf u).toNat)
  case atStart => exact ⟨9, n, [], rfl, by omega, hn, by simp, rfl, World.ownsRow_nil _ _ _ _, Below.refl _ _, Nat.le_refl _⟩
  case round =>
    obtain ⟨k, m, pre, rfl, hm, hm64, hpl, hpre, hown, hbel, hsz⟩ := hrel
    have HP := hid_in hpre
    have HB := hid_in hbel
    have hfit : pre.length + 1 ≤ 140737488355328 := by omega
    clear hpre hbel
    by_cases h128 : 128 ≤ m
    · have hk0 : k ≠ 0 := by intro h; subst h; simp at hm; omega
      obtain ⟨k', rfl⟩ : ∃ k', k = k' + 1 := ⟨k - 1, by omega⟩
      have k1 : (128 : Int) ≤ (m : Int) := by omega
      have HM2 : Hid (m / 128 < 128 ^ (k' + 1)) := by show _ < _; rw [Nat.div_lt_iff_lt_mul (by decide)]; rw [Nat.pow_succ] at hm; exact hm
      clear hm hk0
      go_wp2_with (at_builtin; refine wpList_append_one rfl _ _ 32 rfl w.heap.size 5 i5i (.int .u8 0) Try.underlying32 HI5.out HE3.out HE1.out HE2.out rfl _ _ _ rfl hown 5 _ rfl rfl hfit hsz ?_; intro v1 w1 hown1 hb1 hs1; have HB1 := hid_in hb1; clear hb1)
      go_roundw
      case rel =>
        go_light
        have e0 : (m : Int) / 128 = ((m / 128 : Nat) : Int) := by simp
        have e1 : (m : Int) % 128 + 128 = ((m % 128 + 128 : Nat) : Int) := by omega
        rw [e0]
        rw [e1] at hown1
        refine ⟨k', m / 128, pre ++ [m % 128 + 128], rfl, HM2.out, by omega, by rw [List.length_append]; simp; omega, ?_, ?_, HB1.out _ HB.out, hs1⟩
        · rw [← HP.out, List.append_assoc]
          congr 1
          simp only [Wire.numF]
          rw [if_neg (by omega)]
          rfl
        · rw [List.length_append, List.map_append]; exact hown1
      case measure => simp [intOf]; omega
    · have k1 : (m : Int) < 128 := by omega
      have HN : Hid (Wire.numF k m = [m]) := by
        show _ = _
        rcases k with _ | k
        · rfl
        · simp only [Wire.numF]; rw [if_pos (by omega)]
      clear hm
      go_wp2_with (at_builtin; refine wpList_append_one rfl _ _ 32 rfl w.heap.size 5 i5i (.int .u8 0) Try.underlying32 HI5.out HE3.out HE1.out HE2.out rfl _ _ _ rfl hown 5 _ rfl rfl hfit hsz ?_; intro v1 w1 hown1 hb1 hs1; have HB1 := hid_in hb1; clear hb1)
      go_ret
      refine ⟨_, rfl, ?_, HB1.out _ HB.out⟩
      rw [← HP.out, HN.out, List.length_append, List.map_append]
      exact hown1
set_option maxHeartbeats 1000000 in
theorem rwtext_any (w : World) (s : ByteArray) (hl : 10 + s.size ≤ 140737488355328) :
    Calls Try.prog 34 #[.string s] w fun e w' => ∃ v, e = .returned v ∧ w'.ownsRow w.heap.size 5 1 v (Wire.num s.size ++ bytesS s).length ((Wire.num s.size ++ bytesS s).map u8v) ∧ Below w.heap.size w w' := by
  obtain ⟨i5i, HI5, HE1, HE2, HE3⟩ := i5h
  have hnum := rwnum_any w s.size (by omega)
  have ks : (s.size : Int) ≤ 140737488355328 := by omega
  have hnl := num_length s.size
  go_enter Try.func34, Try.ntmps34
  go_wp2_with fail
  refine hnum.mono ?_
  rintro e w1 ⟨v1, rfl, hown, hb⟩
  have HB := hid_in hb
  have hbase : w.heap.size ≤ w1.heap.size := hb.size
  have hfit : (Wire.num s.size).length + s.size ≤ 140737488355328 := by omega
  clear hnum hb
  go_wp2_with (at_builtin; refine wpList_append_string_at rfl _ _ 32 9 rfl w.heap.size 5 i5i Try.underlying32 Try.underlying9 HI5.out HE3.out HE1.out HE2.out _ _ _ rfl hown s rfl hfit hbase ?_; intro v2 w2 hown2 hg2 hm2; have HG2 : Hid (w1.grownBy w2 v1.ownBlock) := hg2; clear hm2)
  go_ret
  refine ⟨_, rfl, ?_, own_step HB.out HG2.out hbase rfl hown⟩
  rw [List.length_append, List.map_append, bytesS_length, ← strCells_bytes]
  exact hown2
end Go.Proofs.Ytjlhjpooggkkoaa.Nd
