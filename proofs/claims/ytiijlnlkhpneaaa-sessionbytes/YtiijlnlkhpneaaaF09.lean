/-
  A node's bytes mean it alone: what is written is read as it was, and what is read was written so. Digests and items that are compared. The walks of the reference's Items and Same. Slices of one element; rows of elements of the call's own. Lists of seats in memory; a row of seats of the call's own, and what is put behind it.
-/
import Derived.OwnWalk
import Derived.Laws.CopyOwn
import Derived.Laws.Tables
import Derived.Deep.RegionLaw
import Derived.Deep.DrawnRows
import Derived.Laws.StructEq
import Derived.Test.YtiijlnlkhpneaaaF00
import Derived.Test.YtiijlnlkhpneaaaF01
import Derived.Test.YtiijlnlkhpneaaaF02
import Derived.Test.YtiijlnlkhpneaaaF03
import Derived.Test.YtiijlnlkhpneaaaF04
import Derived.Test.YtiijlnlkhpneaaaF05
import Derived.Test.YtiijlnlkhpneaaaF06
import Derived.Test.YtiijlnlkhpneaaaF07
import Derived.Test.YtiijlnlkhpneaaaF08
namespace Go.Proofs.Ytiijlnlkhpneaaa.Nd
open Go.RowKit
theorem rnumF_inv : ∀ (f k acc : Nat) (bs : List Nat) (v : Nat) (r : List Nat), k + f = 9 → (∀ x ∈ bs, x < 256) → Wire.rnumF (f + 1) k acc bs = (v, r, 0) → ∃ m, v = acc + m * 128 ^ k ∧ bs = Wire.numF f m ++ r ∧ (0 < k → 0 < m)
  | 0, k, acc, [], v, r, _, _, h => by simp [Wire.rnumF] at h
  | 0, k, acc, c :: r', v, r, hk, hlt, h => by
    simp only [Wire.rnumF] at h
    split at h
    · simp at h
    · rename_i hc
      split at h
      · simp only [Prod.mk.injEq, and_true] at h
        obtain ⟨rfl, rfl⟩ := h
        refine ⟨c, rfl, by simp [Wire.numF], fun hk0 => ?_⟩
        rcases Nat.eq_zero_or_pos c with h0 | h0
        · exact absurd (Or.inl ⟨h0, hk0⟩) hc
        · exact h0
      · simp at h
  | f + 1, k, acc, [], v, r, _, _, h => by simp [Wire.rnumF] at h
  | f + 1, k, acc, c :: r', v, r, hk, hlt, h => by
    rw [Wire.rnumF] at h
    split at h
    · simp at h
    · rename_i hc
      split at h
      · rename_i h128
        simp only [Prod.mk.injEq, and_true] at h
        obtain ⟨rfl, rfl⟩ := h
        refine ⟨c, rfl, by simp [Wire.numF, h128], fun hk0 => ?_⟩
        rcases Nat.eq_zero_or_pos c with h0 | h0
        · exact absurd (Or.inl ⟨h0, hk0⟩) hc
        · exact h0
      · rename_i h128
        obtain ⟨m, h1, h2, h3⟩ := rnumF_inv f (k + 1) _ r' v r (by omega) (fun x hx => hlt x (by simp [hx])) h
        have hm := h3 (by omega)
        have hc2 := hlt c (by simp)
        refine ⟨c % 128 + 128 * m, ?_, ?_, fun _ => by omega⟩
        · rw [h1, Nat.pow_succ, Nat.add_mul, Nat.add_assoc]
          congr 2
          rw [Nat.mul_comm (128 ^ k) 128, ← Nat.mul_assoc, Nat.mul_comm m 128]
        · have e1 : ¬ (c % 128 + 128 * m < 128) := by omega
          have e2 : (c % 128 + 128 * m) % 128 + 128 = c := by omega
          have e3 : (c % 128 + 128 * m) / 128 = m := by omega
          rw [Wire.numF, if_neg e1, e2, e3, List.cons_append, ← h2]
theorem rnum_inv {bs : List Nat} {v : Nat} {r : List Nat} (hlt : ∀ x ∈ bs, x < 256) (h : Wire.rnum bs = (v, r, 0)) : bs = Wire.num v ++ r := by
  obtain ⟨m, h1, h2, _⟩ := rnumF_inv 9 0 0 bs v r rfl hlt h
  have : v = m := by rw [h1]; simp
  rw [this]
  exact h2
theorem sNum_inv {s : Sta} (hs : okS s) (h : (sNum s).2.2 = 0) : s.2 = 0 ∧ s.1 = Wire.num (sNum s).1 ++ (sNum s).2.1 ∧ (sNum s).1 < 18446744073709551616 := by
  unfold sNum at h ⊢
  split at h
  · rename_i h0
    rw [if_pos h0]
    refine ⟨h0, rnum_inv hs (Prod.ext rfl (Prod.ext rfl h)), rnum_lt _⟩
  · rename_i h0
    exact absurd h h0
theorem sText_inv {m : Nat} {s : Sta} (hs : okS s) (h : (sText m s).2.2 = 0) : s.2 = 0 ∧ s.1 = Wire.num (sText m s).1.length ++ (sText m s).1 ++ (sText m s).2.1 := by
  by_cases h0 : s.2 = 0
  · refine ⟨h0, ?_⟩
    unfold sText at h ⊢
    rw [if_pos h0] at h ⊢
    unfold Wire.rtext at h ⊢
    split at h
    · rename_i h1; exact absurd h h1
    · rename_i h1
      rw [if_neg h1]
      split at h
      · simp at h
      · rename_i h2
        rw [if_neg h2]
        split at h
        · simp at h
        · rename_i h3
          rw [if_neg h3]
          have e : (Wire.rnum s.1).2.2 = 0 := by simpa using h1
          have e2 := rnum_inv hs (Prod.ext rfl (Prod.ext rfl e) : Wire.rnum s.1 = ((Wire.rnum s.1).1, (Wire.rnum s.1).2.1, 0))
          show s.1 = Wire.num ((Wire.rnum s.1).2.1.take (Wire.rnum s.1).1).length ++ (Wire.rnum s.1).2.1.take (Wire.rnum s.1).1 ++ (Wire.rnum s.1).2.1.drop (Wire.rnum s.1).1
          rw [List.length_take, Nat.min_eq_left (by omega), List.append_assoc, List.take_append_drop]
          exact e2
  · unfold sText at h
    rw [if_neg h0] at h
    exact absurd h h0
theorem bytesS_str {l : List Nat} (h : ∀ x ∈ l, x < 256) : bytesS (str l) = l := by
  unfold bytesS str
  simp only [List.map_map]
  conv => rhs; rw [← List.map_id l]
  apply List.map_congr_left
  intro x hx
  have := h x hx
  simp
  omega
theorem sText_bytes {m : Nat} {s : Sta} (hs : okS s) : ∀ x ∈ (sText m s).1, x < 256 := by
  intro x hx
  obtain ⟨n, h1, _⟩ := rnumF_sub 10 0 0 s.1
  unfold sText Wire.rtext at hx
  split at hx
  · split at hx
    · cases hx
    · split at hx
      · cases hx
      · split at hx
        · cases hx
        · have := List.mem_of_mem_take hx
          rw [show (Wire.rnum s.1).2.1 = List.drop n s.1 from h1] at this
          exact hs x (List.mem_of_mem_drop this)
  · cases hx
theorem sNum_num (v : Nat) (r : List Nat) (h : v < 18446744073709551616) : sNum (Wire.num v ++ r, 0) = (v, (r, 0)) := by
  unfold sNum
  rw [if_pos rfl]
  exact rnum_num v r h
theorem sText_text (m : Nat) (S : ByteArray) (r : List Nat) (h : S.size ≤ m) (hm : m ≤ 9223372036854775807) : sText m (Wire.num S.size ++ bytesS S ++ r, 0) = (bytesS S, (r, 0)) := by
  unfold sText Wire.rtext
  rw [if_pos rfl]
  have e := rnum_num S.size (bytesS S ++ r) (by omega)
  rw [← List.append_assoc] at e
  simp only [e]
  rw [if_neg (by simp), if_neg (by simp; omega), if_neg (by simp [bytesS_length])]
  have hl := bytesS_length S
  simp [← hl]
end Go.Proofs.Ytiijlnlkhpneaaa.Nd
namespace Go.Proofs.Ytiijlnlkhpneaaa.Nd
open Go.RowKit
theorem ba_beq (a b : ByteArray) : (a == b) = true ↔ a = b := by
  rw [beq_toListBytes, beq_iff_eq, Lib.toList_data, Lib.toList_data]
  constructor
  · intro h
    cases a; cases b
    simpa using h
  · rintro rfl; rfl
end Go.Proofs.Ytiijlnlkhpneaaa.Nd
namespace Go.Proofs.Ytiijlnlkhpneaaa.Nd
open Go.RowKit
attribute [local go_sem] has_drewN cellsAt_drewN has_drew cellsAt_drew ptrB_pointer ptrO_pointer
theorem toList_inj {a b : ByteArray} : a.toList = b.toList ↔ a = b := by
  constructor
  · intro h; exact (ba_beq a b).1 (by rw [beq_toListBytes, h]; simp)
  · rintro rfl; rfl
end Go.Proofs.Ytiijlnlkhpneaaa.Nd
namespace Go.Proofs.Ytiijlnlkhpneaaa.Nd
open Go.RowKit
theorem own_belowK {w w' : World} {B n k : Nat} {e : TypeId} {v : Value} {xs : List Value} (h : w.ownsRow B e k v n xs) (hb : Below w.heap.size w w') : w'.ownsRow B e k v n xs := by
  obtain ⟨h1, h2 | ⟨g, cap, cur, rfl, hB, hh, r⟩⟩ := h
  · exact ⟨h1, .inl h2⟩
  · refine ⟨h1, .inr ⟨g, cap, cur, rfl, hB, ?_, r⟩⟩
    have hlt : g < w.heap.size := (Array.getElem?_eq_some_iff.1 hh).1
    rw [hb.block g hlt]
    exact hh
theorem own_geK {W : World} {base : Nat} {e : TypeId} {size n : Nat} {v : Value} {xs : List Value} (h : W.ownsRow base e size v n xs) (k : Nat) (hk : v.ownBlock = some k) : base ≤ k ∧ k < W.heap.size := by
  obtain ⟨_, ⟨rfl, _⟩ | ⟨g, cap, cur, rfl, hB, hh, _⟩⟩ := h
  · cases hk
  · have e2 : g = k := by simpa [Value.ownBlock] using hk
    have := (Array.getElem?_eq_some_iff.1 hh).1
    omega
end Go.Proofs.Ytiijlnlkhpneaaa.Nd
namespace Go.Proofs.Ytiijlnlkhpneaaa.Se
open Go.RowKit
open Nd (Row wp_world post_Row grownBy_setCell below_of_grown)
theorem tcells_one (fs : List Seat) : ∀ u ∈ tcells fs, u.oneCell' = true := by
  intro u hu
  obtain ⟨f, _, h⟩ := List.mem_flatMap.1 hu
  simp [Seat.cells] at h
  rcases h with rfl | rfl | rfl | rfl | rfl <;> rfl
/-- a value that reads as files -/
def Sls (w : World) (v : Value) (fs : List Seat) : Prop := ∃ p cap b o, v = .slice p fs.length cap ∧ fs.length ≤ cap ∧ cap ≤ 9223372036854775807 ∧ (fs ≠ [] → p = some ⟨b, o, none⟩ ∧ b < w.heap.size) ∧ (∀ j u, (tcells fs)[j]? = some u → w.cell? ⟨b, o + j, none⟩ = some u) ∧ (p = none → fs = [] ∧ cap = 0)
theorem Sls.below {w w' : World} {v : Value} {fs : List Seat} (h : Sls w v fs) (hb : Below w.heap.size w w') : Sls w' v fs := by
  obtain ⟨p, cap, b, o, h1, h2, h3, h4, h5, h6⟩ := h
  refine ⟨p, cap, b, o, h1, h2, h3, fun hn => ⟨(h4 hn).1, Nat.lt_of_lt_of_le (h4 hn).2 hb.size⟩, fun j u hj => ?_, h6⟩
  have hne : fs ≠ [] := by rintro rfl; simp [tcells] at hj
  rw [hb.cell (p := ⟨b, o + j, none⟩) (h4 hne).2]
  exact h5 j u hj
theorem Sls.form {w : World} {v : Value} {fs : List Seat} (h : Sls w v fs) : ∃ p cap, v = .slice p fs.length cap := by
  obtain ⟨p, cap, _, _, h1, _⟩ := h
  exact ⟨p, cap, h1⟩
/-- a row of files of the call's own -/
def SO (w : World) (B : Nat) (v : Value) (fs : List Seat) : Prop := w.ownsRow B 48 5 v fs.length (tcells fs)
theorem SO.below {w w' : World} {B : Nat} {v : Value} {fs : List Seat} (h : SO w B v fs) (hb : Below w.heap.size w w') : SO w' B v fs := Nd.own_belowK h hb
theorem SO.sls {w : World} {B : Nat} {v : Value} {fs : List Seat} (h : SO w B v fs) : Sls w v fs := by
  obtain ⟨_, ⟨rfl, h0⟩ | ⟨g, cap, cur, rfl, hB, hh, hn, hm, hs, ht⟩⟩ := h
  · obtain rfl := List.length_eq_zero_iff.1 h0
    exact ⟨none, 0, 0, 0, rfl, by simp, by omega, fun h => absurd rfl h, fun j u h => by simp [tcells] at h, fun _ => ⟨rfl, rfl⟩⟩
  · have hlt : g < w.heap.size := (Array.getElem?_eq_some_iff.1 hh).1
    refine ⟨_, cap, g, 0, rfl, hn, by unfold maxLen at hm; omega, fun _ => ⟨rfl, hlt⟩, fun j u hj => ?_, fun e => by cases e⟩
    have hjl : j < fs.length * 5 := by rw [← tcells_len]; exact (List.getElem?_eq_some_iff.1 hj).1
    have ht2 : (cur.toList.take (fs.length * 5))[j]? = (tcells fs)[j]? := by rw [ht]
    rw [List.getElem?_take, if_pos hjl, hj, Array.getElem?_toList] at ht2
    rw [Nat.zero_add, cell_of_row w g j _ _ (0, 0) hh, ht2]
theorem info48h : ∃ i z, Hid (Try.prog.info? 48 = some i) ∧ Hid (i.size = 5) ∧ Hid (i.bytes = 48) ∧ Hid (i.zero = some z) ∧ Hid (z.cells.size = 5) := by
  have h : (Try.prog.info? 48).map (fun i => (i.size, i.bytes, i.zero.map (·.cells.size))) = some (5, 48, some 5) := by kernel_rfl
  cases hi : Try.prog.info? 48 with
  | none => rw [hi] at h; cases h
  | some i =>
    rw [hi] at h
    simp only [Option.map_some, Option.some.injEq, Prod.mk.injEq] at h
    obtain ⟨h1, h2, h3⟩ := h
    cases hz : i.zero with
    | none => rw [hz] at h3; cases h3
    | some z => rw [hz] at h3; exact ⟨i, z, rfl, h1, h2, hz, Option.some.inj h3⟩
/-- files put behind a row of the call's own -/
theorem wpList_app48 {ops : Array Oper} {rest : List Oper} {o : Oper} {a : Act} {w : World} {Q : Exit → Act → World → Prop} (B : Nat) (hgd : o.guard = none) (s x : Operand) (ho : o.op = .call { callee := .builtin .append, args := #[s, x], argTypes := #[30, 30] })
    (v : Value) (xs ys : List Seat) (hs : a.eval s = v) (hown : SO w B v xs) (sv : Value) (hx : a.eval x = sv) (hsv : Sls w sv ys) (hlen : xs.length + ys.length ≤ 1000000) (hB : B ≤ w.heap.size)
    (h : ∀ v' w', SO w' B v' (xs ++ ys) → w.grownBy w' v.ownBlock → wpList Try.prog ops Q rest (a.put o.dst v') w') : wpList Try.prog ops Q (o :: rest) a w := by
  obtain ⟨p, cap, b, of, rfl, h1, h2, h3, h4, h5⟩ := hsv
  obtain ⟨i, z, hi, hz1, hz2, hz3, hz4⟩ := info48h
  rcases p with _ | ad
  · obtain ⟨rfl, rfl⟩ := h5 rfl
    refine wpList_append_own_none hgd s x 30 ho B 48 i 5 Try.underlying30 hi.out v xs.length (tcells xs) hs hown hx ?_
    exact h v w (by simpa using hown) ⟨rfl, rfl, rfl, Nat.le_refl _, fun _ _ _ => rfl⟩
  · refine wpList_append_own w hgd s x 30 ho B 48 i z 5 48 Try.underlying30 hi.out hz3.out hz1.out hz2.out hz4.out (by decide) v xs.length (tcells xs) hs hown ad ys.length cap (tcells ys) hx (tcells_len ys) (fun j u hj => ?_) (tcells_one ys) (by unfold maxLen; omega) (by omega) hB ?_
    · have hne : ys ≠ [] := by rintro rfl; simp [tcells] at hj
      obtain rfl := Option.some.inj (h3 hne).1
      rw [Addr.add_mid]
      exact h4 j u hj
    · intro v' w' h6 h7 _
      refine h v' w' ?_ h7
      unfold SO
      rw [List.length_append, show tcells (xs ++ ys) = tcells xs ++ tcells ys by simp [tcells]]
      exact h6
theorem SO.nil (w : World) (B : Nat) : SO w B (.slice none 0 0) [] := World.ownsRow_nil _ _ _ _
theorem SO.step {w w' a : World} {B : Nat} {v : Value} {fs : List Seat} (h : SO w B v fs) (hb : Below B a w) (hB : B ≤ w.heap.size) (hg : w.grownBy w' v.ownBlock) : Below B a w' :=
  hb.grown hg hB (fun k e => (Nd.own_geK h k e).1)
theorem sls_one (w : World) (s : Seat) : Sls (w.alloc (.cells #[.int .i64 s.client, .int .i64 s.number, .int .i64 s.at_, .bool s.kept, .string s.reply] 48)) (.slice (some ⟨w.heap.size, 0, none⟩) 1 1) [s] := by
  have hr := Row.new w [.int .i64 s.client, .int .i64 s.number, .int .i64 s.at_, .bool s.kept, .string s.reply] 48
  refine ⟨_, 1, w.heap.size, 0, rfl, by simp, by omega, fun _ => ⟨rfl, by simp⟩, fun j u hj => ?_, fun e => by cases e⟩
  rw [Nat.zero_add, hr.cell]
  simpa [tcells, Seat.cells] using hj
theorem Sls.at_ {w : World} {v : Value} {fs : List Seat} (h : Sls w v fs) : ∃ p c, v = .slice p fs.length c ∧ fs.length ≤ 9223372036854775807 ∧ (fs ≠ [] → ∃ b o, p = some ⟨b, o, none⟩ ∧ ∀ W, Below w.heap.size w W → ∀ (i : Nat) s, fs[i]? = some s → W.cell? ⟨b, o + i * 5, none⟩ = some (.int .i64 s.client) ∧ W.cell? ⟨b, o + i * 5 + 1, none⟩ = some (.int .i64 s.number) ∧ W.cell? ⟨b, o + i * 5 + 2, none⟩ = some (.int .i64 s.at_) ∧ W.cell? ⟨b, o + i * 5 + 3, none⟩ = some (.bool s.kept) ∧ W.cell? ⟨b, o + i * 5 + 4, none⟩ = some (.string s.reply)) := by
  obtain ⟨p, cap, b, o, h1, h2, h3, h4, h5, h6⟩ := h
  refine ⟨p, cap, h1, by omega, fun hne => ⟨b, o, (h4 hne).1, fun W hb i s hi => ?_⟩⟩
  have hc : ∀ j, W.cell? ⟨b, j, none⟩ = w.cell? ⟨b, j, none⟩ := fun j => hb.cell (p := ⟨b, j, none⟩) (h4 hne).2
  have hr : ∀ (j : Nat) u, s.cells[j]? = some u → w.cell? ⟨b, o + i * 5 + j, none⟩ = some u := fun j u hj => by
    have h7 := h5 (i * 5 + j) u (tcells_at hi j u hj)
    rw [← Nat.add_assoc] at h7
    exact h7
  simp only [hc]
  exact ⟨hr 0 _ rfl, hr 1 _ rfl, hr 2 _ rfl, hr 3 _ rfl, hr 4 _ rfl⟩
end Go.Proofs.Ytiijlnlkhpneaaa.Se
