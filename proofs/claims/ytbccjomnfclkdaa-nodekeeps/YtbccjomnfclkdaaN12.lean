/-
  A node's bytes mean it alone: what is written is read as it was, and what is read was written so.
-/
import Derived.Test.YtbccjomnfclkdaaN11
namespace Go.Proofs.Ytbccjomnfclkdaa
open Go.RowKit
theorem rnumF_inv : ∀ (f k acc : Nat) (bs : List Nat) (v : Nat) (r : List Nat), k + f = 9 → (∀ x ∈ bs, x < 256) → Wire.rnumF (f + 1) k acc bs = (v, r, 0) → ∃ m, v = acc + m * 128 ^ k ∧ bs = Wire.numF f m ++ r ∧ (0 < k → 0 < m)
  | 0, k, acc, [], v, r, _, _, h => by simp [Wire.rnumF] at h
  | 0, k, acc, c :: r', v, r, hk, hlt, h => by
    simp only [Wire.rnumF] at h
    split at h
    · simp at h
    · rename_i hc
      split at h
      · simp only [Prod.mk.injEq, and_true] at h
        obtain ⟨rfl, rfl⟩ := h
        refine ⟨c, rfl, by simp [Wire.numF], fun hk0 => ?_⟩
        rcases Nat.eq_zero_or_pos c with h0 | h0
        · exact absurd (Or.inl ⟨h0, hk0⟩) hc
        · exact h0
      · simp at h
  | f + 1, k, acc, [], v, r, _, _, h => by simp [Wire.rnumF] at h
  | f + 1, k, acc, c :: r', v, r, hk, hlt, h => by
    rw [Wire.rnumF] at h
    split at h
    · simp at h
    · rename_i hc
      split at h
      · rename_i h128
        simp only [Prod.mk.injEq, and_true] at h
        obtain ⟨rfl, rfl⟩ := h
        refine ⟨c, rfl, by simp [Wire.numF, h128], fun hk0 => ?_⟩
        rcases Nat.eq_zero_or_pos c with h0 | h0
        · exact absurd (Or.inl ⟨h0, hk0⟩) hc
        · exact h0
      · rename_i h128
        obtain ⟨m, h1, h2, h3⟩ := rnumF_inv f (k + 1) _ r' v r (by omega) (fun x hx => hlt x (by simp [hx])) h
        have hm := h3 (by omega)
        have hc2 := hlt c (by simp)
        refine ⟨c % 128 + 128 * m, ?_, ?_, fun _ => by omega⟩
        · rw [h1, Nat.pow_succ, Nat.add_mul, Nat.add_assoc]
          congr 2
          rw [Nat.mul_comm (128 ^ k) 128, ← Nat.mul_assoc, Nat.mul_comm m 128]
        · have e1 : ¬ (c % 128 + 128 * m < 128) := by omega
          have e2 : (c % 128 + 128 * m) % 128 + 128 = c := by omega
          have e3 : (c % 128 + 128 * m) / 128 = m := by omega
          rw [Wire.numF, if_neg e1, e2, e3, List.cons_append, ← h2]
theorem rnum_inv {bs : List Nat} {v : Nat} {r : List Nat} (hlt : ∀ x ∈ bs, x < 256) (h : Wire.rnum bs = (v, r, 0)) : bs = Wire.num v ++ r := by
  obtain ⟨m, h1, h2, _⟩ := rnumF_inv 9 0 0 bs v r rfl hlt h
  have : v = m := by rw [h1]; simp
  rw [this]
  exact h2
theorem sNum_inv {s : Sta} (hs : okS s) (h : (sNum s).2.2 = 0) : s.2 = 0 ∧ s.1 = Wire.num (sNum s).1 ++ (sNum s).2.1 ∧ (sNum s).1 < 18446744073709551616 := by
  unfold sNum at h ⊢
  split at h
  · rename_i h0
    rw [if_pos h0]
    refine ⟨h0, rnum_inv hs (Prod.ext rfl (Prod.ext rfl h)), rnum_lt _⟩
  · rename_i h0
    exact absurd h h0
theorem sText_inv {m : Nat} {s : Sta} (hs : okS s) (h : (sText m s).2.2 = 0) : s.2 = 0 ∧ s.1 = Wire.num (sText m s).1.length ++ (sText m s).1 ++ (sText m s).2.1 := by
  by_cases h0 : s.2 = 0
  · refine ⟨h0, ?_⟩
    unfold sText at h ⊢
    rw [if_pos h0] at h ⊢
    unfold Wire.rtext at h ⊢
    split at h
    · rename_i h1; exact absurd h h1
    · rename_i h1
      rw [if_neg h1]
      split at h
      · simp at h
      · rename_i h2
        rw [if_neg h2]
        split at h
        · simp at h
        · rename_i h3
          rw [if_neg h3]
          have e : (Wire.rnum s.1).2.2 = 0 := by simpa using h1
          have e2 := rnum_inv hs (Prod.ext rfl (Prod.ext rfl e) : Wire.rnum s.1 = ((Wire.rnum s.1).1, (Wire.rnum s.1).2.1, 0))
          show s.1 = Wire.num ((Wire.rnum s.1).2.1.take (Wire.rnum s.1).1).length ++ (Wire.rnum s.1).2.1.take (Wire.rnum s.1).1 ++ (Wire.rnum s.1).2.1.drop (Wire.rnum s.1).1
          rw [List.length_take, Nat.min_eq_left (by omega), List.append_assoc, List.take_append_drop]
          exact e2
  · unfold sText at h
    rw [if_neg h0] at h
    exact absurd h h0
theorem sDig_inv {s : Sta} (h : (sDig s).2.2 = 0) : s.2 = 0 ∧ s.1 = (sDig s).1 ++ (sDig s).2.1 := by
  by_cases h0 : s.2 = 0
  · refine ⟨h0, ?_⟩
    unfold sDig rdigest at h ⊢
    rw [if_pos h0] at h ⊢
    split at h
    · simp at h
    · rename_i h1
      rw [if_neg h1]
      exact (List.take_append_drop 32 s.1).symm
  · unfold sDig at h
    rw [if_neg h0] at h
    exact absurd h h0
theorem sParts_inv (c : Nat) (s : Sta) (h : (sParts c s).2.2 = 0) : s.2 = 0 ∧ s.1 = (sParts c s).1.flatten ++ (sParts c s).2.1 := by
  induction c with
  | zero => exact ⟨h, by simp [sParts]⟩
  | succ c ih =>
    obtain ⟨h1, h2⟩ := sDig_inv (s := (sParts c s).2) h
    obtain ⟨h3, h4⟩ := ih h1
    refine ⟨h3, ?_⟩
    rw [h4]
    show _ = ((sParts c s).1 ++ [(sDig (sParts c s).2).1]).flatten ++ (sDig (sParts c s).2).2.1
    rw [List.flatten_append, List.append_assoc]
    congr 1
    simpa using h2
theorem bytesS_str {l : List Nat} (h : ∀ x ∈ l, x < 256) : bytesS (str l) = l := by
  unfold bytesS str
  simp only [List.map_map]
  conv => rhs; rw [← List.map_id l]
  apply List.map_congr_left
  intro x hx
  have := h x hx
  simp
  omega
theorem sText_bytes {m : Nat} {s : Sta} (hs : okS s) : ∀ x ∈ (sText m s).1, x < 256 := by
  intro x hx
  obtain ⟨n, h1, _⟩ := rnumF_sub 10 0 0 s.1
  unfold sText Wire.rtext at hx
  split at hx
  · split at hx
    · cases hx
    · split at hx
      · cases hx
      · split at hx
        · cases hx
        · have := List.mem_of_mem_take hx
          rw [show (Wire.rnum s.1).2.1 = List.drop n s.1 from h1] at this
          exact hs x (List.mem_of_mem_drop this)
  · cases hx
theorem sItems_inv (f : Nat → Nat) (c : Nat) {s : Sta} (_hs : okS s) (hf : ∀ n : Nat, f n ≤ 3 → f n = n) (hfo : ∀ c, okS (sItems f c s).2) (h : (sItems f c s).2.2 = 0) (hk : ∀ x ∈ (sItems f c s).1, x.kind ≤ 3) : s.2 = 0 ∧ s.1 = (sItems f c s).1.flatMap It.bytes ++ (sItems f c s).2.1 := by
  induction c with
  | zero => exact ⟨h, by simp [sItems]⟩
  | succ c ih =>
    have hs2 := hfo c
    obtain ⟨a1, a2⟩ := sDig_inv (s := (sNum (sText 16 (sItems f c s).2).2).2) h
    obtain ⟨b1, b2, b3⟩ := sNum_inv (s := (sText 16 (sItems f c s).2).2) (sText_ok 16 hs2) a1
    obtain ⟨d1, d2⟩ := sText_inv (m := 16) hs2 b1
    have hk1 : ∀ x ∈ (sItems f c s).1, x.kind ≤ 3 := fun x hx => hk x (by simp [sItems, hx])
    have hk2 := hk (sItem f (sItems f c s).2).1 (by simp [sItems])
    have hkn : ((f (sNum (sText 16 (sItems f c s).2).2).1 : Nat) : Int) ≤ 3 := hk2
    have hkn2 := hf _ (by omega : f (sNum (sText 16 (sItems f c s).2).2).1 ≤ 3)
    obtain ⟨h3, h4⟩ := ih d1 hk1
    refine ⟨h3, ?_⟩
    rw [h4]
    show _ = ((sItems f c s).1 ++ [(sItem f (sItems f c s).2).1]).flatMap It.bytes ++ (sDig (sNum (sText 16 (sItems f c s).2).2).2).2.1
    rw [List.flatMap_append, List.append_assoc]
    congr 1
    simp only [List.flatMap_cons, List.flatMap_nil, List.append_nil, It.bytes, sItem]
    rw [bytesS_str (sText_bytes hs2), str_size, Int.toNat_natCast, hkn2]
    rw [d2, b2, a2]
    simp only [List.append_assoc]
theorem sNum_num (v : Nat) (r : List Nat) (h : v < 18446744073709551616) : sNum (Wire.num v ++ r, 0) = (v, (r, 0)) := by
  unfold sNum
  rw [if_pos rfl]
  exact rnum_num v r h
theorem sText_text (m : Nat) (S : ByteArray) (r : List Nat) (h : S.size ≤ m) (hm : m ≤ 9223372036854775807) : sText m (Wire.num S.size ++ bytesS S ++ r, 0) = (bytesS S, (r, 0)) := by
  unfold sText Wire.rtext
  rw [if_pos rfl]
  have e := rnum_num S.size (bytesS S ++ r) (by omega)
  rw [← List.append_assoc] at e
  simp only [e]
  rw [if_neg (by simp), if_neg (by simp; omega), if_neg (by simp [bytesS_length])]
  have hl := bytesS_length S
  simp [← hl]
theorem sDig_dig (d r : List Nat) (h : d.length = 32) : sDig (d ++ r, 0) = (d, (r, 0)) := by
  unfold sDig rdigest
  rw [if_pos rfl, if_neg (by simp; omega)]
  simp [← h]
theorem sParts_parts (ps : List (List Nat)) (h : ∀ d ∈ ps, Dg d) (r : List Nat) : ∀ c, c ≤ ps.length → sParts c (ps.flatten ++ r, 0) = (ps.take c, ((ps.drop c).flatten ++ r, 0)) := by
  intro c
  induction c with
  | zero => intro _; simp [sParts]
  | succ c ih =>
    intro hc
    have h1 := ih (by omega)
    have hd : ps.drop c = ps[c] :: ps.drop (c + 1) := List.drop_eq_getElem_cons (by omega)
    have h2 := sDig_dig ps[c] ((ps.drop (c + 1)).flatten ++ r) (h _ (List.getElem_mem _)).1
    simp only [sParts, h1, hd, List.flatten_cons, List.append_assoc, h2]
    rw [List.take_add_one, List.getElem?_eq_getElem (by omega)]
    rfl
theorem sItems_items (f : Nat → Nat) (hf2 : f 2 = 2) (hf3 : f 3 = 3) (l : List It) (h : ∀ x ∈ l, x.ok) (hk : ∀ x ∈ l, (x.kind = 2 ∨ x.kind = 3) ∧ x.name.size ≤ 16) (r : List Nat) : ∀ c, c ≤ l.length → sItems f c (l.flatMap It.bytes ++ r, 0) = (l.take c, ((l.drop c).flatMap It.bytes ++ r, 0)) := by
  intro c
  induction c with
  | zero => intro _; simp [sItems]
  | succ c ih =>
    intro hc
    have h1 := ih (by omega)
    have hd : l.drop c = l[c] :: l.drop (c + 1) := List.drop_eq_getElem_cons (by omega)
    have hm : l[c] ∈ l := List.getElem_mem _
    obtain ⟨hk1, hk2⟩ := hk _ hm
    have e1 := sText_text 16 l[c].name (Wire.num l[c].kind.toNat ++ (l[c].sum ++ ((l.drop (c + 1)).flatMap It.bytes ++ r))) hk2 (by decide)
    have e2 := sNum_num l[c].kind.toNat (l[c].sum ++ ((l.drop (c + 1)).flatMap It.bytes ++ r)) (by rcases hk1 with h | h <;> rw [h] <;> decide)
    have e3 := sDig_dig l[c].sum ((l.drop (c + 1)).flatMap It.bytes ++ r) (h _ hm).sum.1
    rw [List.append_assoc] at e1
    have e4 : ((f l[c].kind.toNat : Nat) : Int) = l[c].kind := by
      rcases hk1 with h | h
      · rw [h]; show ((f 2 : Nat) : Int) = 2; rw [hf2]; rfl
      · rw [h]; show ((f 3 : Nat) : Int) = 3; rw [hf3]; rfl
    simp only [sItems, sItem, h1, hd, List.flatMap_cons, It.bytes, List.append_assoc, e1, e2, e3, e4, str_bytesS]
    rw [List.take_add_one, List.getElem?_eq_getElem (by omega)]
    rfl
theorem itemsOk_kinds {l : List It} (h : itemsOk l) : ∀ x ∈ l, (x.kind = 2 ∨ x.kind = 3) ∧ x.name.size ≤ 16 := by
  intro x hx
  refine ⟨?_, (itemsOk_kind h x hx).2⟩
  obtain ⟨i, hi, rfl⟩ := List.getElem_of_mem hx
  have h1 := (h.2 i hi _ (List.getElem?_eq_getElem hi)).1
  unfold itemOk at h1
  simp only [Bool.and_eq_true, Bool.or_eq_true, beq_iff_eq] at h1
  exact h1.1
theorem empty_of {s : ByteArray} (h : s.size = 0) : s = ByteArray.empty := ByteArray.size_eq_zero_iff.1 h
/-- what is written is read as it was -/
theorem rd_enc {n : Nd} (hr : right n) (hok : n.ok) : rd (enc n, 0) = (n, ([], 0)) := by
  obtain ⟨kind, data, size, parts, items⟩ := n
  rcases hr with ⟨hk, hd1, hd2, hs, hp, hi⟩ | ⟨hk, hd, hs0, hs1, hp, hi⟩ | ⟨hk, hd, hs, hp, hi⟩
  · simp only at hk hd1 hd2 hs hp hi
    subst hk hs hp hi
    rw [enc_1 rfl]
    have e1 := sNum_num 1 (Wire.num data.size ++ bytesS data) (by decide)
    have e2 := sText_text 64 data [] hd2 (by decide)
    rw [List.append_nil] at e2
    rw [rd_1 (by rw [e1]; rfl), e1, e2, str_bytesS]
  · simp only at hk hd hs0 hs1 hp hi
    subst hk hi
    rw [enc_2 rfl, List.append_assoc]
    simp only
    have e1 := sNum_num 2 (Wire.num size.toNat ++ parts.flatten) (by decide)
    have e2 := sNum_num size.toNat parts.flatten (by omega)
    have hc : cutN 1024 size.toNat = size.toNat := by unfold cutN; omega
    have hz : ((size.toNat : Nat) : Int) = size := by omega
    have e3 := sParts_parts parts hok.parts [] parts.length (Nat.le_refl _)
    rw [List.append_nil] at e3
    rw [rd_2 (z := size.toNat) (by rw [e1]; rfl) (by rw [e1, e2]; exact hc), e1, e2, hz, ← hp, e3, empty_of hd]
    simp
  · simp only at hk hd hs hp hi
    subst hk hs hp
    rw [enc_3 rfl, List.append_assoc]
    simp only
    have hl := hi.1
    have e1 := sNum_num 3 (Wire.num items.length ++ items.flatMap It.bytes) (by decide)
    have e2 := sNum_num items.length (items.flatMap It.bytes) (by omega)
    have hc : cutN 64 items.length = items.length := by unfold cutN; omega
    have e3 := sItems_items (cutN 3) rfl rfl items hok.items (itemsOk_kinds hi) [] items.length (Nat.le_refl _)
    rw [List.append_nil] at e3
    rw [rd_3 (z := items.length) (by rw [e1]; rfl) (by rw [e1, e2]; exact hc), e1, e2, e3, empty_of hd]
    simp
/-- what is read was written so -/
theorem enc_rd {bs : List Nat} (hlt : ∀ x ∈ bs, x < 256) (h : (rd (bs, 0)).2 = ([], 0)) (hr : right (rd (bs, 0)).1) : enc (rd (bs, 0)).1 = bs := by
  have hs : okS (bs, 0) := hlt
  have hs1 := sNum_ok hs
  obtain ⟨k, hk⟩ : ∃ k, cutN 3 (sNum (bs, 0)).1 = k := ⟨_, rfl⟩
  have hkn : k ≤ 3 → (sNum (bs, 0)).1 = k := fun h3 => by unfold cutN at hk; omega
  by_cases h1 : k = 1
  · rw [rd_1 (hk.trans h1)] at h hr ⊢
    have e : (sText 64 (sNum (bs, 0)).2).2.2 = 0 := by simp only at h; rw [h]
    obtain ⟨a1, a2⟩ := sText_inv hs1 e
    obtain ⟨_, b2, _⟩ := sNum_inv hs a1
    have e0 : (sText 64 (sNum (bs, 0)).2).2.1 = [] := by simp only at h; rw [h]
    rw [enc_1 rfl]
    simp only
    rw [bytesS_str (sText_bytes hs1), str_size]
    rw [hkn (by omega), h1, a2, e0, List.append_nil] at b2
    exact b2.symm
  · by_cases h2 : k = 2
    · obtain ⟨z, hz⟩ : ∃ z, cutN 1024 (sNum (sNum (bs, 0)).2).1 = z := ⟨_, rfl⟩
      rw [rd_2 (hk.trans h2) hz] at h hr ⊢
      have e : (sParts (pieces z) (sNum (sNum (bs, 0)).2).2).2.2 = 0 := by simp only at h; rw [h]
      have e0 : (sParts (pieces z) (sNum (sNum (bs, 0)).2).2).2.1 = [] := by simp only at h; rw [h]
      obtain ⟨a1, a2⟩ := sParts_inv _ _ e
      obtain ⟨b1, b2, b3⟩ := sNum_inv hs1 a1
      obtain ⟨_, d2, _⟩ := sNum_inv hs b1
      have hz2 : (z : Int) ≤ 1024 := by
        rcases hr with ⟨q, _⟩ | ⟨_, _, _, q, _⟩ | ⟨q, _⟩
        · cases q
        · exact q
        · cases q
      have hzz : (sNum (sNum (bs, 0)).2).1 = z := by unfold cutN at hz; omega
      rw [enc_2 rfl]
      simp only
      rw [Int.toNat_natCast, List.append_assoc]
      rw [hkn (by omega), h2, b2, hzz, a2, e0, List.append_nil] at d2
      exact d2.symm
    · by_cases h3 : k = 3
      · obtain ⟨z, hz⟩ : ∃ z, cutN 64 (sNum (sNum (bs, 0)).2).1 = z := ⟨_, rfl⟩
        rw [rd_3 (hk.trans h3) hz] at h hr ⊢
        have e : (sItems (cutN 3) z (sNum (sNum (bs, 0)).2).2).2.2 = 0 := by simp only at h; rw [h]
        have e0 : (sItems (cutN 3) z (sNum (sNum (bs, 0)).2).2).2.1 = [] := by simp only at h; rw [h]
        have hio : itemsOk (sItems (cutN 3) z (sNum (sNum (bs, 0)).2).2).1 := by
          rcases hr with ⟨q, _⟩ | ⟨q, _⟩ | ⟨_, _, _, _, q⟩
          · cases q
          · cases q
          · exact q
        have hs2 := sNum_ok hs1
        obtain ⟨a1, a2⟩ := sItems_inv (cutN 3) z hs2 (fun n hn => by unfold cutN at *; omega) (fun c => (sItems_ok 3 (by decide) c hs2).2) e (fun x hx => by rcases (itemsOk_kinds hio x hx).1 with h | h <;> omega)
        obtain ⟨b1, b2, b3⟩ := sNum_inv hs1 a1
        obtain ⟨_, d2, _⟩ := sNum_inv hs b1
        have hl := hio.1
        rw [sItems_length] at hl
        have hzz : (sNum (sNum (bs, 0)).2).1 = z := by unfold cutN at hz; omega
        rw [enc_3 rfl]
        simp only
        rw [sItems_length, List.append_assoc]
        rw [hkn (by omega), h3, b2, hzz, a2, e0, List.append_nil] at d2
        exact d2.symm
      · rw [rd_0 hk h1 h2 h3] at hr
        exfalso
        rcases hr with ⟨q, _⟩ | ⟨q, _⟩ | ⟨q, _⟩ <;> simp only at q <;> omega
/-- these bytes mean that node -/
def Means (bs : List Nat) (n : Nd) : Prop := right n ∧ n.ok ∧ enc n = bs
theorem Means.rd {bs : List Nat} {n : Nd} (h : Means bs n) : Go.Proofs.Ytbccjomnfclkdaa.rd (bs, 0) = (n, ([], 0)) := by rw [← h.2.2]; exact rd_enc h.1 h.2.1
theorem Means.unique {bs : List Nat} {n m : Nd} (h : Means bs n) (k : Means bs m) : n = m := (Prod.mk.inj (h.rd.symm.trans k.rd)).1
theorem enc_inj {n m : Nd} (h1 : right n) (h2 : n.ok) (h3 : right m) (h4 : m.ok) (e : enc n = enc m) : n = m := Means.unique ⟨h1, h2, e⟩ ⟨h3, h4, rfl⟩
end Go.Proofs.Ytbccjomnfclkdaa
