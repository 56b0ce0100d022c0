/-
  A node's bytes mean it alone: what is written is read as it was, and what is read was written so. The walk of awake. Digests and items that are compared. The walks of the reference's Items and Same. Slices of one element; rows of elements of the call's own. The reference's In, by states. The walk of Node: the node that plain data mean. Plain facts on a right node's bytes, and what comes in with a Raw in later worlds.
-/
import Derived.Laws.StructEq
import Derived.Laws.Tables
import Derived.Laws.BitsAllLaws
import Derived.Deep.CutRange
import Derived.Test.YtamaejlbojbbeaaGreatDoorQ05
import Derived.Test.YtamaejlbojbbeaaGreatDoorQ06
import Derived.Test.YtamaejlbojbbeaaGreatDoorQ07
import Derived.Test.YtamaejlbojbbeaaGreatDoorQ08
import Derived.Test.YtamaejlbojbbeaaGreatDoorQ09
import Derived.Test.YtamaejlbojbbeaaGreatDoorQ10
import Derived.Test.YtamaejlbojbbeaaGreatDoorQ11
import Derived.Test.YtamaejlbojbbeaaGreatDoorQ12
namespace Go.Proofs.YtamaejlbojbbeaaGreatDoor.Nd
open Go.RowKit
theorem rnumF_inv : ∀ (f k acc : Nat) (bs : List Nat) (v : Nat) (r : List Nat), k + f = 9 → (∀ x ∈ bs, x < 256) → Wire.rnumF (f + 1) k acc bs = (v, r, 0) → ∃ m, v = acc + m * 128 ^ k ∧ bs = Wire.numF f m ++ r ∧ (0 < k → 0 < m)
  | 0, k, acc, [], v, r, _, _, h => by simp [Wire.rnumF] at h
  | 0, k, acc, c :: r', v, r, hk, hlt, h => by
    simp only [Wire.rnumF] at h
    split at h
    · simp at h
    · rename_i hc
      split at h
      · simp only [Prod.mk.injEq, and_true] at h
        obtain ⟨rfl, rfl⟩ := h
        refine ⟨c, rfl, by simp [Wire.numF], fun hk0 => ?_⟩
        rcases Nat.eq_zero_or_pos c with h0 | h0
        · exact absurd (Or.inl ⟨h0, hk0⟩) hc
        · exact h0
      · simp at h
  | f + 1, k, acc, [], v, r, _, _, h => by simp [Wire.rnumF] at h
  | f + 1, k, acc, c :: r', v, r, hk, hlt, h => by
    rw [Wire.rnumF] at h
    split at h
    · simp at h
    · rename_i hc
      split at h
      · rename_i h128
        simp only [Prod.mk.injEq, and_true] at h
        obtain ⟨rfl, rfl⟩ := h
        refine ⟨c, rfl, by simp [Wire.numF, h128], fun hk0 => ?_⟩
        rcases Nat.eq_zero_or_pos c with h0 | h0
        · exact absurd (Or.inl ⟨h0, hk0⟩) hc
        · exact h0
      · rename_i h128
        obtain ⟨m, h1, h2, h3⟩ := rnumF_inv f (k + 1) _ r' v r (by omega) (fun x hx => hlt x (by simp [hx])) h
        have hm := h3 (by omega)
        have hc2 := hlt c (by simp)
        refine ⟨c % 128 + 128 * m, ?_, ?_, fun _ => by omega⟩
        · rw [h1, Nat.pow_succ, Nat.add_mul, Nat.add_assoc]
          congr 2
          rw [Nat.mul_comm (128 ^ k) 128, ← Nat.mul_assoc, Nat.mul_comm m 128]
        · have e1 : ¬ (c % 128 + 128 * m < 128) := by omega
          have e2 : (c % 128 + 128 * m) % 128 + 128 = c := by omega
          have e3 : (c % 128 + 128 * m) / 128 = m := by omega
          rw [Wire.numF, if_neg e1, e2, e3, List.cons_append, ← h2]
theorem rnum_inv {bs : List Nat} {v : Nat} {r : List Nat} (hlt : ∀ x ∈ bs, x < 256) (h : Wire.rnum bs = (v, r, 0)) : bs = Wire.num v ++ r := by
  obtain ⟨m, h1, h2, _⟩ := rnumF_inv 9 0 0 bs v r rfl hlt h
  have : v = m := by rw [h1]; simp
  rw [this]
  exact h2
theorem sNum_inv {s : Sta} (hs : okS s) (h : (sNum s).2.2 = 0) : s.2 = 0 ∧ s.1 = Wire.num (sNum s).1 ++ (sNum s).2.1 ∧ (sNum s).1 < 18446744073709551616 := by
  unfold sNum at h ⊢
  split at h
  · rename_i h0
    rw [if_pos h0]
    refine ⟨h0, rnum_inv hs (Prod.ext rfl (Prod.ext rfl h)), rnum_lt _⟩
  · rename_i h0
    exact absurd h h0
theorem sText_inv {m : Nat} {s : Sta} (hs : okS s) (h : (sText m s).2.2 = 0) : s.2 = 0 ∧ s.1 = Wire.num (sText m s).1.length ++ (sText m s).1 ++ (sText m s).2.1 := by
  by_cases h0 : s.2 = 0
  · refine ⟨h0, ?_⟩
    unfold sText at h ⊢
    rw [if_pos h0] at h ⊢
    unfold Wire.rtext at h ⊢
    split at h
    · rename_i h1; exact absurd h h1
    · rename_i h1
      rw [if_neg h1]
      split at h
      · simp at h
      · rename_i h2
        rw [if_neg h2]
        split at h
        · simp at h
        · rename_i h3
          rw [if_neg h3]
          have e : (Wire.rnum s.1).2.2 = 0 := by simpa using h1
          have e2 := rnum_inv hs (Prod.ext rfl (Prod.ext rfl e) : Wire.rnum s.1 = ((Wire.rnum s.1).1, (Wire.rnum s.1).2.1, 0))
          show s.1 = Wire.num ((Wire.rnum s.1).2.1.take (Wire.rnum s.1).1).length ++ (Wire.rnum s.1).2.1.take (Wire.rnum s.1).1 ++ (Wire.rnum s.1).2.1.drop (Wire.rnum s.1).1
          rw [List.length_take, Nat.min_eq_left (by omega), List.append_assoc, List.take_append_drop]
          exact e2
  · unfold sText at h
    rw [if_neg h0] at h
    exact absurd h h0
theorem sDig_inv {s : Sta} (h : (sDig s).2.2 = 0) : s.2 = 0 ∧ s.1 = (sDig s).1 ++ (sDig s).2.1 := by
  by_cases h0 : s.2 = 0
  · refine ⟨h0, ?_⟩
    unfold sDig rdigest at h ⊢
    rw [if_pos h0] at h ⊢
    split at h
    · simp at h
    · rename_i h1
      rw [if_neg h1]
      exact (List.take_append_drop 32 s.1).symm
  · unfold sDig at h
    rw [if_neg h0] at h
    exact absurd h h0
theorem sParts_inv (c : Nat) (s : Sta) (h : (sParts c s).2.2 = 0) : s.2 = 0 ∧ s.1 = (sParts c s).1.flatten ++ (sParts c s).2.1 := by
  induction c with
  | zero => exact ⟨h, by simp [sParts]⟩
  | succ c ih =>
    obtain ⟨h1, h2⟩ := sDig_inv (s := (sParts c s).2) h
    obtain ⟨h3, h4⟩ := ih h1
    refine ⟨h3, ?_⟩
    rw [h4]
    show _ = ((sParts c s).1 ++ [(sDig (sParts c s).2).1]).flatten ++ (sDig (sParts c s).2).2.1
    rw [List.flatten_append, List.append_assoc]
    congr 1
    simpa using h2
theorem bytesS_str {l : List Nat} (h : ∀ x ∈ l, x < 256) : bytesS (str l) = l := by
  unfold bytesS str
  simp only [List.map_map]
  conv => rhs; rw [← List.map_id l]
  apply List.map_congr_left
  intro x hx
  have := h x hx
  simp
  omega
theorem sText_bytes {m : Nat} {s : Sta} (hs : okS s) : ∀ x ∈ (sText m s).1, x < 256 := by
  intro x hx
  obtain ⟨n, h1, _⟩ := rnumF_sub 10 0 0 s.1
  unfold sText Wire.rtext at hx
  split at hx
  · split at hx
    · cases hx
    · split at hx
      · cases hx
      · split at hx
        · cases hx
        · have := List.mem_of_mem_take hx
          rw [show (Wire.rnum s.1).2.1 = List.drop n s.1 from h1] at this
          exact hs x (List.mem_of_mem_drop this)
  · cases hx
theorem sItems_inv (f : Nat → Nat) (c : Nat) {s : Sta} (_hs : okS s) (hf : ∀ n : Nat, f n ≤ 3 → f n = n) (hfo : ∀ c, okS (sItems f c s).2) (h : (sItems f c s).2.2 = 0) (hk : ∀ x ∈ (sItems f c s).1, x.kind ≤ 3) : s.2 = 0 ∧ s.1 = (sItems f c s).1.flatMap It.bytes ++ (sItems f c s).2.1 := by
  induction c with
  | zero => exact ⟨h, by simp [sItems]⟩
  | succ c ih =>
    have hs2 := hfo c
    obtain ⟨a1, a2⟩ := sDig_inv (s := (sNum (sText 16 (sItems f c s).2).2).2) h
    obtain ⟨b1, b2, b3⟩ := sNum_inv (s := (sText 16 (sItems f c s).2).2) (sText_ok 16 hs2) a1
    obtain ⟨d1, d2⟩ := sText_inv (m := 16) hs2 b1
    have hk1 : ∀ x ∈ (sItems f c s).1, x.kind ≤ 3 := fun x hx => hk x (by simp [sItems, hx])
    have hk2 := hk (sItem f (sItems f c s).2).1 (by simp [sItems])
    have hkn : ((f (sNum (sText 16 (sItems f c s).2).2).1 : Nat) : Int) ≤ 3 := hk2
    have hkn2 := hf _ (by omega : f (sNum (sText 16 (sItems f c s).2).2).1 ≤ 3)
    obtain ⟨h3, h4⟩ := ih d1 hk1
    refine ⟨h3, ?_⟩
    rw [h4]
    show _ = ((sItems f c s).1 ++ [(sItem f (sItems f c s).2).1]).flatMap It.bytes ++ (sDig (sNum (sText 16 (sItems f c s).2).2).2).2.1
    rw [List.flatMap_append, List.append_assoc]
    congr 1
    simp only [List.flatMap_cons, List.flatMap_nil, List.append_nil, It.bytes, sItem]
    rw [bytesS_str (sText_bytes hs2), str_size, Int.toNat_natCast, hkn2]
    rw [d2, b2, a2]
    simp only [List.append_assoc]
theorem sNum_num (v : Nat) (r : List Nat) (h : v < 18446744073709551616) : sNum (Wire.num v ++ r, 0) = (v, (r, 0)) := by
  unfold sNum
  rw [if_pos rfl]
  exact rnum_num v r h
theorem sText_text (m : Nat) (S : ByteArray) (r : List Nat) (h : S.size ≤ m) (hm : m ≤ 9223372036854775807) : sText m (Wire.num S.size ++ bytesS S ++ r, 0) = (bytesS S, (r, 0)) := by
  unfold sText Wire.rtext
  rw [if_pos rfl]
  have e := rnum_num S.size (bytesS S ++ r) (by omega)
  rw [← List.append_assoc] at e
  simp only [e]
  rw [if_neg (by simp), if_neg (by simp; omega), if_neg (by simp [bytesS_length])]
  have hl := bytesS_length S
  simp [← hl]
theorem sDig_dig (d r : List Nat) (h : d.length = 32) : sDig (d ++ r, 0) = (d, (r, 0)) := by
  unfold sDig rdigest
  rw [if_pos rfl, if_neg (by simp; omega)]
  simp [← h]
theorem sParts_parts (ps : List (List Nat)) (h : ∀ d ∈ ps, Dg d) (r : List Nat) : ∀ c, c ≤ ps.length → sParts c (ps.flatten ++ r, 0) = (ps.take c, ((ps.drop c).flatten ++ r, 0)) := by
  intro c
  induction c with
  | zero => intro _; simp [sParts]
  | succ c ih =>
    intro hc
    have h1 := ih (by omega)
    have hd : ps.drop c = ps[c] :: ps.drop (c + 1) := List.drop_eq_getElem_cons (by omega)
    have h2 := sDig_dig ps[c] ((ps.drop (c + 1)).flatten ++ r) (h _ (List.getElem_mem _)).1
    simp only [sParts, h1, hd, List.flatten_cons, List.append_assoc, h2]
    rw [List.take_add_one, List.getElem?_eq_getElem (by omega)]
    rfl
theorem sItems_items (f : Nat → Nat) (hf2 : f 2 = 2) (hf3 : f 3 = 3) (l : List It) (h : ∀ x ∈ l, x.ok) (hk : ∀ x ∈ l, (x.kind = 2 ∨ x.kind = 3) ∧ x.name.size ≤ 16) (r : List Nat) : ∀ c, c ≤ l.length → sItems f c (l.flatMap It.bytes ++ r, 0) = (l.take c, ((l.drop c).flatMap It.bytes ++ r, 0)) := by
  intro c
  induction c with
  | zero => intro _; simp [sItems]
  | succ c ih =>
    intro hc
    have h1 := ih (by omega)
    have hd : l.drop c = l[c] :: l.drop (c + 1) := List.drop_eq_getElem_cons (by omega)
    have hm : l[c] ∈ l := List.getElem_mem _
    obtain ⟨hk1, hk2⟩ := hk _ hm
    have e1 := sText_text 16 l[c].name (Wire.num l[c].kind.toNat ++ (l[c].sum ++ ((l.drop (c + 1)).flatMap It.bytes ++ r))) hk2 (by decide)
    have e2 := sNum_num l[c].kind.toNat (l[c].sum ++ ((l.drop (c + 1)).flatMap It.bytes ++ r)) (by rcases hk1 with h | h <;> rw [h] <;> decide)
    have e3 := sDig_dig l[c].sum ((l.drop (c + 1)).flatMap It.bytes ++ r) (h _ hm).sum.1
    rw [List.append_assoc] at e1
    have e4 : ((f l[c].kind.toNat : Nat) : Int) = l[c].kind := by
      rcases hk1 with h | h
      · rw [h]; show ((f 2 : Nat) : Int) = 2; rw [hf2]; rfl
      · rw [h]; show ((f 3 : Nat) : Int) = 3; rw [hf3]; rfl
    simp only [sItems, sItem, h1, hd, List.flatMap_cons, It.bytes, List.append_assoc, e1, e2, e3, e4, str_bytesS]
    rw [List.take_add_one, List.getElem?_eq_getElem (by omega)]
    rfl
theorem itemsOk_kinds {l : List It} (h : itemsOk l) : ∀ x ∈ l, (x.kind = 2 ∨ x.kind = 3) ∧ x.name.size ≤ 16 := by
  intro x hx
  refine ⟨?_, (itemsOk_kind h x hx).2⟩
  obtain ⟨i, hi, rfl⟩ := List.getElem_of_mem hx
  have h1 := (h.2 i hi _ (List.getElem?_eq_getElem hi)).1
  unfold itemOk at h1
  simp only [Bool.and_eq_true, Bool.or_eq_true, beq_iff_eq] at h1
  exact h1.1
theorem empty_of {s : ByteArray} (h : s.size = 0) : s = ByteArray.empty := ByteArray.size_eq_zero_iff.1 h
/-- what is written is read as it was -/
theorem rd_enc {n : Nd} (hr : right n) (hok : n.ok) : rd (enc n, 0) = (n, ([], 0)) := by
  obtain ⟨kind, data, size, parts, items⟩ := n
  rcases hr with ⟨hk, hd1, hd2, hs, hp, hi⟩ | ⟨hk, hd, hs0, hs1, hp, hi⟩ | ⟨hk, hd, hs, hp, hi⟩
  · simp only at hk hd1 hd2 hs hp hi
    subst hk hs hp hi
    rw [enc_1 rfl]
    have e1 := sNum_num 1 (Wire.num data.size ++ bytesS data) (by decide)
    have e2 := sText_text 64 data [] hd2 (by decide)
    rw [List.append_nil] at e2
    rw [rd_1 (by rw [e1]; rfl), e1, e2, str_bytesS]
  · simp only at hk hd hs0 hs1 hp hi
    subst hk hi
    rw [enc_2 rfl, List.append_assoc]
    simp only
    have e1 := sNum_num 2 (Wire.num size.toNat ++ parts.flatten) (by decide)
    have e2 := sNum_num size.toNat parts.flatten (by omega)
    have hc : cutN 1024 size.toNat = size.toNat := by unfold cutN; omega
    have hz : ((size.toNat : Nat) : Int) = size := by omega
    have e3 := sParts_parts parts hok.parts [] parts.length (Nat.le_refl _)
    rw [List.append_nil] at e3
    rw [rd_2 (z := size.toNat) (by rw [e1]; rfl) (by rw [e1, e2]; exact hc), e1, e2, hz, ← hp, e3, empty_of hd]
    simp
  · simp only at hk hd hs hp hi
    subst hk hs hp
    rw [enc_3 rfl, List.append_assoc]
    simp only
    have hl := hi.1
    have e1 := sNum_num 3 (Wire.num items.length ++ items.flatMap It.bytes) (by decide)
    have e2 := sNum_num items.length (items.flatMap It.bytes) (by omega)
    have hc : cutN 64 items.length = items.length := by unfold cutN; omega
    have e3 := sItems_items (cutN 3) rfl rfl items hok.items (itemsOk_kinds hi) [] items.length (Nat.le_refl _)
    rw [List.append_nil] at e3
    rw [rd_3 (z := items.length) (by rw [e1]; rfl) (by rw [e1, e2]; exact hc), e1, e2, e3, empty_of hd]
    simp
/-- what is read was written so -/
theorem enc_rd {bs : List Nat} (hlt : ∀ x ∈ bs, x < 256) (h : (rd (bs, 0)).2 = ([], 0)) (hr : right (rd (bs, 0)).1) : enc (rd (bs, 0)).1 = bs := by
  have hs : okS (bs, 0) := hlt
  have hs1 := sNum_ok hs
  obtain ⟨k, hk⟩ : ∃ k, cutN 3 (sNum (bs, 0)).1 = k := ⟨_, rfl⟩
  have hkn : k ≤ 3 → (sNum (bs, 0)).1 = k := fun h3 => by unfold cutN at hk; omega
  by_cases h1 : k = 1
  · rw [rd_1 (hk.trans h1)] at h hr ⊢
    have e : (sText 64 (sNum (bs, 0)).2).2.2 = 0 := by simp only at h; rw [h]
    obtain ⟨a1, a2⟩ := sText_inv hs1 e
    obtain ⟨_, b2, _⟩ := sNum_inv hs a1
    have e0 : (sText 64 (sNum (bs, 0)).2).2.1 = [] := by simp only at h; rw [h]
    rw [enc_1 rfl]
    simp only
    rw [bytesS_str (sText_bytes hs1), str_size]
    rw [hkn (by omega), h1, a2, e0, List.append_nil] at b2
    exact b2.symm
  · by_cases h2 : k = 2
    · obtain ⟨z, hz⟩ : ∃ z, cutN 1024 (sNum (sNum (bs, 0)).2).1 = z := ⟨_, rfl⟩
      rw [rd_2 (hk.trans h2) hz] at h hr ⊢
      have e : (sParts (pieces z) (sNum (sNum (bs, 0)).2).2).2.2 = 0 := by simp only at h; rw [h]
      have e0 : (sParts (pieces z) (sNum (sNum (bs, 0)).2).2).2.1 = [] := by simp only at h; rw [h]
      obtain ⟨a1, a2⟩ := sParts_inv _ _ e
      obtain ⟨b1, b2, b3⟩ := sNum_inv hs1 a1
      obtain ⟨_, d2, _⟩ := sNum_inv hs b1
      have hz2 : (z : Int) ≤ 1024 := by
        rcases hr with ⟨q, _⟩ | ⟨_, _, _, q, _⟩ | ⟨q, _⟩
        · cases q
        · exact q
        · cases q
      have hzz : (sNum (sNum (bs, 0)).2).1 = z := by unfold cutN at hz; omega
      rw [enc_2 rfl]
      simp only
      rw [Int.toNat_natCast, List.append_assoc]
      rw [hkn (by omega), h2, b2, hzz, a2, e0, List.append_nil] at d2
      exact d2.symm
    · by_cases h3 : k = 3
      · obtain ⟨z, hz⟩ : ∃ z, cutN 64 (sNum (sNum (bs, 0)).2).1 = z := ⟨_, rfl⟩
        rw [rd_3 (hk.trans h3) hz] at h hr ⊢
        have e : (sItems (cutN 3) z (sNum (sNum (bs, 0)).2).2).2.2 = 0 := by simp only at h; rw [h]
        have e0 : (sItems (cutN 3) z (sNum (sNum (bs, 0)).2).2).2.1 = [] := by simp only at h; rw [h]
        have hio : itemsOk (sItems (cutN 3) z (sNum (sNum (bs, 0)).2).2).1 := by
          rcases hr with ⟨q, _⟩ | ⟨q, _⟩ | ⟨_, _, _, _, q⟩
          · cases q
          · cases q
          · exact q
        have hs2 := sNum_ok hs1
        obtain ⟨a1, a2⟩ := sItems_inv (cutN 3) z hs2 (fun n hn => by unfold cutN at *; omega) (fun c => (sItems_ok 3 (by decide) c hs2).2) e (fun x hx => by rcases (itemsOk_kinds hio x hx).1 with h | h <;> omega)
        obtain ⟨b1, b2, b3⟩ := sNum_inv hs1 a1
        obtain ⟨_, d2, _⟩ := sNum_inv hs b1
        have hl := hio.1
        rw [sItems_length] at hl
        have hzz : (sNum (sNum (bs, 0)).2).1 = z := by unfold cutN at hz; omega
        rw [enc_3 rfl]
        simp only
        rw [sItems_length, List.append_assoc]
        rw [hkn (by omega), h3, b2, hzz, a2, e0, List.append_nil] at d2
        exact d2.symm
      · rw [rd_0 hk h1 h2 h3] at hr
        exfalso
        rcases hr with ⟨q, _⟩ | ⟨q, _⟩ | ⟨q, _⟩ <;> simp only at q <;> omega
/-- these bytes mean that node -/
def Means (bs : List Nat) (n : Nd) : Prop := right n ∧ n.ok ∧ enc n = bs
theorem Means.rd {bs : List Nat} {n : Nd} (h : Means bs n) : Go.Proofs.YtamaejlbojbbeaaGreatDoor.Nd.rd (bs, 0) = (n, ([], 0)) := by rw [← h.2.2]; exact rd_enc h.1 h.2.1
theorem Means.unique {bs : List Nat} {n m : Nd} (h : Means bs n) (k : Means bs m) : n = m := (Prod.mk.inj (h.rd.symm.trans k.rd)).1
end Go.Proofs.YtamaejlbojbbeaaGreatDoor.Nd
namespace Go.Proofs.YtamaejlbojbbeaaGreatDoor.Nd
open Go.RowKit
theorem decode_any (bs : List Nat) (p : Option Addr) (cap b off : Nat) (w : World) (hsl : Sl w p bs cap b off) (hno : p = none → bs.length = 0 ∧ cap = 0) (hre : bs.length ≤ 140737488355328) :
    Calls Tryz.prog 67 #[.slice p bs.length cap] w fun e w' => (∃ v k, e = .returned (.tuple #[v, .int .i64 k]) ∧ Fresh w.heap.size v ∧ ((k = 0 ∧ ∃ n, Means bs n ∧ IsN w' v n) ∨ (k = 21 ∧ (∀ n, ¬ Means bs n) ∧ IsN w' v zeroN))) ∧ Below w.heap.size w w' := by
  refine (decode_p bs p cap b off w hsl hno hre).mono ?_
  rintro e w' ⟨⟨v, k, rfl, hf, h⟩, hb⟩
  refine ⟨⟨v, k, rfl, hf, ?_⟩, hb⟩
  rcases h with ⟨rfl, ⟨h1, h2⟩, h3⟩ | ⟨rfl, h1, h2⟩
  · exact .inl ⟨rfl, _, ⟨h2, h3.ok, enc_rd hsl.lt h1 h2⟩, h3⟩
  · refine .inr ⟨rfl, fun n hn => h1 ?_, h2⟩
    rw [hn.rd]
    exact ⟨rfl, hn.1⟩
end Go.Proofs.YtamaejlbojbbeaaGreatDoor.Nd
namespace Go.Proofs.YtamaejlbojbbeaaGreatDoor.Nd
open Go.RowKit
def dirN : Nd := ⟨3, ByteArray.empty, 0, [], []⟩
end Go.Proofs.YtamaejlbojbbeaaGreatDoor.Nd
namespace Go.Proofs.YtamaejlbojbbeaaGreatDoor.Nd
open Go.RowKit
theorem eq_loop {P : Program} {w : World} (f : Nat → Option Bool × Unit → Sem (ForInStep (Option Bool × Unit))) (c : Nat → Bool) :
    ∀ (L : List Nat), (∀ i ∈ L, ∀ s, (f i s).run P w = .ok (if c i = true then .yield (none, ()) else .done (some false, ())) w) → (forIn L (none, ()) f).run P w = .ok (if L.all c = true then (none, ()) else (some false, ())) w
  | [], _ => by simp [Sem.run_pure]
  | i :: L, h => by
    simp only [List.forIn_cons, Sem.run_bind, h i (by simp)]
    by_cases hc : c i = true
    · simp only [hc, if_true, Result.andThen, List.all_cons, Bool.true_and]
      exact eq_loop f c L (fun j hj => h j (by simp [hj]))
    · simp [hc, Result.andThen, Sem.run_pure]
theorem part5 (d : List Nat) (hd : d.length = 32) (i : Nat) (h : i < 32) (w : World) : (part 5 (d.map u8v).toArray i).run Tryz.prog w = .ok (u8v (d.getD i 0)) w := by
  have hagg : (isAgg 5).run Tryz.prog w = .ok false w := by kernel_rfl
  have hi : i < d.length := by omega
  simp [part, Sem.run_bind, hagg, hi]
theorem eqin5 (d x y : Nat) (w : World) : (Op.equalIn (d + 1) 5 (u8v x) (u8v y)).run Tryz.prog w = .ok (decide (x = y)) w := by
  simp only [Op.equalIn, Sem.run_bind, run_underlying Tryz.underlying5, Result.andThen_ok, u8v, if_true, Sem.run_pure]
  congr 1
  rw [Bool.eq_iff_iff]
  simp
  omega
theorem all_range (a b : List Nat) (ha : a.length = 32) (hb : b.length = 32) : (List.range' 0 32).all (fun i => decide (a.getD i 0 = b.getD i 0)) = decide (a = b) := by
  rw [Bool.eq_iff_iff]
  simp only [List.all_eq_true, decide_eq_true_eq, List.mem_range'_1]
  constructor
  · intro h
    refine List.ext_getElem (by omega) fun i h1 h2 => ?_
    have := h i ⟨by omega, by omega⟩
    simpa [h1, h2] using this
  · rintro rfl i _; rfl
theorem ba_beq (a b : ByteArray) : (a == b) = true ↔ a = b := by
  rw [beq_toListBytes, beq_iff_eq, Lib.toList_data, Lib.toList_data]
  constructor
  · intro h
    cases a; cases b
    simpa using h
  · rintro rfl; rfl
end Go.Proofs.YtamaejlbojbbeaaGreatDoor.Nd
namespace Go.Proofs.YtamaejlbojbbeaaGreatDoor.Nd
open Go.RowKit
theorem run_load49 {v : Value} {w : World} (h1 : v = .pointer (some ⟨ptrB v, ptrO v, none⟩)) (h2 : has 32 w (ptrB v) (ptrO v)) : (Instr.loadAt 30 v).run Tryz.prog w = .ok (.agg (cellsAt 32 w (ptrB v) (ptrO v)).toArray) w := by
  have hr := range_of_has h2
  have hl := cellsAt_length 32 w (ptrB v) (ptrO v)
  generalize cellsAt 32 w (ptrB v) (ptrO v) = V at hr hl
  generalize ptrB v = b at h1 hr
  generalize ptrO v = o at h1 hr
  subst h1
  simp only [Instr.loadAt, Instr.sureAddr, Sem.run_bind, Sem.run_pure, Result.andThen_ok]
  exact run_loadVar_mid w b o 30 V _ hr Tryz.underlying30 rfl (by rw [info49, hl])
theorem quiet_load49 {W : World} {d : Option Tmp} {ty : TypeId} {ps : String} {af : Array Edge} {gd : Option (Nat × Bool)} {x : Operand} {a : Act} {K : Act → Prop} (h1 : a.eval x = .pointer (some ⟨ptrB (a.eval x), ptrO (a.eval x), none⟩)) (h2 : has 32 W (ptrB (a.eval x)) (ptrO (a.eval x))) :
    Oper.quiet Tryz.prog { dst := d, op := Op.load 30 x, type := ty, pos := ps, after := af, guard := gd } a (fun w' => ∃ n, w' = W.drewN n) K = K (a.put d (.agg (cellsAt 32 W (ptrB (a.eval x)) (ptrO (a.eval x))).toArray)) := by
  have hrun : ∀ n, (Instr.loadAt 30 (a.eval x)).run Tryz.prog (W.drewN n) = .ok (.agg (cellsAt 32 W (ptrB (a.eval x)) (ptrO (a.eval x))).toArray) (W.drewN n) := fun n => by
    rw [run_load49 h1 (by rw [has_drewN]; exact h2), cellsAt_drewN]
  generalize Value.agg (cellsAt 32 W (ptrB (a.eval x)) (ptrO (a.eval x))).toArray = v at hrun
  have hat : ∀ n u, Oper.quietAt Tryz.prog { dst := d, op := Op.load 30 x, type := ty, pos := ps, after := af, guard := gd } a (fun w' => ∃ n, w' = W.drewN n) (W.drewN n) u ↔ v = u := by
    intro n u
    unfold Oper.quietAt execOp
    simp only [Sem.run_bind, hrun, Result.andThen_ok, Sem.run_pure, Oper.quietUpon, true_and]
  apply propext
  constructor
  · rintro ⟨u, h, hk⟩
    have := (hat 0 u).1 (h _ ⟨0, rfl⟩)
    rw [this]
    exact hk
  · intro hk
    exact ⟨v, fun w hw => by obtain ⟨n, rfl⟩ := hw; exact (hat n v).2 rfl, hk⟩
theorem wp_load49 {d : Option Tmp} {ty : TypeId} {ps : String} {af : Array Edge} {gd : Option (Nat × Bool)} {x : Operand} {a : Act} {w : World} {K : Act → World → Prop} {Q : Exit → Act → World → Prop} (h1 : a.eval x = .pointer (some ⟨ptrB (a.eval x), ptrO (a.eval x), none⟩)) (h2 : has 32 w (ptrB (a.eval x)) (ptrO (a.eval x))) :
    Oper.wp Tryz.prog { dst := d, op := Op.load 30 x, type := ty, pos := ps, after := af, guard := gd } a w K Q = K (a.put d (.agg (cellsAt 32 w (ptrB (a.eval x)) (ptrO (a.eval x))).toArray)) w := by
  have hrun := run_load49 h1 h2
  generalize Value.agg (cellsAt 32 w (ptrB (a.eval x)) (ptrO (a.eval x))).toArray = v at hrun ⊢
  unfold Oper.wp execOp
  simp only [Sem.run_bind, hrun, Result.andThen_ok, Sem.run_pure]
  rfl
theorem exec_load49 {d : Option Tmp} {ty : TypeId} {ps : String} {af : Array Edge} {gd : Option (Nat × Bool)} {x : Operand} {ρ : Operand → Value} {w : World} (h1 : ρ x = .pointer (some ⟨ptrB (ρ x), ptrO (ρ x), none⟩)) (h2 : has 32 w (ptrB (ρ x)) (ptrO (ρ x))) :
    (execOp ρ { dst := d, op := Op.load 30 x, type := ty, pos := ps, after := af, guard := gd }).run Tryz.prog w = .ok (.value (.agg (cellsAt 32 w (ptrB (ρ x)) (ptrO (ρ x))).toArray)) w := by
  have hrun := run_load49 h1 h2
  unfold execOp
  simp only [Sem.run_bind, hrun, Result.andThen_ok, Sem.run_pure]
attribute [local go_sem ↓] run_load51 quiet_load51 wp_load51 exec_load51 run_load49 quiet_load49 wp_load49 exec_load49
attribute [local go_sem] has_drewN cellsAt_drewN has_drew cellsAt_drew ptrB_pointer ptrO_pointer
theorem toList_inj {a b : ByteArray} : a.toList = b.toList ↔ a = b := by
  constructor
  · intro h; exact (ba_beq a b).1 (by rw [beq_toListBytes, h]; simp)
  · rintro rfl; rfl
end Go.Proofs.YtamaejlbojbbeaaGreatDoor.Nd
namespace Go.Proofs.YtamaejlbojbbeaaGreatDoor.Nd
open Go.RowKit
theorem slice28 (D : List Value) (hD : D.length = 32) (w : World) : (Instr.buildSlice 48 1 #[(0, .agg D.toArray)]).run Tryz.prog w = .ok (.slice (some ⟨w.heap.size, 0, none⟩) 1 1) (w.alloc (.cells D.toArray 30)) := by
  obtain ⟨d0, d1, d2, d3, d4, d5, d6, d7, d8, d9, d10, d11, d12, d13, d14, d15, d16, d17, d18, d19, d20, d21, d22, d23, d24, d25, d26, d27, d28, d29, d30, d31, rfl⟩ := list32 D hD
  kernel_rfl
theorem list34 {α : Type} (D : List α) (h : D.length = 34) : ∃ a b E, D = a :: b :: E ∧ E.length = 32 := by
  obtain ⟨a, r, rfl⟩ : ∃ x r, D = x :: r := List.exists_cons_of_length_pos (by omega)
  obtain ⟨b, r2, rfl⟩ : ∃ x r', r = x :: r' := List.exists_cons_of_length_pos (by simp at h; omega)
  exact ⟨a, b, r2, rfl, by simpa using h⟩
theorem slice29 (D : List Value) (hD : D.length = 34) (w : World) : (Instr.buildSlice 106 1 #[(0, .agg D.toArray)]).run Tryz.prog w = .ok (.slice (some ⟨w.heap.size, 0, none⟩) 1 1) (w.alloc (.cells D.toArray 114)) := by
  obtain ⟨a, b, E, rfl, hE⟩ := list34 D hD
  obtain ⟨d0, d1, d2, d3, d4, d5, d6, d7, d8, d9, d10, d11, d12, d13, d14, d15, d16, d17, d18, d19, d20, d21, d22, d23, d24, d25, d26, d27, d28, d29, d30, d31, rfl⟩ := list32 E hE
  kernel_rfl
theorem own_belowK {w w' : World} {B n k : Nat} {e : TypeId} {v : Value} {xs : List Value} (h : w.ownsRow B e k v n xs) (hb : Below w.heap.size w w') : w'.ownsRow B e k v n xs := by
  obtain ⟨h1, h2 | ⟨g, cap, cur, rfl, hB, hh, r⟩⟩ := h
  · exact ⟨h1, .inl h2⟩
  · refine ⟨h1, .inr ⟨g, cap, cur, rfl, hB, ?_, r⟩⟩
    have hlt : g < w.heap.size := (Array.getElem?_eq_some_iff.1 hh).1
    rw [hb.block g hlt]
    exact hh
theorem flatten_get {k : Nat} {xs : List (List Value)} (h : ∀ us ∈ xs, us.length = k) : ∀ (i : Nat) us, xs[i]? = some us → ∀ (y : Nat) u, us[y]? = some u → xs.flatten[i * k + y]? = some u := by
  induction xs with
  | nil => intro i us hi; simp at hi
  | cons x r ih =>
    intro i us hi y u hy
    have hx := h x (by simp)
    cases i with
    | zero =>
      simp at hi
      subst hi
      rw [List.flatten_cons, Nat.zero_mul, Nat.zero_add, List.getElem?_append_left (by exact (List.getElem?_eq_some_iff.1 hy).1)]
      exact hy
    | succ i =>
      rw [List.flatten_cons, List.getElem?_append_right (by rw [hx, Nat.add_mul]; omega), hx]
      have := ih (fun us hus => h us (by simp [hus])) i us (by simpa using hi) y u hy
      rw [show (i + 1) * k + y - k = i * k + y by rw [Nat.add_mul]; omega]
      exact this
/-- a row of the call's own reads as its elements -/
theorem own_els {w : World} {B k : Nat} {e : TypeId} {v : Value} {xs : List (List Value)} (h : w.ownsRow B e k v xs.length xs.flatten) (hk : ∀ us ∈ xs, us.length = k) : Els w v k xs := by
  obtain ⟨h1, ⟨rfl, h0⟩ | ⟨g, cap, cur, rfl, hB, hh, hn, hm, hs, ht⟩⟩ := h
  · obtain rfl := List.length_eq_zero_iff.1 h0
    exact Els.nil w k
  · have hlt : g < w.heap.size := (Array.getElem?_eq_some_iff.1 hh).1
    refine ⟨⟨some ⟨g, 0, none⟩, cap, g, 0, rfl, hn, by simpa [maxLen] using hm, fun _ => ⟨rfl, hlt⟩, fun i us hi y u hy => ?_⟩, hk⟩
    have h2 := flatten_get hk i us hi y u hy
    rw [← ht] at h2
    have h3 : cur.toList[i * k + y]? = some u := by
      rw [List.getElem?_take] at h2
      split at h2
      · exact h2
      · cases h2
    rw [cell_of_row _ _ _ _ _ _ hh, Nat.zero_add]
    simpa using h3
/-- a slice of one element is built -/
theorem wp_slice1 {P : Program} {op : Oper} {a : Act} {w : World} {K : Act → World → Prop} {Q : Exit → Act → World → Prop} (t : TypeId) (x : Operand) (ho : op.op = .buildSlice t 1 #[(0, x)]) (v u : Value) (w' : World) (hx : a.eval x = v) (hr : (Instr.buildSlice t 1 #[(0, v)]).run P w = .ok u w') (h : K (a.put op.dst u) w') : op.wp P a w K Q := by
  unfold Oper.wp execOp
  simp only [ho, List.map_toArray, List.map_cons, List.map_nil, hx, Sem.run_bind, hr, Result.andThen_ok]
  exact h
theorem wpList_slice1 {P : Program} {ops : Array Oper} {rest : List Oper} {op : Oper} {a : Act} {w : World} {Q : Exit → Act → World → Prop} (hgd : op.guard = none) (t : TypeId) (x : Operand) (ho : op.op = .buildSlice t 1 #[(0, x)]) (v u : Value) (w' : World) (hx : a.eval x = v) (hr : (Instr.buildSlice t 1 #[(0, v)]).run P w = .ok u w') (h : wpList P ops Q rest (a.put op.dst u) w') : wpList P ops Q (op :: rest) a w :=
  wpList_plain hgd fun _ hK => wp_slice1 t x ho v u w' hx hr (hK _ _ h)
end Go.Proofs.YtamaejlbojbbeaaGreatDoor.Nd
namespace Go.Proofs.YtamaejlbojbbeaaGreatDoor.Nd
open Go.RowKit
/-- the reference's In at block g is in state s -/
def RI (B : Nat) (w : World) (g : Nat) (s : Sta) : Prop := ∃ bs k, RIs B w g 208 bs k s.2 ∧ bs.drop k = s.1
theorem RI.blk {B : Nat} {w : World} {g : Nat} {s : Sta} (h : RI B w g s) : g < w.heap.size := by
  obtain ⟨bs, k, h, _⟩ := h
  obtain ⟨_, _, _, _, hr, _⟩ := h.ex
  exact hr.lt
theorem RI.ok {B : Nat} {w : World} {g : Nat} {s : Sta} (h : RI B w g s) : okS s := by
  obtain ⟨bs, k, h, hd⟩ := h
  obtain ⟨_, _, _, _, _, hsl, _⟩ := h.ex
  exact fun x hx => hsl.lt x (List.mem_of_mem_drop (by rw [hd]; exact hx))
def zs : List Value := [.int .i64 0, .string ⟨#[]⟩, .int .i64 0, .slice none 0 0, .slice none 0 0]
end Go.Proofs.YtamaejlbojbbeaaGreatDoor.Nd
namespace Go.Proofs.YtamaejlbojbbeaaGreatDoor.Nd
open Go.RowKit
/-- a slice of slices of bytes -/
def Bss (w : World) (v : Value) (ps : List (List Nat)) : Prop := ∃ p cap b o, v = .slice p ps.length cap ∧ ps.length ≤ cap ∧ cap ≤ 9223372036854775807 ∧ (ps ≠ [] → p = some ⟨b, o, none⟩ ∧ b < w.heap.size) ∧ ∀ (i : Nat) bs, ps[i]? = some bs → ∃ q c b' o', w.cell? ⟨b, o + i, none⟩ = some (.slice q bs.length c) ∧ Sl w q bs c b' o'
/-- a slice of texts -/
def Strs (w : World) (v : Value) (ns : List ByteArray) : Prop := ∃ p cap b o, v = .slice p ns.length cap ∧ ns.length ≤ cap ∧ cap ≤ 9223372036854775807 ∧ (ns ≠ [] → p = some ⟨b, o, none⟩ ∧ b < w.heap.size) ∧ ∀ (i : Nat) s, ns[i]? = some s → w.cell? ⟨b, o + i, none⟩ = some (.string s)
/-- a slice of numbers -/
def Ints (w : World) (v : Value) (ks : List Int) : Prop := ∃ p cap b o, v = .slice p ks.length cap ∧ ks.length ≤ cap ∧ cap ≤ 9223372036854775807 ∧ (ks ≠ [] → p = some ⟨b, o, none⟩ ∧ b < w.heap.size) ∧ ∀ (i : Nat) k, ks[i]? = some k → w.cell? ⟨b, o + i, none⟩ = some (.int .i64 k)
theorem Bss.lt {w : World} {v : Value} {ps : List (List Nat)} (h : Bss w v ps) : ∀ bs ∈ ps, ∀ x ∈ bs, x < 256 := by
  obtain ⟨p, cap, b, o, _, _, _, _, hat⟩ := h
  intro bs hbs
  obtain ⟨i, hi, rfl⟩ := List.getElem_of_mem hbs
  obtain ⟨q, c, b', o', _, hs⟩ := hat i _ (List.getElem?_eq_getElem hi)
  exact hs.lt
end Go.Proofs.YtamaejlbojbbeaaGreatDoor.Nd
namespace Go.Proofs.YtamaejlbojbbeaaGreatDoor.Nd
open Go.RowKit
theorem num_small (n : Nat) (h : n < 128) : Wire.num n = [n] := by
  unfold Wire.num
  rw [Wire.numF]
  simp [h]
theorem num_two (n : Nat) (h : n < 16384) : (Wire.num n).length ≤ 2 := by
  unfold Wire.num
  rw [Wire.numF]
  split
  · simp
  · rw [Wire.numF]
    rw [if_pos (by omega)]
    simp
theorem app_lt {a b : List Nat} (ha : ∀ x ∈ a, x < 256) (hb : ∀ x ∈ b, x < 256) : ∀ x ∈ a ++ b, x < 256 := by
  intro x hx
  rcases List.mem_append.1 hx with h | h
  · exact ha x h
  · exact hb x h
theorem kind_cases {x : It} (h : itemOk x = true) : x.kind = 2 ∨ x.kind = 3 := by
  unfold itemOk at h
  simp only [Bool.and_eq_true, Bool.or_eq_true, beq_iff_eq] at h
  exact h.1
theorem name_len {x : It} (h : itemOk x = true) : x.name.size ≤ 16 := by
  unfold itemOk at h
  simp only [Bool.and_eq_true] at h
  have h2 := h.2
  unfold isNameS at h2
  simp only [Bool.and_eq_true, decide_eq_true_eq] at h2
  rw [← bl_length]
  exact h2.1.2
theorem itemsOk_mem {l : List It} (h : itemsOk l) {x : It} (hx : x ∈ l) : itemOk x = true := by
  obtain ⟨i, hi, rfl⟩ := List.getElem_of_mem hx
  exact (h.2 i hi _ (List.getElem?_eq_getElem hi)).1
theorem flat_len {α : Type} (f : α → List Nat) (c : Nat) : ∀ (l : List α), (∀ x ∈ l, (f x).length ≤ c) → (l.flatMap f).length ≤ l.length * c
  | [], _ => by simp
  | x :: r, h => by
    have h1 := flat_len f c r (fun y hy => h y (by simp [hy]))
    have h2 := h x (by simp)
    simp only [List.flatMap_cons, List.length_append, List.length_cons, Nat.add_mul, Nat.one_mul]
    omega
theorem enc_lt {n : Nd} (hr : right n) (hok : n.ok) : ∀ x ∈ enc n, x < 256 := by
  rcases hr with ⟨hk, hd1, hd2, hs, hp, hi⟩ | ⟨hk, hd, hs0, hs1, hp, hi⟩ | ⟨hk, hd, hs, hp, hi⟩
  · rw [enc_1 hk]
    exact app_lt (num_lt 1 (by decide)) (app_lt (num_lt _ (by omega)) (bytesS_lt _))
  · rw [enc_2 hk]
    refine app_lt (app_lt (num_lt 2 (by decide)) (num_lt _ (by omega))) ?_
    intro x hx
    obtain ⟨d, hd, hx⟩ := List.mem_flatten.1 hx
    exact (hok.parts d hd).2 x hx
  · rw [enc_3 hk]
    refine app_lt (app_lt (num_lt 3 (by decide)) (num_lt _ (by have := hi.1; omega))) ?_
    intro x hx
    obtain ⟨y, hy, hx⟩ := List.mem_flatMap.1 hx
    have h1 := itemsOk_mem hi hy
    have h2 := name_len h1
    have h3 : y.kind.toNat < 18446744073709551616 := by rcases kind_cases h1 with h | h <;> rw [h] <;> decide
    exact app_lt (app_lt (app_lt (num_lt y.name.size (by omega)) (bytesS_lt y.name)) (num_lt y.kind.toNat h3)) (hok.items y hy).sum.2 x hx
theorem enc_len {n : Nd} (hr : right n) (hok : n.ok) : (enc n).length ≤ 4096 := by
  rcases hr with ⟨hk, hd1, hd2, hs, hp, hi⟩ | ⟨hk, hd, hs0, hs1, hp, hi⟩ | ⟨hk, hd, hs, hp, hi⟩
  · rw [enc_1 hk, num_small 1 (by decide), num_small _ (by omega)]
    simp only [List.length_append, List.length_cons, List.length_nil, bytesS_length]
    omega
  · rw [enc_2 hk, num_small 2 (by decide)]
    have h1 := num_two n.size.toNat (by omega)
    have h2 := flat_len (fun d : List Nat => d) 32 n.parts (fun d hd => by rw [(hok.parts d hd).1]; exact Nat.le_refl _)
    have h3 : n.parts.length ≤ 16 := by rw [hp]; unfold pieces; omega
    have h4 : n.parts.length * 32 ≤ 16 * 32 := Nat.mul_le_mul_right _ h3
    rw [List.flatMap_id'] at h2
    simp only [List.length_append, List.length_cons, List.length_nil]
    omega
  · rw [enc_3 hk, num_small 3 (by decide), num_small _ (by have := hi.1; omega)]
    have h2 := flat_len It.bytes 50 n.items (fun x hx => by
      have h1 := itemsOk_mem hi hx
      have h2 := name_len h1
      unfold It.bytes
      rw [num_small x.name.size (by omega), num_small x.kind.toNat (by rcases kind_cases h1 with h | h <;> rw [h] <;> decide)]
      simp only [List.length_append, List.length_cons, List.length_nil, bytesS_length, (hok.items x hx).sum.1]
      omega)
    have h3 := hi.1
    have h4 : n.items.length * 50 ≤ 64 * 50 := Nat.mul_le_mul_right _ h3
    simp only [List.length_append, List.length_cons, List.length_nil]
    omega
theorem Bss.below {w w' : World} {v : Value} {ps : List (List Nat)} (h : Bss w v ps) (hb : Below w.heap.size w w') : Bss w' v ps := by
  obtain ⟨p, cap, b, o, rfl, h1, h2, h3, hat⟩ := h
  refine ⟨p, cap, b, o, rfl, h1, h2, fun hne => ⟨(h3 hne).1, Nat.lt_of_lt_of_le (h3 hne).2 hb.size⟩, fun i bs hi => ?_⟩
  obtain ⟨q, c, b', o', hc, hs⟩ := hat i bs hi
  exact ⟨q, c, b', o', (hb.cell (p := ⟨b, o + i, none⟩) (World.block_lt_of_cell? w _ hc)).trans hc, hs.below hb⟩
theorem Strs.below {w w' : World} {v : Value} {ns : List ByteArray} (h : Strs w v ns) (hb : Below w.heap.size w w') : Strs w' v ns := by
  obtain ⟨p, cap, b, o, rfl, h1, h2, h3, hat⟩ := h
  exact ⟨p, cap, b, o, rfl, h1, h2, fun hne => ⟨(h3 hne).1, Nat.lt_of_lt_of_le (h3 hne).2 hb.size⟩, fun i s hi => (hb.cell (p := ⟨b, o + i, none⟩) (World.block_lt_of_cell? w _ (hat i s hi))).trans (hat i s hi)⟩
theorem Ints.below {w w' : World} {v : Value} {ks : List Int} (h : Ints w v ks) (hb : Below w.heap.size w w') : Ints w' v ks := by
  obtain ⟨p, cap, b, o, rfl, h1, h2, h3, hat⟩ := h
  exact ⟨p, cap, b, o, rfl, h1, h2, fun hne => ⟨(h3 hne).1, Nat.lt_of_lt_of_le (h3 hne).2 hb.size⟩, fun i s hi => (hb.cell (p := ⟨b, o + i, none⟩) (World.block_lt_of_cell? w _ (hat i s hi))).trans (hat i s hi)⟩
end Go.Proofs.YtamaejlbojbbeaaGreatDoor.Nd
