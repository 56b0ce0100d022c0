/-
  What was written is read back; what was cut off is short. Plain numbers, no program in it.
-/
import Derived.Test.YtbccjomnfclkdaaU5
namespace Go.Proofs.Ytbccjomnfclkdaa
open Go.RowKit
theorem numF_pos : ∀ (k n : Nat), 0 < (Wire.numF k n).length
  | 0, _ => by simp [Wire.numF]
  | k + 1, n => by simp only [Wire.numF]; split <;> simp
theorem own_keep' {w w' : World} {B n : Nat} {e : TypeId} {v : Value} {xs : List Value} {S : Nat → Prop} (h : w.ownsRow B e 1 v n xs) (hg : Grew w w' S) (hn : ∀ q, v.ownBlock = some q → ¬ S q) : w'.ownsRow B e 1 v n xs := by
  obtain ⟨h1, h2 | ⟨g, cap, cur, rfl, hB, hh, r⟩⟩ := h
  · exact ⟨h1, .inl h2⟩
  · refine ⟨h1, .inr ⟨g, cap, cur, rfl, hB, ?_, r⟩⟩
    have hlt : g < w.heap.size := (Array.getElem?_eq_some_iff.1 hh).1
    rw [hg.block g hlt (hn g rfl)]
    exact hh
end Go.Proofs.Ytbccjomnfclkdaa
namespace Go.Proofs.Ytbccjomnfclkdaa
open Go.RowKit
theorem rnumF_numF : ∀ (f k n acc : Nat) (r : List Nat), k + f = 9 → n * 128 ^ k < 18446744073709551616 → (0 < k → 0 < n) → Wire.rnumF (f + 1) k acc (Wire.numF f n ++ r) = (acc + n * 128 ^ k, r, 0)
  | 0, k, n, acc, r, hk, hn, h0 => by
    have hk9 : k = 9 := by omega
    subst hk9
    have e9 : (128 : Nat) ^ 9 = 9223372036854775808 := by decide
    rw [e9] at hn
    have hn1 : n ≤ 1 := by omega
    have hn0 := h0 (by omega)
    simp only [Wire.numF, List.singleton_append, Wire.rnumF]
    rw [if_neg (by omega), if_pos (by omega)]
  | f + 1, k, n, acc, r, hk, hn, h0 => by
    by_cases hl : n < 128
    · simp only [Wire.numF, if_pos hl, List.singleton_append, Wire.rnumF]
      rw [if_neg (by omega)]
    · simp only [Wire.numF, if_neg hl, List.cons_append]
      rw [show f + 1 + 1 = (f + 1) + 1 from rfl]
      conv => lhs; unfold Wire.rnumF
      rw [if_neg (by omega), if_neg (by omega)]
      have hm : n = n % 128 + 128 * (n / 128) := (Nat.mod_add_div n 128).symm
      have e1 : (128 : Nat) ^ (k + 1) = 128 ^ k * 128 := Nat.pow_succ ..
      have hd : n / 128 * 128 ^ (k + 1) ≤ n * 128 ^ k := by
        rw [e1, Nat.mul_comm (128 ^ k) 128, ← Nat.mul_assoc]
        exact Nat.mul_le_mul_right _ (Nat.div_mul_le_self n 128)
      rw [rnumF_numF f (k + 1) (n / 128) _ r (by omega) (by omega) (fun _ => by omega)]
      have e2 : (n % 128 + 128) % 128 = n % 128 := by omega
      have e3 : acc + n % 128 * 128 ^ k + n / 128 * 128 ^ (k + 1) = acc + n * 128 ^ k := by
        rw [e1, Nat.mul_comm (128 ^ k) 128, ← Nat.mul_assoc, Nat.add_assoc, ← Nat.add_mul]
        congr 2
        omega
      rw [e2, e3]
theorem rnum_num (n : Nat) (r : List Nat) (hn : n < 18446744073709551616) : Wire.rnum (Wire.num n ++ r) = (n, r, 0) := by
  have := rnumF_numF 9 0 n 0 r rfl (by simpa using hn) (by omega)
  simpa [Wire.rnum, Wire.num] using this
theorem rnumF_cut : ∀ (f k n acc j : Nat), k + f = 9 → n * 128 ^ k < 18446744073709551616 → j < (Wire.numF f n).length → Wire.rnumF (f + 1) k acc ((Wire.numF f n).take j) = (0, [], 20)
  | 0, k, n, acc, j, hk, hn, hj => by
    simp [Wire.numF] at hj
    subst hj
    simp [Wire.rnumF]
  | f + 1, k, n, acc, j, hk, hn, hj => by
    rcases j with _ | j
    · simp [Wire.rnumF]
    · by_cases hl : n < 128
      · simp [Wire.numF, hl] at hj
      · simp only [Wire.numF, if_neg hl, List.length_cons] at hj
        simp only [Wire.numF, if_neg hl, List.take_succ_cons]
        conv => lhs; unfold Wire.rnumF
        rw [if_neg (by omega), if_neg (by omega)]
        have e1 : (128 : Nat) ^ (k + 1) = 128 ^ k * 128 := Nat.pow_succ ..
        have hd : n / 128 * 128 ^ (k + 1) ≤ n * 128 ^ k := by
          rw [e1, Nat.mul_comm (128 ^ k) 128, ← Nat.mul_assoc]
          exact Nat.mul_le_mul_right _ (Nat.div_mul_le_self n 128)
        exact rnumF_cut f (k + 1) (n / 128) _ j (by omega) (by omega) (by omega)
theorem rnum_cut (n j : Nat) (hn : n < 18446744073709551616) (hj : j < (Wire.num n).length) : Wire.rnum ((Wire.num n).take j) = (0, [], 20) :=
  rnumF_cut 9 0 n 0 j rfl (by simpa using hn) hj
theorem rtext_back (S : ByteArray) (r : List Nat) (h : S.size < 18446744073709551616) : Wire.rtext (S.size : Int) (Wire.num S.size ++ bytesS S ++ r) = (bytesS S, r, 0) := by
  unfold Wire.rtext
  rw [List.append_assoc, rnum_num S.size (bytesS S ++ r) h]
  have hl := bytesS_length S
  simp only
  rw [if_neg (by simp), if_neg (by omega), if_neg (by rw [List.length_append]; omega)]
  rw [List.take_append_of_le_length (by omega), List.take_of_length_le (by omega), List.drop_append_of_le_length (by omega), List.drop_of_length_le (by omega), List.nil_append]
theorem rtext_cut (S : ByteArray) (j : Nat) (h : S.size < 18446744073709551616) (hj : j < (Wire.num S.size ++ bytesS S).length) : Wire.rtext (S.size : Int) ((Wire.num S.size ++ bytesS S).take j) = ([], [], 20) := by
  have hl := bytesS_length S
  rw [List.length_append] at hj
  by_cases hc : j < (Wire.num S.size).length
  · rw [List.take_append_of_le_length (by omega)]
    unfold Wire.rtext
    rw [rnum_cut S.size j h hc]
    simp
  · have e : (Wire.num S.size ++ bytesS S).take j = Wire.num S.size ++ (bytesS S).take (j - (Wire.num S.size).length) := by
      rw [List.take_append, List.take_of_length_le (by omega)]
    rw [e]
    unfold Wire.rtext
    rw [rnum_num S.size _ h]
    simp only
    rw [if_neg (by simp), if_neg (by omega), if_pos (by rw [List.length_take]; omega)]
theorem str_bytesS (S : ByteArray) : str (bytesS S) = S := by
  unfold str bytesS
  rw [List.map_map]
  have : (UInt8.ofNat ∘ fun x : UInt8 => x.toNat) = id := by funext x; simp
  rw [this, List.map_id]
end Go.Proofs.Ytbccjomnfclkdaa
