/-
  A digest's digits, in plain numbers.
-/
import Derived.Test.YtmjccokocklgiaaDoorMem
namespace Go.Proofs.YtmjccokocklgiaaDoor
namespace Sha
def hexdig (n : Nat) : Nat := if n < 10 then 48 + n else 87 + n
def hx (x : Nat) : List Nat := [hexdig (x / 16), hexdig (x % 16)]
def hex (d : List Nat) : List Nat := d.flatMap hx
end Sha
theorem hexdig_lt (n : Nat) (h : n < 16) : Sha.hexdig n < 256 := by unfold Sha.hexdig; split <;> omega
theorem hex_length (d : List Nat) : (Sha.hex d).length = 2 * d.length := by
  induction d with
  | nil => rfl
  | cons x d ih => simp only [Sha.hex, List.flatMap_cons, List.length_append, List.length_cons] at *; rw [ih]; simp [Sha.hx]; omega
theorem hex_append (a b : List Nat) : Sha.hex (a ++ b) = Sha.hex a ++ Sha.hex b := by simp [Sha.hex]
/-- the digits while i bytes have been written, in room for 64 -/
def hacc (d : List Nat) (i : Nat) : List Nat := Sha.hex (d.take i) ++ List.replicate (64 - 2 * i) 0
theorem hacc_length (d : List Nat) (hd : d.length = 32) (i : Nat) (hi : i ≤ 32) : (hacc d i).length = 64 := by
  simp [hacc, hex_length]; omega
theorem hacc_set (d : List Nat) (hd : d.length = 32) (i : Nat) (hi : i < 32) : ((hacc d i).set (2 * i) (Sha.hexdig (d.getD i 0 / 16))).set (2 * i + 1) (Sha.hexdig (d.getD i 0 % 16)) = hacc d (i + 1) := by
  have e1 : hacc d i = Sha.hex (d.take i) ++ 0 :: (0 :: List.replicate (62 - 2 * i) 0) := by
    unfold hacc; rw [show 64 - 2 * i = (62 - 2 * i) + 1 + 1 by omega]; rfl
  have e2 : hacc d (i + 1) = Sha.hex (d.take i) ++ Sha.hexdig (d.getD i 0 / 16) :: (Sha.hexdig (d.getD i 0 % 16) :: List.replicate (62 - 2 * i) 0) := by
    unfold hacc
    rw [List.take_succ_eq_append_getElem (by omega), hex_append, show 64 - 2 * (i + 1) = 62 - 2 * i by omega]
    simp [Sha.hex, Sha.hx, show i < d.length by omega]
  have hl : (Sha.hex (d.take i)).length = 2 * i := by rw [hex_length]; simp; omega
  rw [e1, e2]
  have s1 : ∀ (y : Nat), (Sha.hex (d.take i) ++ 0 :: (0 :: List.replicate (62 - 2 * i) 0)).set (2 * i) y = Sha.hex (d.take i) ++ y :: (0 :: List.replicate (62 - 2 * i) 0) := by
    intro y; rw [List.set_append_right _ _ (by omega), hl, Nat.sub_self]; rfl
  rw [s1, List.set_append_right _ _ (by omega), hl, show 2 * i + 1 - 2 * i = 1 by omega]
  rfl
theorem hex_lt (d : List Nat) (h : ∀ x ∈ d, x < 256) : ∀ y ∈ Sha.hex d, y < 256 := by
  intro y hy
  simp only [Sha.hex, List.mem_flatMap] at hy
  obtain ⟨x, hx, hy⟩ := hy
  have := h x hx
  simp only [Sha.hx, List.mem_cons, List.not_mem_nil, or_false] at hy
  rcases hy with rfl | rfl
  · exact hexdig_lt _ (by omega)
  · exact hexdig_lt _ (by omega)
/-- bytes as a string -/
def str (l : List Nat) : ByteArray := ⟨(l.map UInt8.ofNat).toArray⟩
theorem str_size (l : List Nat) : (str l).size = l.length := by simp [str, ByteArray.size]
end Go.Proofs.YtmjccokocklgiaaDoor
