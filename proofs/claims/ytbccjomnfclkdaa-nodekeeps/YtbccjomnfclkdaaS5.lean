/-
  The walks of wire.Frame and wire.Next.
-/
import Derived.Test.YtbccjomnfclkdaaS3
namespace Go.Proofs.Ytbccjomnfclkdaa
open Go.RowKit
theorem row_sl0 {w : World} {g : Nat} {xs : List Nat} (hr : Row w g (xs.map u8v) 5) (hlt : ∀ x ∈ xs, x < 256) (h2 : xs.length ≤ 9223372036854775807) : Sl w (some ⟨g, 0, none⟩) xs xs.length g 0 :=
  row_sl hr (List.take_of_length_le (by simp)) (Nat.le_refl _) hlt (Nat.le_refl _) h2
theorem own_mono {w : World} {B B' n : Nat} {v : Value} {xs : List Value} (h : w.ownsRow B 5 1 v n xs) (hb : B' ≤ B) : w.ownsRow B' 5 1 v n xs := by
  obtain ⟨h1, h2 | ⟨g, cap, cur, hv, hB, r⟩⟩ := h
  · exact ⟨h1, .inl h2⟩
  · exact ⟨h1, .inr ⟨g, cap, cur, hv, Nat.le_trans hb hB, r⟩⟩
end Go.Proofs.Ytbccjomnfclkdaa
