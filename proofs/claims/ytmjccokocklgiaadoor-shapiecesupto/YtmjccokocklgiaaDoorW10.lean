/-
  The walk of the statements' own first question: the digest of abc, in digits, is the document's.
-/
import Derived.Test.YtmjccokocklgiaaDoorW9
import Derived.Lib.SlBytesConst
namespace Go.Proofs.YtmjccokocklgiaaDoor
open Go.RowKit

def abcD : List Nat := [186, 120, 22, 191, 143, 1, 207, 234, 65, 65, 64, 222, 93, 174, 34, 35, 176, 3, 97, 163, 150, 23, 122, 156, 180, 16, 255, 97, 242, 0, 21, 173]
set_option maxRecDepth 100000 in
theorem sum_abc : Sha.sum [97, 98, 99] = abcD := by decide +kernel
set_option maxRecDepth 100000 in
theorem hex_abc : str (Sha.hex abcD) = { data := #[98, 97, 55, 56, 49, 54, 98, 102, 56, 102, 48, 49, 99, 102, 101, 97, 52, 49, 52, 49, 52, 48, 100, 101, 53, 100, 97, 101, 50, 50, 50, 51, 98, 48, 48, 51, 54, 49, 97, 51, 57, 54, 49, 55, 55, 97, 57, 99, 98, 52, 49, 48, 102, 102, 54, 49, 102, 50, 48, 48, 49, 53, 97, 100] } := by decide +kernel
theorem abcD_lt : ∀ x ∈ abcD, x < 256 := by decide +kernel

theorem sum_abc_call (b cap : Nat) (w : World) (htab : Tab w) (h3 : 3 ≤ cap) (hcap : cap ≤ 9223372036854775807) (hc : ∀ j, j < 3 → w.cell? ⟨b, 0 + j, none⟩ = some (u8v ([97, 98, 99].getD j 0))) :
    Calls Tryd.prog 10 #[.slice (some ⟨b, 0, none⟩) 3 cap] w fun e w' => e = .returned (.agg (abcD.map u8v).toArray) ∧ Below w.heap.size w w' := by
  have h := sum_any [97, 98, 99] (by decide) (some ⟨b, 0, none⟩) b 0 cap w htab h3 hcap (by decide) (fun _ => rfl) hc
  rw [sum_abc] at h
  exact h
theorem hex_abc_call (w : World) :
    Calls Tryd.prog 19 #[.agg (abcD.map u8v).toArray] w fun e w' => e = .returned (.string { data := #[98, 97, 55, 56, 49, 54, 98, 102, 56, 102, 48, 49, 99, 102, 101, 97, 52, 49, 52, 49, 52, 48, 100, 101, 53, 100, 97, 101, 50, 50, 50, 51, 98, 48, 48, 51, 54, 49, 97, 51, 57, 54, 49, 55, 55, 97, 57, 99, 98, 52, 49, 48, 102, 102, 54, 49, 102, 50, 48, 48, 49, 53, 97, 100] }) ∧ Below w.heap.size w w' := by
  have h := hex_any abcD rfl abcD_lt w
  rw [hex_abc] at h
  exact h

set_option maxHeartbeats 400000 in
set_option maxRecDepth 100000 in
theorem awake_any (w : World) (htab : Tab w) : Calls Tryd.prog 9 #[] w fun e w' => e = .returned (.bool true) ∧ Below w.heap.size w w' := by
  have kc := fun (w : World) (C : Array Value) (n c : Nat) => Lib.run_convert_bytes_const (P := Tryd.prog) w 22 5 C n c Tryd.underlying22 Tryd.underlying5
  go_enter Tryd.func9, Tryd.ntmps9
  go_wp2_with fail
  have hb1 : Below w.heap.size w (w.alloc (.cells #[.int .u8 97, .int .u8 98, .int .u8 99] 5 (3, 4))) := (Below.refl _ _).alloc (Nat.le_refl _) _
  have htab1 := htab.below hb1 htab.pos
  refine (sum_abc_call w.heap.size 3 _ htab1 (by omega) (by omega) ?hc).mono ?_
  case hc =>
    intro j hj
    have : j = 0 ∨ j = 1 ∨ j = 2 := by omega
    rcases this with rfl | rfl | rfl <;> (rw [cell_of_row _ _ _ _ _ _ (heap_alloc_new w _)]; rfl)
  rintro e w2 ⟨rfl, hb2⟩
  have hbw2 : Below w.heap.size w w2 := hb1.trans (hb2.mono hb1.size)
  clear kc hb2 htab1
  obtain ⟨V, HV⟩ : ∃ V : Value, Hid (V = .agg (abcD.map u8v).toArray) := ⟨_, rfl⟩
  rw [← HV.out]
  have hx := hex_abc_call w2
  rw [← HV.out] at hx
  clear hb1
  go_wp2_with fail
  refine hx.mono ?_
  rintro e w3 ⟨rfl, hb3⟩
  clear hx
  go_wp2_with fail
  go_ret
  exact ⟨rfl, hbw2.trans (hb3.mono hbw2.size)⟩
end Go.Proofs.YtmjccokocklgiaaDoor
