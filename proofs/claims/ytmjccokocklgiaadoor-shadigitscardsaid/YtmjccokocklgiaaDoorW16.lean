/-
  The walk of the reference's Hex.
-/
import Derived.Test.YtmjccokocklgiaaDoorW15
namespace Go.Proofs.YtmjccokocklgiaaDoor
open Go.RowKit

theorem cut_at (n : Nat) (h : n < 16) (w : World) : (Instr.slice 9 (.string { data := #[48, 49, 50, 51, 52, 53, 54, 55, 56, 57, 97, 98, 99, 100, 101, 102] }) (some (.int .u8 (n : Int))) (some (.int .u8 (n + 1 : Int))) none).run Tryd.prog w = .ok (.string (str [Sha.hexdig n])) w := by
  rcases lt16 h with rfl | rfl | rfl | rfl | rfl | rfl | rfl | rfl | rfl | rfl | rfl | rfl | rfl | rfl | rfl | rfl <;> kernel_rfl
theorem cutAt_at (n : Nat) (h : n < 16) (w : World) : (Instr.sliceAt 9 (.string { data := #[48, 49, 50, 51, 52, 53, 54, 55, 56, 57, 97, 98, 99, 100, 101, 102] }) (some (.int .u8 (n : Int))) (some (.int .u8 (n + 1 : Int))) none).run Tryd.prog w = .ok (.string (str [Sha.hexdig n])) w := by
  rcases lt16 h with rfl | rfl | rfl | rfl | rfl | rfl | rfl | rfl | rfl | rfl | rfl | rfl | rfl | rfl | rfl | rfl <;> kernel_rfl
theorem str_append (a b : List Nat) : str a ++ str b = str (a ++ b) := by
  apply ByteArray.ext
  simp [str]

set_option maxHeartbeats 400000 in
set_option maxRecDepth 100000 in
theorem rhex_any (d : List Nat) (hd : d.length = 32) (hdb : ∀ x ∈ d, x < 256) (w : World) :
    Calls Tryd.prog 20 #[.agg (d.map u8v).toArray] w fun e w' => e = .returned (.string (str (Sha.hex d))) ∧ Below w.heap.size w w' := by
  go_enter Tryd.func20, Tryd.ntmps20
  go_wp2_with fail
  go_loopw [4, 5] (fun vo vi w' => ∃ (i : Nat) (O : ByteArray), i ≤ 32 ∧ vi = .int .i64 (i : Int) ∧ vo = .string O ∧ O = str (Sha.hex (d.take i)) ∧ Row w' w.heap.size (d.map u8v) 25 ∧ Below w.heap.size w w') (fun _ vi _ => 32 - (intOf vi).toNat)
  case atStart => exact ⟨0, _, by omega, rfl, rfl, rfl, Row.newAt w _ _ 25 rfl, (Below.refl _ _).alloc (Nat.le_refl _) _⟩
  case round =>
    obtain ⟨i, O, hi, rfl, rfl, hO, hr, hbw⟩ := hrel
    have HO : Hid (O = str (Sha.hex (d.take i))) := hO
    have hOs : O.size = 2 * i := by rw [hO, str_size, hex_length]; simp; omega
    clear hO
    by_cases hlt : i < 32
    · have g1 : (i : Int) < 32 := by omega
      have hx256 : d.getD i 0 < 256 := getD_lt hdb i
      have c0 : wr.cell? ⟨w.heap.size, i, none⟩ = some (.int .u8 ((d.getD i 0 : Nat) : Int)) := hr.cellMap _ (by omega)
      have HT : Hid (Sha.hex (d.take (i + 1)) = Sha.hex (d.take i) ++ [Sha.hexdig (d.getD i 0 / 16)] ++ [Sha.hexdig (d.getD i 0 % 16)]) := by
        show _ = _
        rw [List.take_succ_eq_append_getElem (by omega), hex_append]
        simp [Sha.hex, Sha.hx, show i < d.length by omega]
      generalize d.getD i 0 = x at hx256 HT c0
      obtain ⟨A, HA, hAs⟩ : ∃ A, Hid (A = str [Sha.hexdig (x / 16)]) ∧ A.size = 1 := ⟨_, rfl, str_size _⟩
      obtain ⟨B, HB, hBs⟩ : ∃ B, Hid (B = str [Sha.hexdig (x % 16)]) ∧ B.size = 1 := ⟨_, rfl, str_size _⟩
      have hA : ∀ w, (Instr.slice 9 (.string { data := #[48, 49, 50, 51, 52, 53, 54, 55, 56, 57, 97, 98, 99, 100, 101, 102] }) (some (.int .u8 ((x : Int) / 16))) (some (.int .u8 ((x : Int) / 16 + 1))) none).run Tryd.prog w = .ok (.string A) w := by
        intro w; have := cut_at (x / 16) (by omega) w; rw [show ((x / 16 : Nat) : Int) = (x : Int) / 16 by omega, ← HA.out] at this; exact this
      have hA' : ∀ w, (Instr.sliceAt 9 (.string { data := #[48, 49, 50, 51, 52, 53, 54, 55, 56, 57, 97, 98, 99, 100, 101, 102] }) (some (.int .u8 ((x : Int) / 16))) (some (.int .u8 ((x : Int) / 16 + 1))) none).run Tryd.prog w = .ok (.string A) w := by
        intro w; have := cutAt_at (x / 16) (by omega) w; rw [show ((x / 16 : Nat) : Int) = (x : Int) / 16 by omega, ← HA.out] at this; exact this
      have hB : ∀ w, (Instr.slice 9 (.string { data := #[48, 49, 50, 51, 52, 53, 54, 55, 56, 57, 97, 98, 99, 100, 101, 102] }) (some (.int .u8 ((x : Int) % 16))) (some (.int .u8 ((x : Int) % 16 + 1))) none).run Tryd.prog w = .ok (.string B) w := by
        intro w; have := cut_at (x % 16) (by omega) w; rw [show ((x % 16 : Nat) : Int) = (x : Int) % 16 by omega, ← HB.out] at this; exact this
      have hB' : ∀ w, (Instr.sliceAt 9 (.string { data := #[48, 49, 50, 51, 52, 53, 54, 55, 56, 57, 97, 98, 99, 100, 101, 102] }) (some (.int .u8 ((x : Int) % 16))) (some (.int .u8 ((x : Int) % 16 + 1))) none).run Tryd.prog w = .ok (.string B) w := by
        intro w; have := cutAt_at (x % 16) (by omega) w; rw [show ((x % 16 : Nat) : Int) = (x : Int) % 16 by omega, ← HB.out] at this; exact this
      go_wp2_with fail
      go_quiet (fail)
      go_wp2
      go_roundw
      case rel =>
        go_light
        refine ⟨i + 1, O ++ A ++ B, by omega, by go_num, rfl, ?_, hr.drewN _, below_drewN hbw _⟩
        rw [HO.out, HA.out, HB.out, str_append, str_append, HT.out]
      case measure => simp [intOf]; omega
    · have g1 : ¬ (i : Int) < 32 := by omega
      have HI : Hid (i = 32) := by show i = 32; omega
      go_wp2
      go_ret
      refine ⟨?_, hbw⟩
      rw [HI.out, List.take_of_length_le (by omega)] at HO
      rw [← HO.out]
      rfl
end Go.Proofs.YtmjccokocklgiaaDoor
