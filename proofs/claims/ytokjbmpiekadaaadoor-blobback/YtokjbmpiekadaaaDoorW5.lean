/-
  The walk of sha.ending: what comes behind the bytes.
-/
import Derived.Test.YtokjbmpiekadaaaDoorW4
namespace Go.Proofs.YtokjbmpiekadaaaDoor
open Go.RowKit

/-- the last i bytes of a count -/
def cb (c : Nat) : Nat → List Nat
  | 0 => []
  | i + 1 => (c / 2 ^ (8 * i) % 256) :: cb c i
/-- the ending while i bytes of the count have been written -/
def eacc (z c i : Nat) : List Nat := 128 :: (List.replicate (z + (8 - i)) 0 ++ cb c i)
theorem cb_length (c i : Nat) : (cb c i).length = i := by
  induction i with
  | zero => rfl
  | succ i ih => simp [cb, ih]
theorem eacc_length (z c i : Nat) (h : i ≤ 8) : (eacc z c i).length = z + 9 := by simp [eacc, cb_length]; omega
theorem set_mid {α : Type} (A B : List α) (x y : α) (k : Nat) (h : k = A.length) : (A ++ x :: B).set k y = A ++ y :: B := by
  subst h; simp
theorem eacc_set (z c i : Nat) (h : i < 8) : (eacc z c i).set (z + 8 - i) (c / 2 ^ (8 * i) % 256) = eacc z c (i + 1) := by
  have e1 : eacc z c i = (128 :: List.replicate (z + (7 - i)) 0) ++ 0 :: cb c i := by
    unfold eacc
    rw [show z + (8 - i) = z + (7 - i) + 1 by omega, List.replicate_succ']
    simp
  have e2 : eacc z c (i + 1) = (128 :: List.replicate (z + (7 - i)) 0) ++ (c / 2 ^ (8 * i) % 256) :: cb c i := by
    unfold eacc
    rw [show 8 - (i + 1) = 7 - i by omega]
    rfl
  rw [e1, e2, set_mid _ _ _ _ _ (by simp; omega)]
theorem eacc_all (n z : Nat) (hz : z = (119 - n % 64) % 64) : eacc z (n * 8) 8 = Sha.ending n := by
  subst hz
  simp [eacc, cb, Sha.ending]
theorem ending_length (n : Nat) : (Sha.ending n).length = (119 - n % 64) % 64 + 9 := by simp [Sha.ending]

theorem eacc_start (w : World) (z c : Nat) : Row (w.alloc (.cells ((Array.replicate (z + 9) (u8v 0)).setIfInBounds 0 (.int .u8 128)) 5)) w.heap.size ((eacc z c 0).map u8v) 5 := by
  have e : (Array.replicate (z + 9) (u8v 0)).setIfInBounds 0 (.int .u8 128) = ((eacc z c 0).map u8v).toArray := by
    rw [← Array.toList_inj, Array.toList_setIfInBounds, Array.toList_replicate, List.replicate_succ]
    simp [eacc, cb, u8v]
  rw [e]
  exact Row.newAt w _ _ 5 rfl

set_option maxHeartbeats 400000 in
set_option maxRecDepth 100000 in
theorem ending_any (n : Nat) (hn : n < 1152921504606846976) (w : World) :
    Calls Tryd.prog 63 #[.int .i64 (n : Int)] w fun e w' => e = .returned (.slice (some ⟨w.heap.size, 0, none⟩) (Sha.ending n).length (Sha.ending n).length) ∧ Row w' w.heap.size ((Sha.ending n).map u8v) 5 ∧ Below w.heap.size w w' ∧ w'.heap.size = w.heap.size + 1 := by
  obtain ⟨z, hz⟩ : ∃ z, z = (119 - n % 64) % 64 := ⟨_, rfl⟩
  have HZ : Hid (z = (119 - n % 64) % 64) := hz
  have hzl : z < 64 := by omega
  have hz1 : (119 - (n : Int)) % 64 = (z : Int) := by omega
  have hmk : ∀ w, (Instr.makeSlice 30 (.int .i64 (1 + (z : Int) + 8)) (.int .i64 (1 + (z : Int) + 8))).run Tryd.prog w = .ok (.slice (some ⟨w.heap.size, 0, none⟩) (z + 9) (z + 9)) (w.alloc (.cells ((List.replicate (z + 9) 0).map u8v).toArray 5)) := by
    intro w
    have := make_bytes (z + 9) (by omega) w
    rw [show ((z + 9 : Nat) : Int) = 1 + (z : Int) + 8 by omega] at this
    exact this
  clear hz
  go_enter Tryd.func63, Tryd.ntmps63
  go_wp2_with fail
  go_loopw [20] (fun v w' => ∃ i : Nat, i ≤ 8 ∧ v = .int .i64 (i : Int) ∧ Row w' w.heap.size ((eacc z (n * 8) i).map u8v) 5 ∧ Below w.heap.size w w' ∧ w'.heap.size = w.heap.size + 1) (fun v _ => 8 - (intOf v).toNat)
  case atStart => exact ⟨0, by omega, rfl, eacc_start w z (n * 8), (Below.refl _ _).alloc (Nat.le_refl _) _, by simp⟩
  case round =>
    obtain ⟨i, hi, rfl, hr1, hbw, hsz⟩ := hrel
    have hl := eacc_length z (n * 8) i hi
    have HL : Hid ((eacc z (n * 8) i).length = z + 9) := hl
    have HSZ : Hid (wr.heap.size = w.heap.size + 1) := hsz
    clear hsz
    by_cases hlt : i < 8
    · have c0 : wr.cell? ⟨w.heap.size, z + 8 - i, none⟩ = some (.int .u8 (((eacc z (n * 8) i).getD (z + 8 - i) 0 : Nat) : Int)) := hr1.cellMap _ (by omega)
      have f0 := hr1.frozen (z + 8 - i)
      have HS : Hid ((eacc z (n * 8) i).set (z + 8 - i) (n * 8 / 2 ^ (8 * i) % 256) = eacc z (n * 8) (i + 1)) := eacc_set z (n * 8) i hlt
      generalize (eacc z (n * 8) i).getD (z + 8 - i) 0 = y0 at c0
      clear hl hmk hz1
      go_wp2
      go_roundw
      case rel =>
        go_light
        have e0 : (n : Int) * 8 / 2 ^ (8 * i) % 256 = ((n * 8 / 2 ^ (8 * i) % 256 : Nat) : Int) := by simp
        rw [e0]
        refine ⟨i + 1, by omega, by go_num, ?_, hbw.setCell (Nat.le_refl _) _, by simpa [World.setCell] using HSZ.out⟩
        rw [← HS.out, List.map_set]
        exact hr1.set_same _ _
      case measure => simp [intOf]; omega
    · have HI : Hid (i = 8) := by show i = 8; omega
      clear hl hmk
      go_wp2
      go_ret
      have e1 : eacc z (n * 8) i = Sha.ending n := by rw [HI.out]; exact eacc_all n z HZ.out
      rw [e1] at hr1
      rw [ending_length, ← HZ.out]
      exact ⟨rfl, hr1, hbw, HSZ.out⟩
end Go.Proofs.YtokjbmpiekadaaaDoor
