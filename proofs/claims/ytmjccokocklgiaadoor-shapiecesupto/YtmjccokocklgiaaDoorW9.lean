/-
  The walk of sha.Hex: a digest's digits.
-/
import Derived.Test.YtmjccokocklgiaaDoorW8
import Derived.Test.YtmjccokocklgiaaDoorHx
import Derived.Laws.BytesArg
namespace Go.Proofs.YtmjccokocklgiaaDoor
open Go.RowKit

theorem idx25 (d : List Nat) (hd : d.length = 32) (i : Nat) (h : i < 32) (w : World) : (Instr.index 25 (.agg (d.map u8v).toArray) (.int .i64 (i : Int))).run Tryd.prog w = .ok (.int .u8 ((d.getD i 0 : Nat) : Int)) w := by
  have hsz : (sizeOf 5).run Tryd.prog w = .ok 1 w := by kernel_rfl
  have hpart : (part 5 (d.map u8v).toArray i).run Tryd.prog w = .ok (.int .u8 ((d.getD i 0 : Nat) : Int)) w := by
    have hagg : (isAgg 5).run Tryd.prog w = .ok false w := by kernel_rfl
    have hi : i < d.length := by omega
    simp [part, Sem.run_bind, hagg, hi, u8v]
  simp [Instr.index, asIntOf, run_underlying Tryd.underlying25, hsz, h, hpart]

theorem lt16 {n : Nat} (h : n < 16) : n = 0 ∨ n = 1 ∨ n = 2 ∨ n = 3 ∨ n = 4 ∨ n = 5 ∨ n = 6 ∨ n = 7 ∨ n = 8 ∨ n = 9 ∨ n = 10 ∨ n = 11 ∨ n = 12 ∨ n = 13 ∨ n = 14 ∨ n = 15 := by omega
theorem digit_at (n : Nat) (h : n < 16) (w : World) : (Instr.index 9 (.string { data := #[48, 49, 50, 51, 52, 53, 54, 55, 56, 57, 97, 98, 99, 100, 101, 102] }) (.int .u8 (n : Int))).run Tryd.prog w = .ok (.int .u8 (Sha.hexdig n : Int)) w := by
  rcases lt16 h with rfl | rfl | rfl | rfl | rfl | rfl | rfl | rfl | rfl | rfl | rfl | rfl | rfl | rfl | rfl | rfl <;> kernel_rfl

theorem conv_str (w : World) (b o : Nat) (l : List Nat) (cap n : Nat) (hn : l.length = n) (hc : ∀ j, j < l.length → w.cell? ⟨b, o + j, none⟩ = some (u8v (l.getD j 0))) :
    (convert 22 9 (.slice (some ⟨b, o, none⟩) n cap)).run Tryd.prog w = .ok (.string (str l)) w := by
  rw [run_convert_bytes_arg w 22 5 Tryd.underlying22 Tryd.underlying5 b o n cap (l.map fun (x : Nat) => (x : Int)) (by simpa using hn) (fun j hj => by rw [hc j (by omega)]; simp [u8v, show j < l.length by omega]) 9 Tryd.underlying9]
  congr 2
  simp [strOfNums, str]
theorem make64 : ∃ Z : List Value, (∀ w : World, (Instr.makeSlice 22 (.int .i64 0) (.int .i64 64)).run Tryd.prog w = .ok (.slice (some ⟨w.heap.size, 0, none⟩) 0 64) (w.alloc (.cells Z.toArray 5))) ∧ Hid (Z = (hacc [] 0).map u8v) :=
  ⟨(List.replicate 64 0).map u8v, fun _ => by kernel_rfl, rfl⟩

set_option maxHeartbeats 400000 in
set_option maxRecDepth 100000 in
theorem hex_any (d : List Nat) (hd : d.length = 32) (hdb : ∀ x ∈ d, x < 256) (w : World) :
    Calls Tryd.prog 19 #[.agg (d.map u8v).toArray] w fun e w' => e = .returned (.string (str (Sha.hex d))) ∧ Below w.heap.size w w' := by
  obtain ⟨Z, hmk, hZ⟩ := make64
  go_enter Tryd.func19, Tryd.ntmps19
  go_wp2_with (first | (refine wpList_load_Row rfl 25 _ rfl w.heap.size rfl 25 (d.map u8v) ((Row.newAt w _ _ 25 rfl).alloc _) _ Tryd.underlying25 rfl 32 info25 (by simp [hd]) ?_))
  go_loopw [3, 8] (fun v3 vi w' => ∃ i : Nat, i ≤ 32 ∧ vi = .int .i64 (i : Int) ∧ v3 = .slice (some ⟨w.heap.size + 1, 0, none⟩) (2 * i) 64 ∧ Row w' (w.heap.size + 1) ((hacc d i).map u8v) 5 ∧ Below w.heap.size w w') (fun _ vi _ => 32 - (intOf vi).toNat)
  case atStart =>
    refine ⟨0, by omega, rfl, rfl, ?_, ((Below.refl _ _).alloc (Nat.le_refl _) _).alloc (by simp) _⟩
    rw [hZ.out]
    exact Row.newAt (w.alloc _) _ _ 5 (by simp)
  case round =>
    clear hmk
    obtain ⟨i, hi, rfl, rfl, hr, hbw⟩ := hrel
    by_cases hlt : i < 32
    · have hl := hacc_length d hd i hi
      have hx256 : d.getD i 0 < 256 := getD_lt hdb i
      have c0 : wr.cell? ⟨w.heap.size + 1, 2 * i, none⟩ = some (.int .u8 (((hacc d i).getD (2 * i) 0 : Nat) : Int)) := hr.cellMap _ (by omega)
      have c1 : wr.cell? ⟨w.heap.size + 1, 2 * i + 1, none⟩ = some (.int .u8 (((hacc d i).getD (2 * i + 1) 0 : Nat) : Int)) := hr.cellMap _ (by omega)
      have f0 := hr.frozen (2 * i)
      have f1 := hr.frozen (2 * i + 1)
      have hlt1 : w.heap.size + 1 < wr.heap.size := hr.lt
      have HS : Hid (((hacc d i).set (2 * i) (Sha.hexdig (d.getD i 0 / 16))).set (2 * i + 1) (Sha.hexdig (d.getD i 0 % 16)) = hacc d (i + 1)) := hacc_set d hd i hlt
      have hidx := idx25 d hd i hlt
      generalize (hacc d i).getD (2 * i) 0 = y0 at c0
      generalize (hacc d i).getD (2 * i + 1) 0 = y1 at c1
      generalize d.getD i 0 = x at hx256 HS hidx
      have hA : ∀ w, (Instr.index 9 (.string { data := #[48, 49, 50, 51, 52, 53, 54, 55, 56, 57, 97, 98, 99, 100, 101, 102] }) (.int .u8 ((x : Int) / 16))).run Tryd.prog w = .ok (.int .u8 (Sha.hexdig (x / 16) : Int)) w := by
        intro w; have := digit_at (x / 16) (by omega) w; rw [show ((x / 16 : Nat) : Int) = (x : Int) / 16 by omega] at this; exact this
      have hB : ∀ w, (Instr.index 9 (.string { data := #[48, 49, 50, 51, 52, 53, 54, 55, 56, 57, 97, 98, 99, 100, 101, 102] }) (.int .u8 ((x : Int) % 16))).run Tryd.prog w = .ok (.int .u8 (Sha.hexdig (x % 16) : Int)) w := by
        intro w; have := digit_at (x % 16) (by omega) w; rw [show ((x % 16 : Nat) : Int) = (x : Int) % 16 by omega] at this; exact this
      generalize Sha.hexdig (x / 16) = p at hA HS
      generalize Sha.hexdig (x % 16) = q at hB HS
      go_wp2_with fail
      go_region
      go_wp2
      go_roundw
      case rel =>
        go_light
        refine ⟨i + 1, by omega, by go_num, rfl, ?_, ?_⟩
        · rw [← HS.out, List.map_set, List.map_set]
          exact (((hr.set_same _ _).set_same _ _).alloc _).drew
        · exact (((hbw.setCell (by simp) _).setCell (by simp) _).alloc (by simp [World.setCell]; omega) _).drew
      case measure => simp [intOf]; omega
    · have HI : Hid (i = 32) := by show i = 32; omega
      have e1 : hacc d i = Sha.hex d := by
        rw [HI.out]; unfold hacc; rw [List.take_of_length_le (by omega)]; simp
      rw [e1] at hr
      have hlen : (Sha.hex d).length = 2 * i := by rw [hex_length]; have := HI.out; omega
      have hcv := conv_str wr (w.heap.size + 1) 0 (Sha.hex d) 64 (2 * i) hlen (fun j hj => by rw [Nat.zero_add]; exact hr.cellMap j hj)
      obtain ⟨H, HH⟩ : ∃ H, Hid (H = str (Sha.hex d)) := ⟨_, rfl⟩
      rw [← HH.out] at hcv
      clear hlen e1
      go_wp2
      go_ret
      exact ⟨by rw [← HH.out]; rfl, hbw⟩
end Go.Proofs.YtmjccokocklgiaaDoor
