/-
  The walks of the reference's Num, Int, Text and Flag.
-/
import Derived.Test.YtbccjomnfclkdaaV1
namespace Go.Proofs.Ytbccjomnfclkdaa
open Go.RowKit
set_option maxHeartbeats 1000000 in
set_option maxRecDepth 100000 in
theorem rwnum_any (w : World) (n : Nat) (hn : n < 18446744073709551616) :
    Calls Try.prog 30 #[.int .u64 (n : Int)] w fun e w' => ∃ v, e = .returned v ∧ w'.ownsRow w.heap.size 5 1 v (Wire.num n).length ((Wire.num n).map u8v) ∧ Below w.heap.size w w' := by
  obtain ⟨i5i, HI5, HE1, HE2, HE3⟩ := i5h
  go_enter Try.func30, Try.ntmps30
  go_wp2_with fail
  go_loopw [0, 3] (fun u v w' => ∃ (k m : Nat) (pre : List Nat), u = .int .u64 (m : Int) ∧ m < 128 ^ (k + 1) ∧ m < 18446744073709551616 ∧ pre.length + (k + 1) ≤ 10 ∧ pre ++ Wire.numF k m = Wire.num n ∧ w'.ownsRow w.heap.size 5 1 v pre.length (pre.map u8v) ∧ Below w.heap.size w w' ∧ w.heap.size ≤ w'.heap.size) (fun u _ _ => (intOf u).toNat)
  case atStart => exact ⟨9, n, [], rfl, by omega, hn, by simp, rfl, World.ownsRow_nil _ _ _ _, Below.refl _ _, Nat.le_refl _⟩
  case round =>
    obtain ⟨k, m, pre, rfl, hm, hm64, hpl, hpre, hown, hbel, hsz⟩ := hrel
    have HP := hid_in hpre
    have HB := hid_in hbel
    have hfit : pre.length + 1 ≤ 140737488355328 := by omega
    clear hpre hbel
    by_cases h128 : 128 ≤ m
    · have hk0 : k ≠ 0 := by intro h; subst h; simp at hm; omega
      obtain ⟨k', rfl⟩ : ∃ k', k = k' + 1 := ⟨k - 1, by omega⟩
      have k1 : (128 : Int) ≤ (m : Int) := by omega
      have HM2 : Hid (m / 128 < 128 ^ (k' + 1)) := by show _ < _; rw [Nat.div_lt_iff_lt_mul (by decide)]; rw [Nat.pow_succ] at hm; exact hm
      clear hm hk0
      go_wp2_with (at_builtin; refine wpList_append_one rfl _ _ 33 rfl w.heap.size 5 i5i (.int .u8 0) Try.underlying33 HI5.out HE3.out HE1.out HE2.out rfl _ _ _ rfl hown 5 _ rfl rfl hfit hsz ?_; intro v1 w1 hown1 hb1 hs1; have HB1 := hid_in hb1; clear hb1)
      go_roundw
      case rel =>
        go_light
        have e0 : (m : Int) / 128 = ((m / 128 : Nat) : Int) := by simp
        have e1 : (m : Int) % 128 + 128 = ((m % 128 + 128 : Nat) : Int) := by omega
        rw [e0]
        rw [e1] at hown1
        refine ⟨k', m / 128, pre ++ [m % 128 + 128], rfl, HM2.out, by omega, by rw [List.length_append]; simp; omega, ?_, ?_, HB1.out _ HB.out, hs1⟩
        · rw [← HP.out, List.append_assoc]
          congr 1
          simp only [Wire.numF]
          rw [if_neg (by omega)]
          rfl
        · rw [List.length_append, List.map_append]; exact hown1
      case measure => simp [intOf]; omega
    · have k1 : (m : Int) < 128 := by omega
      have HN : Hid (Wire.numF k m = [m]) := by
        show _ = _
        rcases k with _ | k
        · rfl
        · simp only [Wire.numF]; rw [if_pos (by omega)]
      clear hm
      go_wp2_with (at_builtin; refine wpList_append_one rfl _ _ 33 rfl w.heap.size 5 i5i (.int .u8 0) Try.underlying33 HI5.out HE3.out HE1.out HE2.out rfl _ _ _ rfl hown 5 _ rfl rfl hfit hsz ?_; intro v1 w1 hown1 hb1 hs1; have HB1 := hid_in hb1; clear hb1)
      go_ret
      refine ⟨_, rfl, ?_, HB1.out _ HB.out⟩
      rw [← HP.out, HN.out, List.length_append, List.map_append]
      exact hown1
set_option maxHeartbeats 1000000 in
theorem rwtext_any (w : World) (s : ByteArray) (hl : 10 + s.size ≤ 140737488355328) :
    Calls Try.prog 31 #[.string s] w fun e w' => ∃ v, e = .returned v ∧ w'.ownsRow w.heap.size 5 1 v (Wire.num s.size ++ bytesS s).length ((Wire.num s.size ++ bytesS s).map u8v) ∧ Below w.heap.size w w' := by
  obtain ⟨i5i, HI5, HE1, HE2, HE3⟩ := i5h
  have hnum := rwnum_any w s.size (by omega)
  have ks : (s.size : Int) ≤ 140737488355328 := by omega
  have hnl := num_length s.size
  go_enter Try.func31, Try.ntmps31
  go_wp2_with fail
  refine hnum.mono ?_
  rintro e w1 ⟨v1, rfl, hown, hb⟩
  have HB := hid_in hb
  have hbase : w.heap.size ≤ w1.heap.size := hb.size
  have hfit : (Wire.num s.size).length + s.size ≤ 140737488355328 := by omega
  clear hnum hb
  go_wp2_with (at_builtin; refine wpList_append_string_at rfl _ _ 33 9 rfl w.heap.size 5 i5i Try.underlying33 Try.underlying9 HI5.out HE3.out HE1.out HE2.out _ _ _ rfl hown s rfl hfit hbase ?_; intro v2 w2 hown2 hg2 hm2; have HG2 : Hid (w1.grownBy w2 v1.ownBlock) := hg2; clear hm2)
  go_ret
  refine ⟨_, rfl, ?_, own_step HB.out HG2.out hbase rfl hown⟩
  rw [List.length_append, List.map_append, bytesS_length, ← strCells_bytes]
  exact hown2
end Go.Proofs.Ytbccjomnfclkdaa
