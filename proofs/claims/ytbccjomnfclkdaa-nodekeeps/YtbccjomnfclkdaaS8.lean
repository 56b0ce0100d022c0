/-
  The walks of (*wire.Out).Num, Int and Bytes.
-/
import Derived.Test.YtbccjomnfclkdaaS7
namespace Go.Proofs.Ytbccjomnfclkdaa
open Go.RowKit
theorem numF_lt : ∀ (k n : Nat), n < 128 ^ (k + 1) → ∀ x ∈ Wire.numF k n, x < 256
  | 0, n, h, x, hx => by simp [Wire.numF] at hx; omega
  | k + 1, n, h, x, hx => by
    simp only [Wire.numF] at hx
    split at hx
    · simp at hx; omega
    · rcases List.mem_cons.1 hx with rfl | hx
      · omega
      · exact numF_lt k (n / 128) (by rw [Nat.div_lt_iff_lt_mul (by decide)]; rw [Nat.pow_succ] at h; exact h) x hx
theorem numF_length : ∀ (k n : Nat), (Wire.numF k n).length ≤ k + 1
  | 0, n => by simp [Wire.numF]
  | k + 1, n => by
    simp only [Wire.numF]
    split
    · simp
    · simp only [List.length_cons]; have := numF_length k (n / 128); omega
theorem num_lt (n : Nat) (h : n < 18446744073709551616) : ∀ x ∈ Wire.num n, x < 256 := numF_lt 9 n (by omega)
theorem num_length (n : Nat) : (Wire.num n).length ≤ 10 := numF_length 9 n
theorem out_step {w w1 w2 : World} {B g : Nat} {v v1 : Value} {xs : List Nat} {y : Nat} (hy : y < 256) (ho : OutIs w B g v xs) (hown : w1.ownsRow B 5 1 v1 (xs.length + 1) (xs.map u8v ++ [u8v y])) (hg : Grew w w1 (fun k => some k = v.ownBlock)) (hm : Moved w v v1) (h2 : w2 = w1.setCell ⟨g, 0, none⟩ v1) :
    OutIs w2 B g v1 (xs ++ [y]) ∧ Grew w w2 (OutS g v) := by
  have hr1 : Row w1 g [v] 62 := ho.row.grew hg (fun h => ho.apart h.symm)
  have hap : v1.ownBlock ≠ some g := by
    rcases hm with hm | ⟨q, hq, hs⟩
    · rw [hm]; exact ho.apart
    · rw [hq]; intro h; cases h; have := ho.row.lt; omega
  have hgs : w1.grownBy w2 (some g) := by rw [h2]; exact grownBy_setCell w1 ⟨g, 0, none⟩ _
  refine ⟨⟨?_, ?_, hap, Nat.le_trans ho.base (Nat.le_trans hg.size hgs.size), ?_⟩, ?_⟩
  · rw [h2]; exact hr1.set_same 0 v1
  · have : w2.ownsRow B 5 1 v1 (xs.length + 1) (xs.map u8v ++ [u8v y]) := hown.kept hgs (.inr hap)
    rw [List.length_append, List.map_append]
    exact this
  · intro x hx
    rcases List.mem_append.1 hx with hx | hx
    · exact ho.lt x hx
    · simp at hx; omega
  · refine (hg.mono (fun q hq => Or.inr hq)).trans (Grew.of_grown hgs) (fun q _ hq => ?_)
    cases hq
    exact Or.inl rfl
set_option maxHeartbeats 1000000 in
set_option maxRecDepth 100000 in
theorem onum_any (w : World) (B g : Nat) (v : Value) (xs : List Nat) (n : Nat) (hn : n < 18446744073709551616) (ho : OutIs w B g v xs) (hl : xs.length + 10 ≤ 140737488355328) :
    Calls Try.prog 23 #[.pointer (some ⟨g, 0, none⟩), .int .u64 (n : Int)] w fun e w' => e = .returned (.tuple #[]) ∧ ∃ v', OutIs w' B g v' (xs ++ Wire.num n) ∧ Grew w w' (OutS g v) ∧ Moved w v v' := by
  obtain ⟨i5i, HI5, HE1, HE2, HE3⟩ := i5h
  go_enter Try.func23, Try.ntmps23
  go_wp2_with fail
  go_loopw [1] (fun u w' => ∃ (k m : Nat) (pre : List Nat) (v' : Value), u = .int .u64 (m : Int) ∧ m < 128 ^ (k + 1) ∧ m < 18446744073709551616 ∧ pre.length + (k + 1) ≤ 10 ∧ pre ++ Wire.numF k m = Wire.num n ∧ OutIs w' B g v' (xs ++ pre) ∧ Grew w w' (OutS g v) ∧ Moved w v v') (fun u _ => (intOf u).toNat)
  case atStart => exact ⟨9, n, [], v, rfl, by omega, hn, by simp, rfl, by simpa using ho, Grew.refl _ _, Moved.refl _ _⟩
  case round =>
    obtain ⟨k, m, pre, v', rfl, hm, hm64, hpl, hpre, ho', hg, hmv⟩ := hrel
    obtain ⟨ys, hys⟩ : ∃ ys, Hid (ys = xs ++ pre) := ⟨_, rfl⟩
    have hyl : ys.length = xs.length + pre.length := by rw [hys.out, List.length_append]
    rw [← hys.out] at ho'
    have c0 : wr.cell? ⟨g, 0, none⟩ = some v' := ho'.row.cell 0
    have f0 := ho'.row.frozen 0
    have hown' := ho'.own
    have hbase := ho'.base
    have hfit : ys.length + 1 ≤ 140737488355328 := by omega
    clear hyl
    have HO : Hid (OutIs wr B g v' ys) := ho'
    have HG : Hid (Grew w wr (OutS g v)) := hg
    have HM : Hid (Moved w v v') := hmv
    have HP : Hid (pre ++ Wire.numF k m = Wire.num n) := hpre
    clear ho' hg hmv hpre ho
    by_cases h128 : 128 ≤ m
    · have hk0 : k ≠ 0 := by intro h; subst h; simp at hm; omega
      obtain ⟨k', rfl⟩ : ∃ k', k = k' + 1 := ⟨k - 1, by omega⟩
      clear hk0
      have k1 : (128 : Int) ≤ (m : Int) := by omega
      have ho1 := or128 (m % 256) (by omega)
      rw [show ((m % 256 : Nat) : Int) = (m : Int) % 256 by simp, show m % 256 % 128 = m % 128 by omega] at ho1
      have HM2 : Hid (m / 128 < 128 ^ (k' + 1)) := by show _ < _; rw [Nat.div_lt_iff_lt_mul (by decide)]; rw [Nat.pow_succ] at hm; exact hm
      clear hm
      go_wp2_with (at_builtin; refine wpList_append_one_at rfl _ _ 33 rfl B 5 i5i (.int .u8 0) Try.underlying33 HI5.out HE3.out HE1.out HE2.out rfl _ _ _ rfl hown' 5 _ rfl rfl hfit hbase ?_; intro v1 w1 hown1 hg1 hm1; have HM1 := hid_in hm1; clear hm1; obtain ⟨q1, cq1, rfl, _, _⟩ := hown1.form (Nat.succ_pos _); have cg : w1.cell? ⟨g, 0, none⟩ = some v' := (HO.out.row.grew hg1 (fun h => HO.out.apart h.symm)).cell 0; have fg := (HO.out.row.grew hg1 (fun h => HO.out.apart h.symm)).frozen 0)
      have hstep := out_step (y := m % 128 + 128) (by omega) HO.out hown1 hg1 HM1.out rfl
      go_roundw
      case rel =>
        go_light
        have e0 : (m : Int) / 128 = ((m / 128 : Nat) : Int) := by simp
        rw [e0]
        refine ⟨k', m / 128, pre ++ [m % 128 + 128], .slice (some ⟨q1, 0, none⟩) (ys.length + 1) cq1, rfl, HM2.out, by omega, by rw [List.length_append]; simp; omega, ?_, ?_, ?_, ?_⟩
        · rw [← HP.out, List.append_assoc]
          congr 1
          simp only [Wire.numF]
          rw [if_neg (by omega)]
          rfl
        · rw [← List.append_assoc, ← hys.out]; exact hstep.1
        · refine HG.out.trans hstep.2 (fun q hq hs => ?_)
          rcases hs with rfl | hs
          · exact Or.inl rfl
          · rcases HM.out with h | ⟨q', h, hq'⟩
            · exact Or.inr (hs.trans h)
            · rw [h] at hs; cases hs; omega
        · exact HM.out.trans HM1.out HG.out.size
      case measure => simp [intOf]; omega
    · have k1 : (m : Int) < 128 := by omega
      have HN : Hid (Wire.numF k m = [m]) := by
        show _ = _
        rcases k with _ | k
        · rfl
        · simp only [Wire.numF]; rw [if_pos (by omega)]
      clear hm
      go_wp2_with (at_builtin; refine wpList_append_one_at rfl _ _ 33 rfl B 5 i5i (.int .u8 0) Try.underlying33 HI5.out HE3.out HE1.out HE2.out rfl _ _ _ rfl hown' 5 _ rfl rfl hfit hbase ?_; intro v1 w1 hown1 hg1 hm1; have HM1 := hid_in hm1; clear hm1; obtain ⟨q1, cq1, rfl, _, _⟩ := hown1.form (Nat.succ_pos _); have cg : w1.cell? ⟨g, 0, none⟩ = some v' := (HO.out.row.grew hg1 (fun h => HO.out.apart h.symm)).cell 0; have fg := (HO.out.row.grew hg1 (fun h => HO.out.apart h.symm)).frozen 0)
      have hstep := out_step (y := m) (by omega) HO.out hown1 hg1 HM1.out rfl
      go_end0
      refine ⟨rfl, _, ?_, ?_, HM.out.trans HM1.out HG.out.size⟩
      · rw [← HP.out, HN.out, ← List.append_assoc, ← hys.out]; exact hstep.1
      · refine HG.out.trans hstep.2 (fun q hq hs => ?_)
        rcases hs with rfl | hs
        · exact Or.inl rfl
        · rcases HM.out with h | ⟨q', h, hq'⟩
          · exact Or.inr (hs.trans h)
          · rw [h] at hs; cases hs; omega
end Go.Proofs.Ytbccjomnfclkdaa
