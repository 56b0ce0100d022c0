/-
  The walks of (*wire.Out).Num, Int and Bytes. The walks of (*wire.Out).Int and Bytes, and wire.Read. The walk of (*wire.In).Num. The walk of awake: answers that the document fixes.
-/
import Derived.Lib.SlBytesConst
import Derived.Test.YtglfeocfhlmloaaU05
import Derived.Test.YtglfeocfhlmloaaU06
namespace Go.Proofs.Ytglfeocfhlmloaa.Nd
open Go.RowKit
theorem numF_lt : ∀ (k n : Nat), n < 128 ^ (k + 1) → ∀ x ∈ Wire.numF k n, x < 256
  | 0, n, h, x, hx => by simp [Wire.numF] at hx; omega
  | k + 1, n, h, x, hx => by
    simp only [Wire.numF] at hx
    split at hx
    · simp at hx; omega
    · rcases List.mem_cons.1 hx with rfl | hx
      · omega
      · exact numF_lt k (n / 128) (by rw [Nat.div_lt_iff_lt_mul (by decide)]; rw [Nat.pow_succ] at h; exact h) x hx
theorem numF_length : ∀ (k n : Nat), (Wire.numF k n).length ≤ k + 1
  | 0, n => by simp [Wire.numF]
  | k + 1, n => by
    simp only [Wire.numF]
    split
    · simp
    · simp only [List.length_cons]; have := numF_length k (n / 128); omega
theorem num_lt (n : Nat) (h : n < 18446744073709551616) : ∀ x ∈ Wire.num n, x < 256 := numF_lt 9 n (by omega)
theorem num_length (n : Nat) : (Wire.num n).length ≤ 10 := numF_length 9 n
theorem out_step {w w1 w2 : World} {B g : Nat} {v v1 : Value} {xs : List Nat} {y : Nat} (hy : y < 256) (ho : OutIs w B g v xs) (hown : w1.ownsRow B 5 1 v1 (xs.length + 1) (xs.map u8v ++ [u8v y])) (hg : Grew w w1 (fun k => some k = v.ownBlock)) (hm : Moved w v v1) (h2 : w2 = w1.setCell ⟨g, 0, none⟩ v1) :
    OutIs w2 B g v1 (xs ++ [y]) ∧ Grew w w2 (OutS g v) := by
  have hr1 : Row w1 g [v] 72 := ho.row.grew hg (fun h => ho.apart h.symm)
  have hap : v1.ownBlock ≠ some g := by
    rcases hm with hm | ⟨q, hq, hs⟩
    · rw [hm]; exact ho.apart
    · rw [hq]; intro h; cases h; have := ho.row.lt; omega
  have hgs : w1.grownBy w2 (some g) := by rw [h2]; exact grownBy_setCell w1 ⟨g, 0, none⟩ _
  refine ⟨⟨?_, ?_, hap, Nat.le_trans ho.base (Nat.le_trans hg.size hgs.size), ?_⟩, ?_⟩
  · rw [h2]; exact hr1.set_same 0 v1
  · have : w2.ownsRow B 5 1 v1 (xs.length + 1) (xs.map u8v ++ [u8v y]) := hown.kept hgs (.inr hap)
    rw [List.length_append, List.map_append]
    exact this
  · intro x hx
    rcases List.mem_append.1 hx with hx | hx
    · exact ho.lt x hx
    · simp at hx; omega
  · refine (hg.mono (fun q hq => Or.inr hq)).trans (Grew.of_grown hgs) (fun q _ hq => ?_)
    cases hq
    exact Or.inl rfl
set_option maxHeartbeats 1000000 in
set_option maxRecDepth 100000 in
theorem onum_any (w : World) (B g : Nat) (v : Value) (xs : List Nat) (n : Nat) (hn : n < 18446744073709551616) (ho : OutIs w B g v xs) (hl : xs.length + 10 ≤ 140737488355328) :
    Calls Try.prog 40 #[.pointer (some ⟨g, 0, none⟩), .int .u64 (n : Int)] w fun e w' => e = .returned (.tuple #[]) ∧ ∃ v', OutIs w' B g v' (xs ++ Wire.num n) ∧ Grew w w' (OutS g v) ∧ Moved w v v' := by
  obtain ⟨i5i, HI5, HE1, HE2, HE3⟩ := i5h
  go_enter Try.func40, Try.ntmps40
  go_wp2_with fail
  go_loopw [1] (fun u w' => ∃ (k m : Nat) (pre : List Nat) (v' : Value), u = .int .u64 (m : Int) ∧ m < 128 ^ (k + 1) ∧ m < 18446744073709551616 ∧ pre.length + (k + 1) ≤ 10 ∧ pre ++ Wire.numF k m = Wire.num n ∧ OutIs w' B g v' (xs ++ pre) ∧ Grew w w' (OutS g v) ∧ Moved w v v') (fun u _ => (intOf u).toNat)
  case atStart => exact ⟨9, n, [], v, rfl, by omega, hn, by simp, rfl, by simpa using ho, Grew.refl _ _, Moved.refl _ _⟩
  case round =>
    obtain ⟨k, m, pre, v', rfl, hm, hm64, hpl, hpre, ho', hg, hmv⟩ := hrel
    obtain ⟨ys, hys⟩ : ∃ ys, Hid (ys = xs ++ pre) := ⟨_, rfl⟩
    have hyl : ys.length = xs.length + pre.length := by rw [hys.out, List.length_append]
    rw [← hys.out] at ho'
    have c0 : wr.cell? ⟨g, 0, none⟩ = some v' := ho'.row.cell 0
    have f0 := ho'.row.frozen 0
    have hown' := ho'.own
    have hbase := ho'.base
    have hfit : ys.length + 1 ≤ 140737488355328 := by omega
    clear hyl
    have HO : Hid (OutIs wr B g v' ys) := ho'
    have HG : Hid (Grew w wr (OutS g v)) := hg
    have HM : Hid (Moved w v v') := hmv
    have HP : Hid (pre ++ Wire.numF k m = Wire.num n) := hpre
    clear ho' hg hmv hpre ho
    by_cases h128 : 128 ≤ m
    · have hk0 : k ≠ 0 := by intro h; subst h; simp at hm; omega
      obtain ⟨k', rfl⟩ : ∃ k', k = k' + 1 := ⟨k - 1, by omega⟩
      clear hk0
      have k1 : (128 : Int) ≤ (m : Int) := by omega
      have ho1 := or128 (m % 256) (by omega)
      rw [show ((m % 256 : Nat) : Int) = (m : Int) % 256 by simp, show m % 256 % 128 = m % 128 by omega] at ho1
      have HM2 : Hid (m / 128 < 128 ^ (k' + 1)) := by show _ < _; rw [Nat.div_lt_iff_lt_mul (by decide)]; rw [Nat.pow_succ] at hm; exact hm
      clear hm
      go_wp2_with (at_builtin; refine wpList_append_one_at rfl _ _ 43 rfl B 5 i5i (.int .u8 0) Try.underlying43 HI5.out HE3.out HE1.out HE2.out rfl _ _ _ rfl hown' 5 _ rfl rfl hfit hbase ?_; intro v1 w1 hown1 hg1 hm1; have HM1 := hid_in hm1; clear hm1; obtain ⟨q1, cq1, rfl, _, _⟩ := hown1.form (Nat.succ_pos _); have cg : w1.cell? ⟨g, 0, none⟩ = some v' := (HO.out.row.grew hg1 (fun h => HO.out.apart h.symm)).cell 0; have fg := (HO.out.row.grew hg1 (fun h => HO.out.apart h.symm)).frozen 0)
      have hstep := out_step (y := m % 128 + 128) (by omega) HO.out hown1 hg1 HM1.out rfl
      go_roundw
      case rel =>
        go_light
        have e0 : (m : Int) / 128 = ((m / 128 : Nat) : Int) := by simp
        rw [e0]
        refine ⟨k', m / 128, pre ++ [m % 128 + 128], .slice (some ⟨q1, 0, none⟩) (ys.length + 1) cq1, rfl, HM2.out, by omega, by rw [List.length_append]; simp; omega, ?_, ?_, ?_, ?_⟩
        · rw [← HP.out, List.append_assoc]
          congr 1
          simp only [Wire.numF]
          rw [if_neg (by omega)]
          rfl
        · rw [← List.append_assoc, ← hys.out]; exact hstep.1
        · refine HG.out.trans hstep.2 (fun q hq hs => ?_)
          rcases hs with rfl | hs
          · exact Or.inl rfl
          · rcases HM.out with h | ⟨q', h, hq'⟩
            · exact Or.inr (hs.trans h)
            · rw [h] at hs; cases hs; omega
        · exact HM.out.trans HM1.out HG.out.size
      case measure => simp [intOf]; omega
    · have k1 : (m : Int) < 128 := by omega
      have HN : Hid (Wire.numF k m = [m]) := by
        show _ = _
        rcases k with _ | k
        · rfl
        · simp only [Wire.numF]; rw [if_pos (by omega)]
      clear hm
      go_wp2_with (at_builtin; refine wpList_append_one_at rfl _ _ 43 rfl B 5 i5i (.int .u8 0) Try.underlying43 HI5.out HE3.out HE1.out HE2.out rfl _ _ _ rfl hown' 5 _ rfl rfl hfit hbase ?_; intro v1 w1 hown1 hg1 hm1; have HM1 := hid_in hm1; clear hm1; obtain ⟨q1, cq1, rfl, _, _⟩ := hown1.form (Nat.succ_pos _); have cg : w1.cell? ⟨g, 0, none⟩ = some v' := (HO.out.row.grew hg1 (fun h => HO.out.apart h.symm)).cell 0; have fg := (HO.out.row.grew hg1 (fun h => HO.out.apart h.symm)).frozen 0)
      have hstep := out_step (y := m) (by omega) HO.out hown1 hg1 HM1.out rfl
      go_end0
      refine ⟨rfl, _, ?_, ?_, HM.out.trans HM1.out HG.out.size⟩
      · rw [← HP.out, HN.out, ← List.append_assoc, ← hys.out]; exact hstep.1
      · refine HG.out.trans hstep.2 (fun q hq hs => ?_)
        rcases hs with rfl | hs
        · exact Or.inl rfl
        · rcases HM.out with h | ⟨q', h, hq'⟩
          · exact Or.inr (hs.trans h)
          · rw [h] at hs; cases hs; omega
end Go.Proofs.Ytglfeocfhlmloaa.Nd
namespace Go.Proofs.Ytglfeocfhlmloaa.Nd
open Go.RowKit
namespace Wire
end Wire
theorem obytes_any (w : World) (B g : Nat) (v : Value) (xs : List Nat) (ho : OutIs w B g v xs) (hl : xs.length ≤ 140737488355328) :
    Calls Try.prog 43 #[.pointer (some ⟨g, 0, none⟩)] w fun e w' => ∃ v', e = .returned v' ∧ w'.ownsRow w.heap.size 5 1 v' xs.length (xs.map u8v) ∧ Below w.heap.size w w' := by
  obtain ⟨p, cap, b, rfl, hsl, hno⟩ := own_sl ho.lt ho.own
  have c0 : w.cell? ⟨g, 0, none⟩ = some (.slice p xs.length cap) := ho.row.cell 0
  have hc := clone_any xs p cap b 0 w hsl hno hl
  clear ho hsl
  go_enter Try.func43, Try.ntmps43
  go_wp2_with fail
  refine hc.mono ?_
  rintro e w1 ⟨v1, rfl, hown, hb⟩
  clear hc
  have HOWN := hid_in hown
  clear hown
  go_wp2
  go_ret
  exact ⟨_, rfl, HOWN.out, hb⟩
/-- the In at block g has still to read the bytes bs; what was wrong is e -/
structure InIs (B : Nat) (w : World) (g : Nat) (bs : List Nat) (e : Nat) : Prop where
  ex : ∃ p cap b off, Row w g [.slice p bs.length cap, .int .i64 (e : Int)] 100 ∧ Sl w p bs cap b off ∧ (p = none → bs.length = 0 ∧ cap = 0) ∧ (0 < bs.length → b ≠ g ∧ b < B)
end Go.Proofs.Ytglfeocfhlmloaa.Nd
namespace Go.Proofs.Ytglfeocfhlmloaa.Nd
open Go.RowKit
namespace Wire
/-- a number that is read, its first k bytes passed: what it is, what is left, what is wrong -/
def rnumF : Nat → Nat → Nat → List Nat → Nat × List Nat × Nat
  | 0, _, _, _ => (0, [], 21)
  | _ + 1, _, _, [] => (0, [], 20)
  | f + 1, k, acc, c :: r => if (c = 0 ∧ 0 < k) ∨ (1 < c ∧ k = 9) then (0, [], 21) else if c < 128 then (acc + c * 128 ^ k, r, 0) else rnumF f (k + 1) (acc + c % 128 * 128 ^ k) r
def rnum (bs : List Nat) : Nat × List Nat × Nat := rnumF 10 0 0 bs
end Wire
end Go.Proofs.Ytglfeocfhlmloaa.Nd
namespace Go.Proofs.Ytglfeocfhlmloaa.Nd
open Go.RowKit
theorem OutIs.below {w w' : World} {B g : Nat} {v : Value} {xs : List Nat} (h : OutIs w B g v xs) (hb : Below w.heap.size w w') : OutIs w' B g v xs :=
  ⟨h.row.below hb h.row.lt, own_below h.own hb, h.apart, Nat.le_trans h.base hb.size, h.lt⟩
theorem InIs.below {B : Nat} {w w' : World} {g e : Nat} {bs : List Nat} (h : InIs B w g bs e) (hb : Below w.heap.size w w') : InIs B w' g bs e := by
  obtain ⟨p, cap, b, off, hr, hsl, hno, hne⟩ := h.ex
  exact ⟨p, cap, b, off, hr.below hb hr.lt, hsl.below hb, hno, hne⟩
theorem outS_ge {w : World} {B g : Nat} {v : Value} {xs : List Nat} (h : OutIs w B g v xs) (hg : B ≤ g) : ∀ k, OutS g v k → B ≤ k := by
  rintro k (rfl | hk)
  · exact hg
  · exact (h.own.lt k hk.symm).1
theorem out_new (w : World) : OutIs (w.alloc (.cells #[.slice none 0 0] 72)) w.heap.size w.heap.size (.slice none 0 0) [] :=
  ⟨Row.newAt w _ [.slice none 0 0] 72 rfl, World.ownsRow_nil _ _ _ _, by simp [Value.ownBlock], by simp, fun _ h => by cases h⟩
end Go.Proofs.Ytglfeocfhlmloaa.Nd
