/-
  The reference's Do, all of it.
-/
import Derived.Test.YtcdmdmbdgmihfaaA00
import Derived.Test.YtcdmdmbdgmihfaaA01
import Derived.Test.YtcdmdmbdgmihfaaA02
import Derived.Test.YtcdmdmbdgmihfaaA03
import Derived.Test.YtcdmdmbdgmihfaaA04
import Derived.Test.YtcdmdmbdgmihfaaA05
import Derived.Test.YtcdmdmbdgmihfaaA06
import Derived.Test.YtcdmdmbdgmihfaaA07
import Derived.Test.YtcdmdmbdgmihfaaA08
namespace Go.Proofs.Ytcdmdmbdgmihfaa.Pt
open Go.RowKit
open Nd (Row wp_world grownBy_setCell below_of_grown grownBy_trans grown_of_below grownBy_refl u8v Grew Moved Sl hid_in i5h str)
theorem isA_no {a : Int} (h : ¬ isA a = true) : a < 0 ∨ (¬ a < 0 ∧ 1 < a) := by
  simp [isA] at h
  omega
theorem rdo_any {w : World} {r : Nat} {d : Dk} (h : Row w r (rcells d) 31) (hk : d.ok) (K a n : Int) (bv kv : Value) (hn : n ≤ 9223372036854775807) (xs : List Nat) (hcv : Cv w r bv xs) (hlx : (arOf a d).bs.length + xs.length ≤ 140737488355328) (ks : List Int) (hks : Kp w (fun k => some k = some r) kv ks) :
    Calls Try.prog 11 #[.pointer (some ⟨r, 0, none⟩), .agg #[.int .i64 K, .int .i64 a, bv, .int .i64 n, kv]] w fun e w' => RP w r (doE (kmod K) a d) (doD (kmod K) a xs n ks d) e w' := by
  have hK0 : (IntKind.u64.wrap K).tmod 6 = kmod K := rfl
  rcases kmod_cases K with hK | hK | hK | hK | hK | hK
  · rw [hK] at hK0 ⊢
    by_cases ha : isA a = true
    · rcases isA_cases ha with rfl | rfl
      · by_cases hd : d.down = true
        · have e1 : doE 0 0 d = 170 := by simp [doE, appE, refE, isA, hd]
          have e2 : doD 0 0 xs n ks d = d := by simp [doD, appD, refE, isA, hd]
          rw [e1, e2]
          exact rdo0_down h hk K 0 n bv kv hK0 (by omega) (by omega) hd
        · have hd' : d.down = false := by simpa using hd
          by_cases hg : d.left = 1
          · have e1 : doE 0 0 d = 170 := by simp [doE, appE, refE, isA, hd', spendE, hg]
            have e2 : doD 0 0 xs n ks d = spendD (setAr 0 ⟨d.a0.bs ++ xs, d.a0.sy⟩ d) := by simp [doD, appD, refE, isA, hd', arOf]
            rw [e1, e2]
            exact rdo0_0_gone h hk K n bv kv hK0 hd' (by simpa using hg) xs hcv hlx
          · have e1 : doE 0 0 d = 0 := by simp [doE, appE, refE, isA, hd', spendE, hg]
            have e2 : doD 0 0 xs n ks d = spendD (setAr 0 ⟨d.a0.bs ++ xs, d.a0.sy⟩ d) := by simp [doD, appD, refE, isA, hd', arOf]
            rw [e1, e2]
            exact rdo0_0_ok h hk K n bv kv hK0 hd' (by simpa using hg) xs hcv hlx
      · by_cases hd : d.down = true
        · have e1 : doE 0 1 d = 170 := by simp [doE, appE, refE, isA, hd]
          have e2 : doD 0 1 xs n ks d = d := by simp [doD, appD, refE, isA, hd]
          rw [e1, e2]
          exact rdo0_down h hk K 1 n bv kv hK0 (by omega) (by omega) hd
        · have hd' : d.down = false := by simpa using hd
          by_cases hg : d.left = 1
          · have e1 : doE 0 1 d = 170 := by simp [doE, appE, refE, isA, hd', spendE, hg]
            have e2 : doD 0 1 xs n ks d = spendD (setAr 1 ⟨d.a1.bs ++ xs, d.a1.sy⟩ d) := by simp [doD, appD, refE, isA, hd', arOf]
            rw [e1, e2]
            exact rdo0_1_gone h hk K n bv kv hK0 hd' (by simpa using hg) xs hcv hlx
          · have e1 : doE 0 1 d = 0 := by simp [doE, appE, refE, isA, hd', spendE, hg]
            have e2 : doD 0 1 xs n ks d = spendD (setAr 1 ⟨d.a1.bs ++ xs, d.a1.sy⟩ d) := by simp [doD, appD, refE, isA, hd', arOf]
            rw [e1, e2]
            exact rdo0_1_ok h hk K n bv kv hK0 hd' (by simpa using hg) xs hcv hlx
    · have ha2 : isA a = false := by simpa using ha
      rcases isA_no ha with hl | ⟨hl0, hl⟩
      · have e1 : doE 0 a d = 1 := by simp [doE, appE, refE, ha2]
        have e2 : doD 0 a xs n ks d = d := by simp [doD, appD, refE, ha2]
        rw [e1, e2]
        exact rdo0_lo h hk K a n bv kv hK0 hl
      · have e1 : doE 0 a d = 1 := by simp [doE, appE, refE, ha2]
        have e2 : doD 0 a xs n ks d = d := by simp [doD, appD, refE, ha2]
        rw [e1, e2]
        exact rdo0_hi h hk K a n bv kv hK0 hl0 hl
  · rw [hK] at hK0 ⊢
    by_cases ha : isA a = true
    · rcases isA_cases ha with rfl | rfl
      · by_cases hd : d.down = true
        · have e1 : doE 1 0 d = 170 := by simp [doE, begE, refE, isA, hd]
          have e2 : doD 1 0 xs n ks d = d := by simp [doD, synD, begE, begD, refE, isA, hd]
          rw [e1, e2]
          exact rdo1_down h hk K 0 n bv kv hK0 (by omega) (by omega) hd
        · have hd' : d.down = false := by simpa using hd
          by_cases hg : d.left = 1
          · have e1 : doE 1 0 d = 170 := by simp [doE, begE, refE, isA, hd', spendE, hg]
            have e2 : doD 1 0 xs n ks d = spendD d := by simp [doD, synD, begE, begD, refE, isA, hd', arOf, spendE, hg]
            rw [e1, e2]
            exact rdo1_0_gone h hk K n bv kv hK0 hd' (by simpa using hg)
          · have e1 : doE 1 0 d = 0 := by simp [doE, begE, refE, isA, hd', spendE, hg]
            have e2 : doD 1 0 xs n ks d = setAr 0 ⟨d.a0.bs, d.a0.bs.length⟩ (spendD d) := by simp [doD, synD, begE, begD, refE, isA, hd', arOf, spendE, hg]
            rw [e1, e2]
            exact rdo1_0_ok h hk K n bv kv hK0 hd' (by simpa using hg)
      · by_cases hd : d.down = true
        · have e1 : doE 1 1 d = 170 := by simp [doE, begE, refE, isA, hd]
          have e2 : doD 1 1 xs n ks d = d := by simp [doD, synD, begE, begD, refE, isA, hd]
          rw [e1, e2]
          exact rdo1_down h hk K 1 n bv kv hK0 (by omega) (by omega) hd
        · have hd' : d.down = false := by simpa using hd
          by_cases hg : d.left = 1
          · have e1 : doE 1 1 d = 170 := by simp [doE, begE, refE, isA, hd', spendE, hg]
            have e2 : doD 1 1 xs n ks d = spendD d := by simp [doD, synD, begE, begD, refE, isA, hd', arOf, spendE, hg]
            rw [e1, e2]
            exact rdo1_1_gone h hk K n bv kv hK0 hd' (by simpa using hg)
          · have e1 : doE 1 1 d = 0 := by simp [doE, begE, refE, isA, hd', spendE, hg]
            have e2 : doD 1 1 xs n ks d = setAr 1 ⟨d.a1.bs, d.a1.bs.length⟩ (spendD d) := by simp [doD, synD, begE, begD, refE, isA, hd', arOf, spendE, hg]
            rw [e1, e2]
            exact rdo1_1_ok h hk K n bv kv hK0 hd' (by simpa using hg)
    · have ha2 : isA a = false := by simpa using ha
      rcases isA_no ha with hl | ⟨hl0, hl⟩
      · have e1 : doE 1 a d = 1 := by simp [doE, begE, refE, ha2]
        have e2 : doD 1 a xs n ks d = d := by simp [doD, synD, begE, begD, refE, ha2]
        rw [e1, e2]
        exact rdo1_lo h hk K a n bv kv hK0 hl
      · have e1 : doE 1 a d = 1 := by simp [doE, begE, refE, ha2]
        have e2 : doD 1 a xs n ks d = d := by simp [doD, synD, begE, begD, refE, ha2]
        rw [e1, e2]
        exact rdo1_hi h hk K a n bv kv hK0 hl0 hl
  · rw [hK] at hK0 ⊢
    by_cases ha : isA a = true
    · rcases isA_cases ha with rfl | rfl
      · by_cases hd : d.down = true
        · have e1 : doE 2 0 d = 170 := by simp [doE, begE, refE, isA, hd]
          have e2 : doD 2 0 xs n ks d = d := by simp [doD, wipD, begE, begD, refE, isA, hd]
          rw [e1, e2]
          exact rdo2_down h hk K 0 n bv kv hK0 (by omega) (by omega) hd
        · have hd' : d.down = false := by simpa using hd
          by_cases hl : (0 : Int) = liv d.live
          · have e1 : doE 2 0 d = 6 := by simp [doE, begE, refE, isA, hd', ← hl]
            have e2 : doD 2 0 xs n ks d = d := by simp [doD, wipD, begE, begD, refE, isA, hd', ← hl]
            rw [e1, e2]
            exact rdo2_ref h hk K 0 n bv kv hK0 (by omega) (by omega) hd' (by simpa using hl)
          · have hll : ((0 : Int) == liv d.live) = false := by simpa using hl
            by_cases hg : d.left = 1
            · have e1 : doE 2 0 d = 170 := by simp [doE, begE, refE, isA, hd', spendE, hg, hl]
              have e2 : doD 2 0 xs n ks d = spendD d := by simp [doD, wipD, begE, begD, refE, isA, hd', arOf, spendE, hg, hl]
              rw [e1, e2]
              exact rdo2_0_gone h hk K n bv kv hK0 hd' (by simpa using hg) hll
            · have e1 : doE 2 0 d = 0 := by simp [doE, begE, refE, isA, hd', spendE, hg, hl]
              have e2 : doD 2 0 xs n ks d = setAr 0 ⟨[], 0⟩ (spendD d) := by simp [doD, wipD, begE, begD, refE, isA, hd', arOf, spendE, hg, hl]
              rw [e1, e2]
              exact rdo2_0_ok h hk K n bv kv hK0 hd' (by simpa using hg) hll
      · by_cases hd : d.down = true
        · have e1 : doE 2 1 d = 170 := by simp [doE, begE, refE, isA, hd]
          have e2 : doD 2 1 xs n ks d = d := by simp [doD, wipD, begE, begD, refE, isA, hd]
          rw [e1, e2]
          exact rdo2_down h hk K 1 n bv kv hK0 (by omega) (by omega) hd
        · have hd' : d.down = false := by simpa using hd
          by_cases hl : (1 : Int) = liv d.live
          · have e1 : doE 2 1 d = 6 := by simp [doE, begE, refE, isA, hd', ← hl]
            have e2 : doD 2 1 xs n ks d = d := by simp [doD, wipD, begE, begD, refE, isA, hd', ← hl]
            rw [e1, e2]
            exact rdo2_ref h hk K 1 n bv kv hK0 (by omega) (by omega) hd' (by simpa using hl)
          · have hll : ((1 : Int) == liv d.live) = false := by simpa using hl
            by_cases hg : d.left = 1
            · have e1 : doE 2 1 d = 170 := by simp [doE, begE, refE, isA, hd', spendE, hg, hl]
              have e2 : doD 2 1 xs n ks d = spendD d := by simp [doD, wipD, begE, begD, refE, isA, hd', arOf, spendE, hg, hl]
              rw [e1, e2]
              exact rdo2_1_gone h hk K n bv kv hK0 hd' (by simpa using hg) hll
            · have e1 : doE 2 1 d = 0 := by simp [doE, begE, refE, isA, hd', spendE, hg, hl]
              have e2 : doD 2 1 xs n ks d = setAr 1 ⟨[], 0⟩ (spendD d) := by simp [doD, wipD, begE, begD, refE, isA, hd', arOf, spendE, hg, hl]
              rw [e1, e2]
              exact rdo2_1_ok h hk K n bv kv hK0 hd' (by simpa using hg) hll
    · have ha2 : isA a = false := by simpa using ha
      rcases isA_no ha with hl | ⟨hl0, hl⟩
      · have e1 : doE 2 a d = 1 := by simp [doE, begE, refE, ha2]
        have e2 : doD 2 a xs n ks d = d := by simp [doD, wipD, begE, begD, refE, ha2]
        rw [e1, e2]
        exact rdo2_lo h hk K a n bv kv hK0 hl
      · have e1 : doE 2 a d = 1 := by simp [doE, begE, refE, ha2]
        have e2 : doD 2 a xs n ks d = d := by simp [doD, wipD, begE, begD, refE, ha2]
        rw [e1, e2]
        exact rdo2_hi h hk K a n bv kv hK0 hl0 hl
  · rw [hK] at hK0 ⊢
    by_cases hd : d.down = true
    · rcases hlv : d.live with _ | _
      · have e1 : doE 3 a d = 170 := by simp [doE, begE, refE, isA, oth, liv, hlv, hd]
        have e2 : doD 3 a xs n ks d = d := by simp [doD, fliD, begE, begD, refE, isA, oth, liv, hlv, hd]
        rw [e1, e2]
        exact rdo3_down h hk K a n bv kv hK0 hd
      · have e1 : doE 3 a d = 170 := by simp [doE, begE, refE, isA, oth, liv, hlv, hd]
        have e2 : doD 3 a xs n ks d = d := by simp [doD, fliD, begE, begD, refE, isA, oth, liv, hlv, hd]
        rw [e1, e2]
        exact rdo3_down h hk K a n bv kv hK0 hd
    · have hd' : d.down = false := by simpa using hd
      rcases hlv : d.live with _ | _
      · by_cases hs : d.a1.sy < d.a1.bs.length
        · have e1 : doE 3 a d = 6 := by simp [doE, begE, refE, isA, oth, liv, hlv, hd', arOf, hs]
          have e2 : doD 3 a xs n ks d = d := by simp [doD, fliD, begE, begD, refE, isA, oth, liv, hlv, hd', arOf, hs]
          rw [e1, e2]
          exact rdo3_0_ref h hk K a n bv kv hK0 hd' hlv hs
        · by_cases hg : d.left = 1
          · have e1 : doE 3 a d = 170 := by simp [doE, begE, refE, isA, oth, liv, hlv, hd', arOf, hs, spendE, hg]
            have e2 : doD 3 a xs n ks d = spendD d := by simp [doD, fliD, begE, begD, refE, isA, oth, liv, hlv, hd', arOf, hs, spendE, hg]
            rw [e1, e2]
            exact rdo3_0_gone h hk K a n bv kv hK0 hd' hlv hs (by simpa using hg)
          · have e1 : doE 3 a d = 0 := by simp [doE, begE, refE, isA, oth, liv, hlv, hd', arOf, hs, spendE, hg]
            have e2 : doD 3 a xs n ks d = { spendD d with live := !d.live } := by simp [doD, fliD, begE, begD, refE, isA, oth, liv, hlv, hd', arOf, hs, spendE, hg]
            rw [e1, e2]
            exact rdo3_0_ok h hk K a n bv kv hK0 hd' hlv hs (by simpa using hg)
      · by_cases hs : d.a0.sy < d.a0.bs.length
        · have e1 : doE 3 a d = 6 := by simp [doE, begE, refE, isA, oth, liv, hlv, hd', arOf, hs]
          have e2 : doD 3 a xs n ks d = d := by simp [doD, fliD, begE, begD, refE, isA, oth, liv, hlv, hd', arOf, hs]
          rw [e1, e2]
          exact rdo3_1_ref h hk K a n bv kv hK0 hd' hlv hs
        · by_cases hg : d.left = 1
          · have e1 : doE 3 a d = 170 := by simp [doE, begE, refE, isA, oth, liv, hlv, hd', arOf, hs, spendE, hg]
            have e2 : doD 3 a xs n ks d = spendD d := by simp [doD, fliD, begE, begD, refE, isA, oth, liv, hlv, hd', arOf, hs, spendE, hg]
            rw [e1, e2]
            exact rdo3_1_gone h hk K a n bv kv hK0 hd' hlv hs (by simpa using hg)
          · have e1 : doE 3 a d = 0 := by simp [doE, begE, refE, isA, oth, liv, hlv, hd', arOf, hs, spendE, hg]
            have e2 : doD 3 a xs n ks d = { spendD d with live := !d.live } := by simp [doD, fliD, begE, begD, refE, isA, oth, liv, hlv, hd', arOf, hs, spendE, hg]
            rw [e1, e2]
            exact rdo3_1_ok h hk K a n bv kv hK0 hd' hlv hs (by simpa using hg)
  · rw [hK] at hK0 ⊢
    by_cases hd : d.down = true
    · have e1 : doE 4 a d = 0 := by simp [doE]
      have e2 : doD 4 a xs n ks d = d := by simp [doD, armD, hd]
      rw [e1, e2]
      exact rdo4_down h hk K a n bv kv hK0 hd
    · have hd' : d.down = false := by simpa using hd
      by_cases hl : n < 1
      · have e1 : doE 4 a d = 0 := by simp [doE]
        have e2 : doD 4 a xs n ks d = { d with left := n.toNat } := by simp [doD, armD, hd']
        rw [e1, e2]
        exact rdo4_low h hk K a n bv kv hK0 hd' hl
      · have e1 : doE 4 a d = 0 := by simp [doE]
        have e2 : doD 4 a xs n ks d = { d with left := n.toNat } := by simp [doD, armD, hd']
        rw [e1, e2]
        exact rdo4_high h hk K a n bv kv hK0 hd' hl hn
  · rw [hK] at hK0 ⊢
    have e1 : doE 5 a d = 0 := by simp [doE]
    have e2 : doD 5 a xs n ks d = cutD ks d := by simp [doD]
    rw [e1, e2]
    exact rdo5 h hk K a n bv kv hK0 ks hks
end Go.Proofs.Ytcdmdmbdgmihfaa.Pt
