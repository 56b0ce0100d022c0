/-
  The reference's Encode. The reference's Decode.
-/
import Derived.Deep.CutRange
import Derived.OwnWalk
import Derived.Laws.CopyOwn
import Derived.Laws.Tables
import Derived.Deep.RegionLaw
import Derived.Deep.DrawnRows
import Derived.Test.YtiijlnlkhpneaaaF00
import Derived.Test.YtiijlnlkhpneaaaF01
import Derived.Test.YtiijlnlkhpneaaaF02
import Derived.Test.YtiijlnlkhpneaaaF03
import Derived.Test.YtiijlnlkhpneaaaF04
import Derived.Test.YtiijlnlkhpneaaaF05
import Derived.Test.YtiijlnlkhpneaaaF06
import Derived.Test.YtiijlnlkhpneaaaF07
import Derived.Test.YtiijlnlkhpneaaaF08
import Derived.Test.YtiijlnlkhpneaaaF09
import Derived.Test.YtiijlnlkhpneaaaF10
import Derived.Test.YtiijlnlkhpneaaaF11
import Derived.Test.YtiijlnlkhpneaaaF12
import Derived.Test.YtiijlnlkhpneaaaF13
import Derived.Test.YtiijlnlkhpneaaaF14
import Derived.Test.YtiijlnlkhpneaaaF15
import Derived.Test.YtiijlnlkhpneaaaF16
import Derived.Test.YtiijlnlkhpneaaaF17
import Derived.Test.YtiijlnlkhpneaaaF18
import Derived.Test.YtiijlnlkhpneaaaF19
import Derived.Test.YtiijlnlkhpneaaaF20
import Derived.Test.YtiijlnlkhpneaaaF21
import Derived.Test.YtiijlnlkhpneaaaF22
import Derived.Test.YtiijlnlkhpneaaaF23
import Derived.Test.YtiijlnlkhpneaaaF24
import Derived.Test.YtiijlnlkhpneaaaF26
namespace Go.Proofs.Ytiijlnlkhpneaaa.Se
open Go.RowKit
open Nd (Row wp_world post_Row grownBy_setCell below_of_grown grownBy_trans grown_of_below grownBy_refl bytesS u8v i64r Sl RE)
/-- bytes that a call makes -/
def CC (fn : Nat) (arg : Value) (Y : List Nat) : Prop := ∀ W, Calls Try.prog fn #[arg] W fun e w' => ∃ p c b, e = .returned (.slice p Y.length c) ∧ Sl w' p Y c b 0 ∧ (p = none → Y.length = 0 ∧ c = 0) ∧ w'.ownsRow W.heap.size 5 1 (.slice p Y.length c) Y.length (Y.map u8v) ∧ Below W.heap.size W w'
theorem cc_num (n : Nat) (hn : n < 18446744073709551616) : CC 35 (.int .u64 (n : Int)) (Nd.Wire.num n) := fun W => by
  refine (Nd.rwnum_any W n hn).mono ?_
  rintro e w' ⟨v, rfl, ho, hb⟩
  obtain ⟨p, c, b, rfl, hs, hno⟩ := Nd.own_sl (Nd.num_lt n hn) ho
  exact ⟨p, c, b, rfl, hs, hno, ho, hb⟩
theorem cc_int (n : Int) (hn : i64r n) : CC 36 (.int .i64 n) (Nd.Wire.num (Nd.Wire.zz n)) := fun W => by
  refine (Nd.rwint_any W n hn.1 hn.2).mono ?_
  rintro e w' ⟨v, rfl, ho, hb⟩
  have hz : Nd.Wire.zz n < 18446744073709551616 := by
    obtain ⟨h1, h2⟩ := hn
    unfold Nd.Wire.zz
    split <;> omega
  obtain ⟨p, c, b, rfl, hs, hno⟩ := Nd.own_sl (Nd.num_lt _ hz) ho
  exact ⟨p, c, b, rfl, hs, hno, ho, hb⟩
theorem cc_flag (f : Bool) : CC 37 (.bool f) [if f then 1 else 0] := fun W => by
  refine (Nd.rwflag_any W f).mono ?_
  rintro e w' ⟨v, rfl, ho, hb⟩
  obtain ⟨p, c, b, rfl, hs, hno⟩ := Nd.own_sl (by intro x hx; simp only [List.mem_singleton] at hx; rw [hx]; split <;> omega) ho
  exact ⟨p, c, b, rfl, hs, hno, ho, hb⟩
theorem cc_text (s : ByteArray) (hn : s.size ≤ 8192) : CC 38 (.string s) (Nd.Wire.num s.size ++ bytesS s) := fun W => by
  refine (Nd.rwtext_any W s (by omega)).mono ?_
  rintro e w' ⟨v, rfl, ho, hb⟩
  obtain ⟨p, c, b, rfl, hs, hno⟩ := Nd.own_sl (Nd.app_lt (Nd.num_lt s.size (by omega)) (Nd.bytesS_lt s)) ho
  exact ⟨p, c, b, rfl, hs, hno, ho, hb⟩
theorem row_own {W W' : World} {b B n : Nat} {vs us : List Value} {t : TypeId} {v : Value} (h : Row W b vs t) (ht : t ≠ 5) (ho : W.ownsRow B 5 1 v n us) (hg : W.grownBy W' v.ownBlock) : Row W' b vs t := by
  refine h.grown hg (fun e => ?_)
  obtain ⟨_, ⟨rfl, _⟩ | ⟨g', cap, cur, rfl, _, hh, _⟩⟩ := ho
  · cases e
  · have e2 : b = g' := by simpa [Value.ownBlock] using e
    subst e2
    unfold Row at h
    rw [hh] at h
    cases h
    exact ht rfl
set_option maxHeartbeats 4000000 in
set_option maxRecDepth 100000 in
theorem rencode_any {w : World} {B r rm : Nat} {X : List Seat} (h : RT w B r (rm : Int) X) (he : ∀ s ∈ X, Enc1 s) (h8 : X.length ≤ 8) (h9 : rm ≤ 8192) :
    Calls Try.prog 19 #[.pointer (some ⟨r, 0, none⟩)] w fun e w' => ∃ v, e = .returned v ∧ w'.ownsRow w.heap.size 5 1 v (encT (rm : Int) X).length ((encT (rm : Int) X).map u8v) ∧ Below w.heap.size w w' := by
  obtain ⟨p, cap, hrow, hl1, hl2, hat⟩ := h.at_
  have HAT := hid_in hat
  have HEN := hid_in he
  have HROW := hid_in hrow
  have HM8 := hid_in h8
  have HNL := hid_in Nd.num_length
  have hr9 : (rm : Int) ≤ 8192 := by omega
  have hm8 : (X.length : Int) ≤ 8 := by omega
  have hz0 : w.cell? ⟨r, 0, none⟩ = some (.int .i64 (rm : Int)) := hrow.cell 0
  have HCL := hid_in (fun W (k : Below w.heap.size w W) => (hrow.below k hrow.lt).cell 1)
  simp only [List.getElem?_cons_succ, List.getElem?_cons_zero] at HCL
  have HC1 := hid_in (cc_num rm (by omega))
  have HC2 := hid_in (cc_num X.length (by omega))
  have HRM : Hid (rm ≤ 8192) := hid_in h9
  generalize hm' : X.length = m' at *
  have HM := hid_in hm'
  obtain ⟨Y1, HY1⟩ : ∃ Y, Hid (Nd.Wire.num rm = Y) := ⟨_, hid_in rfl⟩
  obtain ⟨Y2, HY2⟩ : ∃ Y, Hid (Nd.Wire.num m' = Y) := ⟨_, hid_in rfl⟩
  have HL1 := hid_in (HNL.out rm)
  have HL2 := hid_in (HNL.out m')
  rw [HY1.out] at HC1 HL1
  rw [HY2.out] at HC2 HL2
  have hq1 := HCL.out w (Below.refl _ _)
  clear h he h8 hat hrow hl1 hm' h9
  go_enter Try.func19, Try.ntmps19
  go_upto_region 2 with (first | (go_at_call 35; refine (HC1.out _).mono ?_; rintro e w1 ⟨p1, c1, b1, rfl, -, -, ho1, hb1⟩; have HRE1 : Hid (RE w w1 _ Y1) := hid_in ⟨ho1, hb1⟩; clear ho1 hb1))
  have hq2 := HCL.out w1 HRE1.out.bel
  go_upto_region 3 with (first | (go_at_call 35; refine (HC2.out _).mono ?_; rintro e a2 ⟨p2, c2, b2, rfl, hs2, hn2, -, hb2⟩; have HA2 := hid_in (HRE1.out.below hb2); have HS2 := hid_in hs2; have HN2 := hid_in hn2; clear hs2 hn2 hb2) | (at_builtin; refine Nd.wpList_app w.heap.size rfl _ _ rfl _ Y1 Y2 rfl HA2.out.own _ _ _ _ _ rfl rfl HS2.out HN2.out (by have := HL1.out; have := HL2.out; omega) HA2.out.bel.size ?_; intro v2 w2 ho2 hg2; have HRE2 := hid_in (HA2.out.more ho2 hg2); clear ho2 hg2 HA2 HS2 HN2))
  obtain ⟨Y, HY⟩ : ∃ Y, Hid (Y1 ++ Y2 = Y) := ⟨_, hid_in rfl⟩
  have HYL0 : Hid (Y.length ≤ 20) := hid_in (by rw [← HY.out]; have h1 := HL1.out; have h2 := HL2.out; simp only [List.length_append]; omega)
  rw [HY.out] at HRE2
  clear HRE1 hq1 hq2 hz0
  go_wp2_with fail
  go_loopw [3, 4] (fun vb vi W => ∃ i : Nat, i ≤ m' ∧ vi = .int .i64 (i : Int) ∧ Hid (RE w W vb (Y ++ (X.take i).flatMap encS))) (fun _ vi _ => m' - (intOf vi).toNat)
  case atStart => exact ⟨0, by omega, rfl, hid_in (by simpa using HRE2.out)⟩
  case round =>
    clear HRE2
    obtain ⟨i, hi, rfl, hpr⟩ := hrel
    have q1 := HCL.out _ hpr.out.bel
    by_cases hlt : i < m'
    · have hl2 : (i : Int) < (m' : Int) := by omega
      have hl3 : ¬ (i : Int) < 0 := by omega
      have hl4 : 0 ≤ (i : Int) := by omega
      obtain ⟨s, hs⟩ : ∃ s, X[i]? = some s := ⟨_, List.getElem?_eq_getElem (by rw [HM.out]; exact hlt)⟩
      obtain ⟨b, rfl, -, -, hcs⟩ := HAT.out (by rintro rfl; simp at hs)
      obtain ⟨u0, u1, u2, u3, u4⟩ := hcs _ hpr.out.bel i s hs
      have htk := take_encS hs
      obtain ⟨i1, i2, i3, i4, i5, i6⟩ := HEN.out s (List.mem_of_getElem? hs)
      have hto := encs_len (X.take i) (fun f hf => HEN.out f (List.mem_of_mem_take hf))
      have htl : (X.take i).length ≤ 8 := by rw [List.length_take]; have := HM8.out; omega
      obtain ⟨sc, sn, sa, sk, sr⟩ := s
      simp only at u0 u1 u2 u3 u4 i1 i2 i3 i4 i5 i6
      obtain ⟨cn, rfl⟩ := Int.eq_ofNat_of_zero_le i1
      obtain ⟨nn, rfl⟩ := Int.eq_ofNat_of_zero_le i3
      obtain ⟨Z, HZ⟩ : ∃ Z, Hid (Y ++ (X.take i).flatMap encS = Z) := ⟨_, hid_in rfl⟩
      have HYL : Hid (Z.length ≤ 70000) := hid_in (by rw [← HZ.out, List.length_append]; have := HYL0.out; omega)
      have HNX : Hid (Y ++ (X.take (i + 1)).flatMap encS = ((((Z ++ Nd.Wire.num cn) ++ Nd.Wire.num nn) ++ Nd.Wire.num (Nd.Wire.zz sa)) ++ [if sk then 1 else 0]) ++ (Nd.Wire.num sr.size ++ bytesS sr)) := hid_in (by
        rw [htk, ← List.append_assoc, HZ.out]
        simp only [encS, Int.toNat_natCast, List.append_assoc])
      have HC6 := hid_in (cc_num cn (by omega))
      have HC7 := hid_in (cc_num nn (by omega))
      have HC8 := hid_in (cc_int sa i5)
      have HC9 := hid_in (cc_flag sk)
      have HC10 := hid_in (cc_text sr i6)
      have HLS0 : Hid ((Nd.Wire.num cn).length + (Nd.Wire.num nn).length + (Nd.Wire.num (Nd.Wire.zz sa)).length + [if sk then 1 else 0].length + (Nd.Wire.num sr.size ++ bytesS sr).length ≤ 8300) := hid_in (by
        have h1 := HNL.out cn; have h2 := HNL.out nn; have h3 := HNL.out (Nd.Wire.zz sa); have h4 := HNL.out sr.size
        rw [List.length_append, Nd.bytesS_length]
        simp only [List.length_cons, List.length_nil]
        omega)
      obtain ⟨A1, HA1⟩ : ∃ A, Hid (Nd.Wire.num cn = A) := ⟨_, hid_in rfl⟩
      obtain ⟨A2, HA2⟩ : ∃ A, Hid (Nd.Wire.num nn = A) := ⟨_, hid_in rfl⟩
      obtain ⟨A3, HA3⟩ : ∃ A, Hid (Nd.Wire.num (Nd.Wire.zz sa) = A) := ⟨_, hid_in rfl⟩
      obtain ⟨A4, HA4⟩ : ∃ A : List Nat, Hid (([if sk then 1 else 0] : List Nat) = A) := ⟨_, hid_in rfl⟩
      obtain ⟨A5, HA5⟩ : ∃ A, Hid (Nd.Wire.num sr.size ++ bytesS sr = A) := ⟨_, hid_in rfl⟩
      rw [HA1.out] at HC6
      rw [HA2.out] at HC7
      rw [HA3.out] at HC8
      rw [HA4.out] at HC9
      rw [HA5.out] at HC10
      rw [HA1.out, HA2.out, HA3.out, HA4.out, HA5.out] at HNX HLS0
      have HLS := HLS0
      clear HLS0 HA1 HA2 HA3 HA4 HA5
      obtain ⟨w5, HW5⟩ : ∃ w5, Hid (wr.alloc (.cells #[.int .i64 (cn : Int), .int .i64 (nn : Int), .int .i64 sa, .bool sk, .string sr] 48) = w5) := ⟨_, hid_in rfl⟩
      have HBX : Hid (Below wr.heap.size wr w5) := hid_in (by rw [← HW5.out]; exact (Below.refl _ _).alloc (Nat.le_refl _) _)
      have HST5 : Hid (Row w5 wr.heap.size [.int .i64 (cn : Int), .int .i64 (nn : Int), .int .i64 sa, .bool sk, .string sr] 48) := hid_in (by rw [← HW5.out]; exact Row.new wr [.int .i64 (cn : Int), .int .i64 (nn : Int), .int .i64 sa, .bool sk, .string sr] 48)
      have HRE5 := hid_in (hpr.out.below HBX.out)
      rw [HZ.out] at HRE5
      have HLT := hid_in hlt
      have k1 : (cn : Int) ≤ 8 := i2
      have k2 : (nn : Int) ≤ 1099511627776 := i4
      clear hs hcs htk hto htl i1 i2 i3 i4 i5 i6 hpr hi hlt
      go_upto_region 7 with fail
      refine wp_world HW5.out ?_
      generalize wr.heap.size = bs at *
      have e0 := HST5.out.cell 0
      simp only [List.getElem?_cons_zero] at e0
      go_upto_region 8 with (first | (go_at_call 35; refine (HC6.out _).mono ?_; rintro e a6 ⟨p6, c6, b6, rfl, hs6, hn6, -, hb6⟩; have HA6 := hid_in (HRE5.out.below hb6); have HT6 := hid_in (HST5.out.below hb6 HST5.out.lt); have HS6 := hid_in hs6; have HN6 := hid_in hn6; clear hs6 hn6 hb6) | (at_builtin; refine Nd.wpList_app w.heap.size rfl _ _ rfl _ Z A1 rfl HA6.out.own _ _ _ _ _ rfl rfl HS6.out HN6.out (by have := HYL.out; have := HLS.out; (try simp only [List.length_append]); omega) HA6.out.bel.size ?_; intro v6 w6 ho6 hg6; have HRE6 := hid_in (HA6.out.more ho6 hg6); have HST6 := hid_in (row_own HT6.out (by decide) HA6.out.own hg6); clear ho6 hg6 HA6 HT6 HS6 HN6))
      have e1 := HST6.out.cell 1
      simp only [List.getElem?_cons_succ, List.getElem?_cons_zero] at e1
      go_upto_region 9 with (first | (go_at_call 35; refine (HC7.out _).mono ?_; rintro e a7 ⟨p7, c7, b7, rfl, hs7, hn7, -, hb7⟩; have HA7 := hid_in (HRE6.out.below hb7); have HT7 := hid_in (HST6.out.below hb7 HST6.out.lt); have HS7 := hid_in hs7; have HN7 := hid_in hn7; clear hs7 hn7 hb7) | (at_builtin; refine Nd.wpList_app w.heap.size rfl _ _ rfl _ (Z ++ A1) A2 rfl HA7.out.own _ _ _ _ _ rfl rfl HS7.out HN7.out (by have := HYL.out; have := HLS.out; (try simp only [List.length_append]); omega) HA7.out.bel.size ?_; intro v7 w7 ho7 hg7; have HRE7 := hid_in (HA7.out.more ho7 hg7); have HST7 := hid_in (row_own HT7.out (by decide) HA7.out.own hg7); clear ho7 hg7 HA7 HT7 HS7 HN7))
      have e2 := HST7.out.cell 2
      simp only [List.getElem?_cons_succ, List.getElem?_cons_zero] at e2
      go_upto_region 10 with (first | (go_at_call 36; refine (HC8.out _).mono ?_; rintro e a8 ⟨p8, c8, b8, rfl, hs8, hn8, -, hb8⟩; have HA8 := hid_in (HRE7.out.below hb8); have HT8 := hid_in (HST7.out.below hb8 HST7.out.lt); have HS8 := hid_in hs8; have HN8 := hid_in hn8; clear hs8 hn8 hb8) | (at_builtin; refine Nd.wpList_app w.heap.size rfl _ _ rfl _ ((Z ++ A1) ++ A2) A3 rfl HA8.out.own _ _ _ _ _ rfl rfl HS8.out HN8.out (by have := HYL.out; have := HLS.out; (try simp only [List.length_append]); omega) HA8.out.bel.size ?_; intro v8 w8 ho8 hg8; have HRE8 := hid_in (HA8.out.more ho8 hg8); have HST8 := hid_in (row_own HT8.out (by decide) HA8.out.own hg8); clear ho8 hg8 HA8 HT8 HS8 HN8))
      have e3 := HST8.out.cell 3
      simp only [List.getElem?_cons_succ, List.getElem?_cons_zero] at e3
      go_upto_region 11 with (first | (go_at_call 37; refine (HC9.out _).mono ?_; rintro e a9 ⟨p9, c9, b9, rfl, hs9, hn9, -, hb9⟩; have HA9 := hid_in (HRE8.out.below hb9); have HT9 := hid_in (HST8.out.below hb9 HST8.out.lt); have HS9 := hid_in hs9; have HN9 := hid_in hn9; clear hs9 hn9 hb9) | (at_builtin; refine Nd.wpList_app w.heap.size rfl _ _ rfl _ (((Z ++ A1) ++ A2) ++ A3) A4 rfl HA9.out.own _ _ _ _ _ rfl rfl HS9.out HN9.out (by have := HYL.out; have := HLS.out; (try simp only [List.length_append]); omega) HA9.out.bel.size ?_; intro v9 w9 ho9 hg9; have HRE9 := hid_in (HA9.out.more ho9 hg9); have HST9 := hid_in (row_own HT9.out (by decide) HA9.out.own hg9); clear ho9 hg9 HA9 HT9 HS9 HN9))
      have e4 := HST9.out.cell 4
      simp only [List.getElem?_cons_succ, List.getElem?_cons_zero] at e4
      go_wp2_with (first | (go_at_call 38; refine (HC10.out _).mono ?_; rintro e a10 ⟨p10, c10, b10, rfl, hs10, hn10, -, hb10⟩; have HA10 := hid_in (HRE9.out.below hb10); have HT10 := hid_in (HST9.out.below hb10 HST9.out.lt); have HS10 := hid_in hs10; have HN10 := hid_in hn10; clear hs10 hn10 hb10) | (at_builtin; refine Nd.wpList_app w.heap.size rfl _ _ rfl _ ((((Z ++ A1) ++ A2) ++ A3) ++ A4) A5 rfl HA10.out.own _ _ _ _ _ rfl rfl HS10.out HN10.out (by have := HYL.out; have := HLS.out; (try simp only [List.length_append]); omega) HA10.out.bel.size ?_; intro v10 w10 ho10 hg10; have HRE10 := hid_in (HA10.out.more ho10 hg10); have HST10 := hid_in (row_own HT10.out (by decide) HA10.out.own hg10); clear ho10 hg10 HA10 HT10 HS10 HN10))
      refine ⟨⟨i + 1, by have := HLT.out; omega, by go_num, ?_⟩, by have := HLT.out; simp [intOf]; omega⟩
      rw [HNX.out]
      exact HRE10.out
    · obtain rfl : i = m' := by omega
      have hall : X.take i = X := by rw [List.take_of_length_le]; rw [HM.out]; exact Nat.le_refl _
      rw [hall] at hpr
      clear hall hlt hi
      go_wp2_with fail
      go_ret
      refine ⟨_, rfl, ?_, hpr.out.bel⟩
      have e : encT (rm : Int) X = Y ++ X.flatMap encS := by unfold encT; rw [HM.out, Int.toNat_natCast, HY1.out, HY2.out, HY.out]
      rw [e]
      exact hpr.out.own
end Go.Proofs.Ytiijlnlkhpneaaa.Se
namespace Go.Proofs.Ytiijlnlkhpneaaa.Se
open Go.RowKit
open Nd (Row wp_world post_Row grownBy_setCell below_of_grown grownBy_trans grown_of_below grownBy_refl bytesS u8v i64r Sl Sta sNum sInt sFlag sText str RI Grew sNum_lt)
/-- a seat as the reference reads it -/
def rSeat (t : Sta) : Seat × Sta := (⟨((sNum t).1 : Int), ((sNum (sNum t).2).1 : Int), (sInt (sNum (sNum t).2).2).1, (sFlag (sInt (sNum (sNum t).2).2).2).1, str (sText 8192 (sFlag (sInt (sNum (sNum t).2).2).2).2).1⟩, (sText 8192 (sFlag (sInt (sNum (sNum t).2).2).2).2).2)
/-- what is wrong with it -/
def badS (last : Nat) (t : Sta) : Bool := decide ((rSeat t).2.2 ≠ 0) || decide ((sNum t).1 ≤ last) || decide (8 < (sNum t).1) || decide ((sNum (sNum t).2).1 < 1) || decide (1099511627776 < (sNum (sNum t).2).1) || (!(sFlag (sInt (sNum (sNum t).2).2).2).1 && decide ((str (sText 8192 (sFlag (sInt (sNum (sNum t).2).2).2).2).1).size ≠ 0))
def rdL : Nat → Nat → List Seat → Sta → Option (List Seat × Sta)
  | 0, _, acc, t => some (acc, t)
  | k + 1, last, acc, t => if badS last t then none else rdL k (sNum t).1 (acc ++ [(rSeat t).1]) (rSeat t).2
def rdE (rm : Nat) : Option (List Seat × Sta) → Option (Nat × List Seat)
  | none => none
  | some (X, t) => if t.1.length ≠ 0 ∨ t.2 ≠ 0 ∨ rm < sumR X then none else some (rm, X)
def rdT (s : Sta) : Option (Nat × List Seat) :=
  if (sNum (sNum s).2).2.2 ≠ 0 ∨ 8192 < (sNum s).1 ∨ 8 < (sNum (sNum s).2).1 then none else rdE (sNum s).1 (rdL (sNum (sNum s).2).1 0 [] (sNum (sNum s).2).2)
end Go.Proofs.Ytiijlnlkhpneaaa.Se
