/-
  The program's Encode.
-/
import Derived.Deep.CutRange
import Derived.OwnWalk
import Derived.Laws.CopyOwn
import Derived.Laws.Tables
import Derived.Deep.RegionLaw
import Derived.Deep.DrawnRows
import Derived.Test.YtiijlnlkhpneaaaF00
import Derived.Test.YtiijlnlkhpneaaaF01
import Derived.Test.YtiijlnlkhpneaaaF02
import Derived.Test.YtiijlnlkhpneaaaF03
import Derived.Test.YtiijlnlkhpneaaaF04
import Derived.Test.YtiijlnlkhpneaaaF05
import Derived.Test.YtiijlnlkhpneaaaF06
import Derived.Test.YtiijlnlkhpneaaaF07
import Derived.Test.YtiijlnlkhpneaaaF08
import Derived.Test.YtiijlnlkhpneaaaF09
import Derived.Test.YtiijlnlkhpneaaaF10
import Derived.Test.YtiijlnlkhpneaaaF11
import Derived.Test.YtiijlnlkhpneaaaF12
import Derived.Test.YtiijlnlkhpneaaaF13
import Derived.Test.YtiijlnlkhpneaaaF14
import Derived.Test.YtiijlnlkhpneaaaF15
namespace Go.Proofs.Ytiijlnlkhpneaaa.Se
open Go.RowKit
open Nd (Row wp_world post_Row grownBy_setCell below_of_grown grownBy_trans grown_of_below grownBy_refl OutB OutIs OutS Grew bytesS u8v i64r)
/-- between two rounds -/
structure ER (w1 : World) (X : List Seat) (Y : List Nat) (i : Nat) (W : World) : Prop where
  out : OutB W w1.heap.size w1.heap.size (Y ++ (X.take i).flatMap encS)
  bel : Below w1.heap.size w1 W
theorem own_mono5 {w : World} {B B' n : Nat} {v : Value} {us : List Value} (h : w.ownsRow B 5 1 v n us) (hB : B' ≤ B) : w.ownsRow B' 5 1 v n us := by
  obtain ⟨h0, ⟨rfl, h1⟩ | ⟨b, cap, cur, rfl, hb, hh, hn, hm, hs, ht⟩⟩ := h
  · exact ⟨h0, .inl ⟨rfl, h1⟩⟩
  · exact ⟨h0, .inr ⟨b, cap, cur, rfl, Nat.le_trans hB hb, hh, hn, hm, hs, ht⟩⟩
set_option maxHeartbeats 4000000 in
set_option maxRecDepth 100000 in
theorem encode_any {w : World} {g : Nat} {room : Int} {T : List Seat} (h : Tab w g room T) (hr : Right T) (ha : AtOk T) (h0 : 0 ≤ room) (h9 : room ≤ 8192) :
    Calls Try.prog 18 #[.pointer (some ⟨g, 0, none⟩)] w fun e w' => ∃ v, e = .returned v ∧ w'.ownsRow w.heap.size 5 1 v (encT room (T.filter seated)).length ((encT room (T.filter seated)).map u8v) ∧ Below w.heap.size w w' := by
  have HEN := hid_in (enc1_of hr ha)
  have h8 := filter_le8 hr
  have HLS := hid_in (list_any h)
  have HCE := hid_in (fun W (k : Below w.heap.size w W) => (h.below k h.lt).room_)
  obtain ⟨rm, rfl⟩ := Int.eq_ofNat_of_zero_le h0
  have HRM : Hid (rm ≤ 8192) := hid_in (by omega)
  have hr9 : (rm : Int) ≤ 8192 := h9
  have HNL := hid_in Nd.num_length
  generalize T.filter seated = X at *
  clear h hr ha h0 h9
  go_enter Try.func18, Try.ntmps18
  go_upto_region 5 with (first | (go_at_call 13; refine HLS.out.mono ?_; rintro e w1 ⟨v1, rfl, hso1, hb1⟩; have HSO := hid_in hso1; have HB1 := hid_in hb1; clear hso1 hb1))
  obtain ⟨w2, HW2⟩ : ∃ w2, Hid (w1.alloc (.cells #[.slice none 0 0] 67) = w2) := ⟨_, hid_in rfl⟩
  have HB2 : Hid (Below w1.heap.size w1 w2) := by rw [← HW2.out]; exact (Below.refl _ _).alloc (Nat.le_refl _) _
  have HO2 : Hid (OutB w2 w1.heap.size w1.heap.size []) := by rw [← HW2.out]; exact ⟨_, Nd.out_new w1⟩
  have HNUM := hid_in (fun W xs (n : Nat) (hn : n < 18446744073709551616) (ho : OutB W w1.heap.size w1.heap.size xs) (hl : xs.length + 10 ≤ 140737488355328) => num_k W _ _ xs n hn (Nat.le_refl _) ho hl)
  have HINT := hid_in (fun W xs (n : Int) (hn : i64r n) (ho : OutB W w1.heap.size w1.heap.size xs) (hl : xs.length + 10 ≤ 140737488355328) => int_k W _ _ xs n hn (Nat.le_refl _) ho hl)
  have HTXT := hid_in (fun W xs s (ho : OutB W w1.heap.size w1.heap.size xs) (hl : xs.length + 10 + s.size ≤ 140737488355328) => text_k W _ _ xs s (Nat.le_refl _) ho hl)
  have HFLG := hid_in (fun W xs f (ho : OutB W w1.heap.size w1.heap.size xs) (hl : xs.length + 1 ≤ 140737488355328) => flag_k W _ _ xs f (Nat.le_refl _) ho hl)
  refine wp_world HW2.out ?_
  have HBW2 := hid_in (HB1.out.trans (HB2.out.mono HB1.out.size))
  have d2 := HCE.out _ HBW2.out
  obtain ⟨p1, c1, rfl, -, hat⟩ := HSO.out.sls.at_
  have HAT := hid_in hat
  have hm8 : (X.length : Int) ≤ 8 := by omega
  have HM8 := hid_in h8
  generalize hm' : X.length = m' at *
  have HM := hid_in hm'
  clear hm'
  clear hat
  go_upto_region 6 with (go_at_call 30; refine (HNUM.out _ _ rm (by have := HRM.out; omega) HO2.out (by simp)).mono ?_; rintro e w3 ⟨rfl, ho3, hb3, -⟩; rw [List.nil_append] at ho3; have HO3 := hid_in ho3; have HB3 := hid_in (HB2.out.trans hb3); clear ho3 hb3)
  go_upto_region 7 with (go_at_call 30; refine (HNUM.out _ _ m' (by have := HM8.out; omega) HO3.out (by have := HNL.out rm; omega)).mono ?_; rintro e w4 ⟨rfl, ho4, hb4, -⟩; have HO4 := hid_in ho4; have HB4 := hid_in (HB3.out.trans hb4); clear ho4 hb4)
  obtain ⟨Y, HY⟩ : ∃ Y, Hid (Nd.Wire.num rm ++ Nd.Wire.num m' = Y) := ⟨_, hid_in rfl⟩
  have HYL0 : Hid (Y.length ≤ 20) := hid_in (by rw [← HY.out]; have h1 := HNL.out rm; have h2 := HNL.out m'; simp only [List.length_append]; omega)
  rw [HY.out] at HO4
  clear HO2 HO3 d2 HB2 HBW2
  go_wp2_with fail
  go_loopw [27] (fun vi W => ∃ i : Nat, i ≤ m' ∧ vi = .int .i64 (i : Int) ∧ Hid (ER w1 X Y i W)) (fun vi _ => m' - (intOf vi).toNat)
  case atStart => exact ⟨0, by omega, rfl, ⟨by simpa using HO4.out, HB4.out⟩⟩
  case round =>
    obtain ⟨i, hi, rfl, hpr⟩ := hrel
    by_cases hlt : i < m'
    · have hl2 : (i : Int) < (m' : Int) := by omega
      have hl3 : ¬ (i : Int) < 0 := by omega
      have hl4 : 0 ≤ (i : Int) := by omega
      obtain ⟨s, hs⟩ : ∃ s, X[i]? = some s := ⟨_, List.getElem?_eq_getElem (by rw [HM.out]; exact hlt)⟩
      obtain ⟨b, o, rfl, hcs⟩ := HAT.out (by rintro rfl; simp at hs)
      obtain ⟨u0, u1, u2, u3, u4⟩ := hcs _ hpr.out.bel i s hs
      have htk := take_encS hs
      obtain ⟨i1, i2, i3, i4, i5, i6⟩ := HEN.out s (List.mem_of_getElem? hs)
      have hto := encs_len (X.take i) (fun f hf => HEN.out f (List.mem_of_mem_take hf))
      have htl : (X.take i).length ≤ 8 := by rw [List.length_take]; omega
      obtain ⟨sc, sn, sa, sk, sr⟩ := s
      simp only at u0 u1 u2 u3 u4 i1 i2 i3 i4 i5 i6
      obtain ⟨cn, rfl⟩ := Int.eq_ofNat_of_zero_le i1
      obtain ⟨nn, rfl⟩ := Int.eq_ofNat_of_zero_le i3
      obtain ⟨Z, HZ⟩ : ∃ Z, Hid (Y ++ (X.take i).flatMap encS = Z) := ⟨_, hid_in rfl⟩
      have HYL : Hid (Z.length ≤ 70000) := hid_in (by rw [← HZ.out, List.length_append]; have := HYL0.out; omega)
      have HNX : Hid (Y ++ (X.take (i + 1)).flatMap encS = (((Z ++ Nd.Wire.num cn ++ Nd.Wire.num nn) ++ Nd.Wire.num (Nd.Wire.zz sa)) ++ [if sk then 1 else 0]) ++ (Nd.Wire.num sr.size ++ bytesS sr)) := hid_in (by
        rw [htk, ← List.append_assoc, HZ.out]
        simp only [encS, Int.toNat_natCast, List.append_assoc])
      obtain ⟨w5, HW5⟩ : ∃ w5, Hid (wr.alloc (.cells #[.int .i64 (cn : Int), .int .i64 (nn : Int), .int .i64 sa, .bool sk, .string sr] 48) = w5) := ⟨_, hid_in rfl⟩
      have HBX : Hid (Below wr.heap.size wr w5) := hid_in (by rw [← HW5.out]; exact (Below.refl _ _).alloc (Nat.le_refl _) _)
      have HR5 : Hid (Row w5 wr.heap.size [.int .i64 (cn : Int), .int .i64 (nn : Int), .int .i64 sa, .bool sk, .string sr] 48) := hid_in (by rw [← HW5.out]; exact Row.new wr [.int .i64 (cn : Int), .int .i64 (nn : Int), .int .i64 sa, .bool sk, .string sr] 48)
      have HO5 := hid_in (hpr.out.out.below HBX.out)
      rw [HZ.out] at HO5
      have HB5 := hid_in (hpr.out.bel.trans (HBX.out.mono hpr.out.bel.size))
      have HSA := hid_in i5
      have HSR := hid_in i6
      have HLT := hid_in hlt
      have k1 : (cn : Int) ≤ 8 := i2
      have k2 : (nn : Int) ≤ 1099511627776 := i4
      have HCN : Hid (cn ≤ 8) := hid_in (by omega)
      have HNN : Hid (nn ≤ 1099511627776) := hid_in (by omega)
      clear hs hcs htk hto htl i1 i2 i3 i4 i5 i6 hpr hi hlt
      go_upto_region 10 with fail
      refine wp_world HW5.out ?_
      generalize wr.heap.size = bs at *
      have e0 := HR5.out.cell 0
      simp only [List.getElem?_cons_zero] at e0
      go_upto_region 11 with (go_at_call 30; refine (HNUM.out _ _ cn (by have := HCN.out; omega) HO5.out (by have := HYL.out; have h1 := HNL.out cn; have h2 := HNL.out nn; have h3 := HNL.out (Nd.Wire.zz sa); have h4 := HSR.out; (try simp only [List.length_append, List.length_cons, List.length_nil]); omega)).mono ?_; rintro e w6 ⟨rfl, ho6, hb6, hk6⟩; have HO6 := hid_in ho6; have HR6 := hid_in (hk6.row HR5.out (by decide) (by decide)); have HB6 := hid_in (HB5.out.trans hb6); clear ho6 hb6 hk6)
      have e1 := HR6.out.cell 1
      simp only [List.getElem?_cons_succ, List.getElem?_cons_zero] at e1
      go_upto_region 12 with (go_at_call 30; refine (HNUM.out _ _ nn (by have := HNN.out; omega) HO6.out (by have := HYL.out; have h1 := HNL.out cn; have h2 := HNL.out nn; have h3 := HNL.out (Nd.Wire.zz sa); have h4 := HSR.out; (try simp only [List.length_append]); omega)).mono ?_; rintro e w7 ⟨rfl, ho7, hb7, hk7⟩; have HO7 := hid_in ho7; have HR7 := hid_in (hk7.row HR6.out (by decide) (by decide)); have HB7 := hid_in (HB6.out.trans hb7); clear ho7 hb7 hk7)
      have e2 := HR7.out.cell 2
      simp only [List.getElem?_cons_succ, List.getElem?_cons_zero] at e2
      go_upto_region 13 with (go_at_call 31; refine (HINT.out _ _ _ HSA.out HO7.out (by have := HYL.out; have h1 := HNL.out cn; have h2 := HNL.out nn; have h3 := HNL.out (Nd.Wire.zz sa); have h4 := HSR.out; (try simp only [List.length_append]); omega)).mono ?_; rintro e w8 ⟨rfl, ho8, hb8, hk8⟩; have HO8 := hid_in ho8; have HR8 := hid_in (hk8.row HR7.out (by decide) (by decide)); have HB8 := hid_in (HB7.out.trans hb8); clear ho8 hb8 hk8)
      have e3 := HR8.out.cell 3
      simp only [List.getElem?_cons_succ, List.getElem?_cons_zero] at e3
      go_upto_region 14 with (go_at_call 32; refine (HFLG.out _ _ _ HO8.out (by have := HYL.out; have h1 := HNL.out cn; have h2 := HNL.out nn; have h3 := HNL.out (Nd.Wire.zz sa); have h4 := HSR.out; (try simp only [List.length_append]); omega)).mono ?_; rintro e w9 ⟨rfl, ho9, hb9, hk9⟩; have HO9 := hid_in ho9; have HR9 := hid_in (hk9.row HR8.out (by decide) (by decide)); have HB9 := hid_in (HB8.out.trans hb9); clear ho9 hb9 hk9)
      have e4 := HR9.out.cell 4
      simp only [List.getElem?_cons_succ, List.getElem?_cons_zero] at e4
      go_wp2_with (go_at_call 33; refine (HTXT.out _ _ _ HO9.out (by have := HYL.out; have h1 := HNL.out cn; have h2 := HNL.out nn; have h3 := HNL.out (Nd.Wire.zz sa); have h4 := HSR.out; (try simp only [List.length_append, List.length_cons, List.length_nil]); omega)).mono ?_; rintro e w10 ⟨rfl, ho10, hb10, hk10⟩; have HO10 := hid_in ho10; have HB10 := hid_in (HB9.out.trans hb10); clear ho10 hb10 hk10)
      go_roundw
      case rel => exact ⟨i + 1, by have := HLT.out; omega, by go_num, ⟨by rw [HNX.out]; exact HO10.out, HB10.out⟩⟩
      case measure => have := HLT.out; simp [intOf]; omega
    · obtain rfl : i = m' := by omega
      obtain ⟨v, hv⟩ := hpr.out.out
      have hall : X.take i = X := by rw [List.take_of_length_le]; rw [HM.out]; exact Nat.le_refl _
      rw [hall] at hv
      have hbl := encs_len X HEN.out
      have HOB := hid_in (Nd.obytes_any _ _ _ v _ hv (by rw [List.length_append]; have := HYL0.out; have h1 := HM8.out; rw [HM.out] at hbl; omega))
      have HBW := hid_in hpr.out.bel
      clear hv hall hbl hlt hi hpr
      go_wp2_with (go_at_call 34; refine HOB.out.mono ?_; rintro e w11 ⟨v11, rfl, ho11, hb11⟩; have HO11 := hid_in ho11; have HB11 := hid_in (HBW.out.trans (hb11.mono HBW.out.size)); clear ho11 hb11)
      go_ret
      refine ⟨_, rfl, ?_, HB1.out.trans (HB11.out.mono HB1.out.size)⟩
      have e : encT (rm : Int) X = Y ++ X.flatMap encS := by unfold encT; rw [HM.out, Int.toNat_natCast, HY.out]
      rw [e]
      exact own_mono5 HO11.out (Nat.le_trans HB1.out.size HBW.out.size)
end Go.Proofs.Ytiijlnlkhpneaaa.Se
