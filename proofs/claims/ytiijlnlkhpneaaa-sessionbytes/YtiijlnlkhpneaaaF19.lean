/-
  The reference's Record in full.
-/
import Derived.OwnWalk
import Derived.Laws.CopyOwn
import Derived.Laws.Tables
import Derived.Deep.RegionLaw
import Derived.Deep.DrawnRows
import Derived.Test.YtiijlnlkhpneaaaF00
import Derived.Test.YtiijlnlkhpneaaaF01
import Derived.Test.YtiijlnlkhpneaaaF02
import Derived.Test.YtiijlnlkhpneaaaF03
import Derived.Test.YtiijlnlkhpneaaaF04
import Derived.Test.YtiijlnlkhpneaaaF05
import Derived.Test.YtiijlnlkhpneaaaF06
import Derived.Test.YtiijlnlkhpneaaaF07
import Derived.Test.YtiijlnlkhpneaaaF08
import Derived.Test.YtiijlnlkhpneaaaF09
import Derived.Test.YtiijlnlkhpneaaaF10
import Derived.Test.YtiijlnlkhpneaaaF11
import Derived.Test.YtiijlnlkhpneaaaF12
import Derived.Test.YtiijlnlkhpneaaaF13
import Derived.Test.YtiijlnlkhpneaaaF16
import Derived.Test.YtiijlnlkhpneaaaF17
import Derived.Test.YtiijlnlkhpneaaaF18
namespace Go.Proofs.Ytiijlnlkhpneaaa.Se
open Go.RowKit
open Nd (Row wp_world post_Row grownBy_setCell below_of_grown grownBy_trans grown_of_below grownBy_refl)
theorem SO.mono {w : World} {B B' : Nat} {v : Value} {X : List Seat} (h : SO w B v X) (hB : B' ≤ B) : SO w B' v X := by
  obtain ⟨h0, ⟨rfl, h1⟩ | ⟨b, cap, cur, rfl, hb, hh, hn, hm, hs, ht⟩⟩ := h
  · exact ⟨h0, .inl ⟨rfl, h1⟩⟩
  · exact ⟨h0, .inr ⟨b, cap, cur, rfl, Nat.le_trans hB hb, hh, hn, hm, hs, ht⟩⟩
theorem putC_ne (n : Seat) (X : List Seat) : putC n X ≠ [] := by unfold putC; simp
theorem Ins.none_ {w : World} {n : Seat} {X : List Seat} {k : Nat} {v : Value} {W : World} (h : Ins w n X k false v W) : Below w.heap.size w W ∧ SO W w.heap.size v (X.take k) ∧ ∀ y ∈ X.take k, y.client < n.client := by
  obtain ⟨h1, ⟨-, h2, h3⟩ | ⟨h2, -⟩⟩ := h
  · exact ⟨h1, h2, h3⟩
  · cases h2
theorem Ins.some_ {w : World} {n : Seat} {X : List Seat} {k : Nat} {v : Value} {W : World} (h : Ins w n X k true v W) : Below w.heap.size w W ∧ SO W w.heap.size v (putC n (X.take k)) ∧ ∃ j x, X[j]? = some x ∧ j < k ∧ n.client ≤ x.client := by
  obtain ⟨h1, ⟨h2, -⟩ | ⟨-, h2, h3⟩⟩ := h
  · cases h2
  · exact ⟨h1, h2, h3⟩
set_option maxHeartbeats 8000000 in
set_option maxRecDepth 100000 in
theorem rrecord_any {w : World} {B r : Nat} {room : Int} {T : List Seat} (h : RT w B r room (T.filter seated)) (hr : Right T) (h0 : 0 ≤ room) (c n a : Int) (rp : ByteArray) :
    Calls Try.prog 25 #[.pointer (some ⟨r, 0, none⟩), .int .i64 c, .int .i64 n, .int .i64 a, .string rp] w fun e w' => e = .returned (.int .i64 (recE T c n rp)) ∧ RD w B r room ((recT room T c n a rp).filter seated) w' := by
  have H := hid_in h
  have HLK := hid_in (rlook_any h hr c n)
  have HIN := hid_in (look_range T c n)
  obtain ⟨p, cap, hrow, hl1, hl2, hat⟩ := h.at_
  have HBR := hid_in h.ge
  have HRLT := hid_in hrow.lt
  have HBLE : Hid (B ≤ w.heap.size) := hid_in (by have := HBR.out; have := HRLT.out; omega)
  have HBLE0 : Hid (B ≤ w.heap.size) := hid_in HBLE.out
  have HSM : Hid (∀ W, Below w.heap.size w W → RD w B r room (T.filter seated) W) := hid_in (fun W x => ⟨h.below x, K61.of_below x, x.mono HBLE.out, Oth.of_below x HRLT.out⟩)
  unfold recT
  unfold recE
  generalize (lookS T c n).2 = lr at *
  generalize (lookS T c n).1 = st at *
  by_cases k0 : st = 0
  · subst k0
    rw [if_pos rfl, if_neg (by decide)]
    clear h hr h0 hrow hl1 hl2 hat
    go_enter Try.func25, Try.ntmps25
    go_wp2_with (first | (go_at_call 15; refine HLK.out.mono ?_; rintro e w2 ⟨rfl, hb2⟩; have HB2 := hid_in hb2; clear hb2))
    go_ret
    exact ⟨rfl, HSM.out _ HB2.out⟩
  · rw [if_neg k0]
    have k0b : (st == 0) = false := by simpa using k0
    by_cases k1 : st = 1
    · subst k1
      rw [if_pos rfl]
      obtain ⟨hc, hn⟩ := HIN.out k0
      clear k0b
      by_cases k2 : 8192 < (rp.size : Int)
      · rw [if_pos k2, if_neg (by decide)]
        clear h hr h0 hc hn hrow hl1 hl2 hat
        go_enter Try.func25, Try.ntmps25
        go_wp2_with (first | (go_at_call 15; refine HLK.out.mono ?_; rintro e w2 ⟨rfl, hb2⟩; have HB2 := hid_in hb2; clear hb2))
        go_ret
        exact ⟨rfl, HSM.out _ HB2.out⟩
      · rw [if_neg k2, if_pos rfl]
        obtain ⟨i, s, hi, rfl, hs, -⟩ := isC_at hc hr.len
        have e1 : ((i : Int) + 1 - 1).toNat = i := by omega
        rw [e1]
        have HR1 := hid_in (right_put (i := i) (a := a) hr hn (by omega : rp.size ≤ 8192))
        have hn2 : 1 ≤ n ∧ n ≤ 1099511627776 := of_decide_eq_true hn
        have HPC := hid_in (putC_from T 0 i ⟨(i : Int) + 1, n, a, true, rp⟩ hr.from (by rw [hr.len]; exact hi) (by show (n != 0) = true; simp; omega) (by rw [Nat.zero_add]))
        have HPW := hid_in (filter_pair T 0 hr.from)
        have hm8 := filter_le8 hr
        have HROW := hid_in hrow
        have HAT := hid_in hat
        have H0 := hid_in h0
        generalize T.set i ⟨(i : Int) + 1, n, a, true, rp⟩ = T1 at *
        generalize (i : Int) + 1 = c at *
        generalize T.filter seated = X at *
        obtain ⟨m, HM⟩ : ∃ m, Hid (X.length = m) := ⟨_, hid_in rfl⟩
        rw [HM.out] at hm8 HROW hl1
        clear h hr h0 hc hn hn2 hs e1 hi k0 hrow hat hl1 hl2 HSM H HIN
        go_enter Try.func25, Try.ntmps25
        go_upto_region 10 with (first | (go_at_call 15; refine HLK.out.mono ?_; rintro e w2 ⟨rfl, hb2⟩; have HB2 := hid_in hb2; clear hb2))
        clear HLK
        obtain ⟨w3, HW3⟩ : ∃ w3, Hid (w2.alloc (.cells #[.int .i64 c, .int .i64 n, .int .i64 a, .bool true, .string rp] 48) = w3) := ⟨_, hid_in rfl⟩
        have HBW3 : Hid (Below w.heap.size w w3) := hid_in (by rw [← HW3.out]; exact HB2.out.alloc HB2.out.size _)
        have HRS : Hid (Row w3 w2.heap.size [.int .i64 c, .int .i64 n, .int .i64 a, .bool true, .string rp] 48) := hid_in (by rw [← HW3.out]; exact Row.new w2 [.int .i64 c, .int .i64 n, .int .i64 a, .bool true, .string rp] 48)
        refine wp_world HW3.out ?_
        generalize w2.heap.size = bs at *
        clear HW3 HB2
        go_wp2_with fail
        go_loopg [13, 15, 16] m (fun gk vl vp vi W => ∃ (k : Nat) (put : Bool), gk + k = m ∧ vi = .int .i64 (k : Int) ∧ vp = .bool put ∧ Hid (Ins w3 ⟨c, n, a, true, rp⟩ X k put vl W))
        case atStart => exact ⟨0, false, by omega, rfl, rfl, Below.refl _ _, .inl ⟨rfl, SO.nil _ _, fun y hy => by simp at hy⟩⟩
        case round =>
          obtain ⟨k, put, hgk, rfl, rfl, hins⟩ := hrel
          have HBI := hid_in hins.out.1
          have HBA := hid_in (HBW3.out.trans (HBI.out.mono HBW3.out.size))
          have q1 := (HROW.out.below HBA.out HRLT.out).cell 1
          simp only [List.getElem?_cons_succ, List.getElem?_cons_zero] at q1
          have HGK := hid_in hgk
          have HTL : Hid ((X.take k).length ≤ 8) := hid_in (by rw [List.length_take]; have := HM.out; omega)
          by_cases hkm : k < m
          · obtain ⟨x, hx⟩ : ∃ x, X[k]? = some x := ⟨_, List.getElem?_eq_getElem (by rw [HM.out]; exact hkm)⟩
            obtain ⟨b, rfl, hbB, hbl, hcs⟩ := HAT.out (by rintro rfl; simp at hx)
            have HCS := hid_in (fun W y => hcs W y k x hx)
            obtain ⟨u0, u1, u2, u3, u4⟩ := HCS.out _ HBA.out
            have HTS := hid_in (take_snoc hx)
            have HX := hid_in hx
            have hk2 : (k : Int) < (m : Int) := by omega
            have hk3 : ¬ (k : Int) < 0 := by omega
            have hk4 : 0 ≤ (k : Int) := by omega
            have HKM := hid_in hkm
            have HRSW := hid_in (HRS.out.below HBI.out HRS.out.lt)
            have a0 : wr.cell? ⟨bs, 0, none⟩ = some (.int .i64 c) := HRSW.out.cell 0
            have a1 : wr.cell? ⟨bs, 1, none⟩ = some (.int .i64 n) := HRSW.out.cell 1
            have a2 : wr.cell? ⟨bs, 2, none⟩ = some (.int .i64 a) := HRSW.out.cell 2
            have a3 : wr.cell? ⟨bs, 3, none⟩ = some (.bool true) := HRSW.out.cell 3
            have a4 : wr.cell? ⟨bs, 4, none⟩ = some (.string rp) := HRSW.out.cell 4
            obtain ⟨xc, xn, xa, xk, xr⟩ := x
            simp only at u0 u1 u2 u3 u4 HCS
            clear hx hcs hkm hgk hbB hbl
            cases put with
            | false =>
              obtain ⟨-, hso, hall⟩ := hins.out.none_
              have HSO := hid_in hso
              have HALL := hid_in hall
              clear hso hall hins
              by_cases hlt : xc < c
              · have g1 : ¬ c ≤ xc := by omega
                have g2 : (xc != c) = true := by simp; omega
                have g3 : ¬ xc = c := by omega
                have HLT := hid_in hlt
                have HA1 : Hid (Below wr.heap.size wr (wr.alloc (.cells #[.int .i64 xc, .int .i64 xn, .int .i64 xa, .bool xk, .string xr] 48))) := hid_in ((Below.refl _ _).alloc (Nat.le_refl _) _)
                have HO1 := hid_in (HSO.out.below HA1.out)
                have HF1 := hid_in (sls_one wr ⟨xc, xn, xa, xk, xr⟩)
                simp only at HF1
                have HV1 := hid_in (HBI.out.trans (HA1.out.mono HBI.out.size))
                clear hlt
                go_wp2_with (first | (at_builtin; refine wpList_app48 w3.heap.size rfl _ _ rfl _ _ [⟨xc, xn, xa, xk, xr⟩] rfl HO1.out _ rfl HF1.out (by have := HTL.out; simp only [List.length_cons, List.length_nil]; omega) HV1.out.size ?_; intro v41 w41 ho4 hg4; have HB41 := hid_in (HO1.out.step HV1.out HV1.out.size hg4); have HP41 : Hid (SO w41 w3.heap.size v41 (X.take k ++ [⟨xc, xn, xa, xk, xr⟩])) := hid_in ho4; clear ho4 hg4))
                go_roundg (m - (k + 1))
                case measure => have := HGK.out; have := HKM.out; omega
                case rel => exact ⟨k + 1, false, by have := HKM.out; omega, by go_num, rfl, ⟨HB41.out, .inl ⟨rfl, by rw [HTS.out]; exact HP41.out, fun y hy => by rw [HTS.out] at hy; rcases List.mem_append.1 hy with h5 | h5; (exact HALL.out y h5); (simp at h5; rw [h5]; exact HLT.out)⟩⟩⟩
              · by_cases heq : xc = c
                · have heq2 : c = xc := heq.symm
                  subst heq2
                  have g1 : c ≤ c := by omega
                  have g2 : (c != c) = false := by simp
                  have HA1 : Hid (Below wr.heap.size wr (wr.alloc (.cells #[.int .i64 c, .int .i64 n, .int .i64 a, .bool true, .string rp] 48))) := hid_in ((Below.refl _ _).alloc (Nat.le_refl _) _)
                  have HO1 := hid_in (HSO.out.below HA1.out)
                  have HF1 := hid_in (sls_one wr ⟨c, n, a, true, rp⟩)
                  simp only at HF1
                  have HV1 := hid_in (HBI.out.trans (HA1.out.mono HBI.out.size))
                  clear hlt
                  go_upto_region 17 with (first | (at_builtin; refine wpList_app48 w3.heap.size rfl _ _ rfl _ _ [⟨c, n, a, true, rp⟩] rfl HO1.out _ rfl HF1.out (by have := HTL.out; simp only [List.length_cons, List.length_nil]; omega) HV1.out.size ?_; intro v41 w41 ho4 hg4; have HB41 := hid_in (HO1.out.step HV1.out HV1.out.size hg4); have HP41 : Hid (SO w41 w3.heap.size v41 (X.take k ++ [⟨c, n, a, true, rp⟩])) := hid_in ho4; clear ho4 hg4))
                  have HBA2 := hid_in (HBW3.out.trans (HB41.out.mono HBW3.out.size))
                  have q2 := (HROW.out.below HBA2.out HRLT.out).cell 1
                  simp only [List.getElem?_cons_succ, List.getElem?_cons_zero] at q2
                  obtain ⟨y0, y1, y2, y3, y4⟩ := HCS.out _ HBA2.out
                  go_wp2_with fail
                  go_roundg (m - (k + 1))
                  case measure => have := HGK.out; have := HKM.out; omega
                  case rel => exact ⟨k + 1, true, by have := HKM.out; omega, by go_num, rfl, ⟨HB41.out, .inr ⟨rfl, by rw [HTS.out, put_at (n := ⟨c, n, a, true, rp⟩) (x := ⟨c, xn, xa, xk, xr⟩) HALL.out rfl]; exact HP41.out, k, _, HX.out, by omega, by show c ≤ c; omega⟩⟩⟩
                · have g1 : c ≤ xc := by omega
                  have g2 : (xc != c) = true := by simp; omega
                  have HGT : Hid (c < xc) := hid_in (by omega)
                  have HTL2 : Hid ((X.take k ++ ([⟨c, n, a, true, rp⟩] : List Seat)).length ≤ 9) := hid_in (by have := HTL.out; simp only [List.length_append, List.length_cons, List.length_nil]; omega)
                  have HA1 : Hid (Below wr.heap.size wr (wr.alloc (.cells #[.int .i64 c, .int .i64 n, .int .i64 a, .bool true, .string rp] 48))) := hid_in ((Below.refl _ _).alloc (Nat.le_refl _) _)
                  have HO1 := hid_in (HSO.out.below HA1.out)
                  have HF1 := hid_in (sls_one wr ⟨c, n, a, true, rp⟩)
                  simp only at HF1
                  have HV1 := hid_in (HBI.out.trans (HA1.out.mono HBI.out.size))
                  clear hlt
                  go_upto_region 17 with (first | (at_builtin; refine wpList_app48 w3.heap.size rfl _ _ rfl _ _ [⟨c, n, a, true, rp⟩] rfl HO1.out _ rfl HF1.out (by have := HTL.out; simp only [List.length_cons, List.length_nil]; omega) HV1.out.size ?_; intro v41 w41 ho4 hg4; have HB41 := hid_in (HO1.out.step HV1.out HV1.out.size hg4); have HP41 : Hid (SO w41 w3.heap.size v41 (X.take k ++ [⟨c, n, a, true, rp⟩])) := hid_in ho4; clear ho4 hg4))
                  have HBA2 := hid_in (HBW3.out.trans (HB41.out.mono HBW3.out.size))
                  have q2 := (HROW.out.below HBA2.out HRLT.out).cell 1
                  simp only [List.getElem?_cons_succ, List.getElem?_cons_zero] at q2
                  obtain ⟨y0, y1, y2, y3, y4⟩ := HCS.out _ HBA2.out
                  have HA2 : Hid (Below w41.heap.size w41 (w41.alloc (.cells #[.int .i64 xc, .int .i64 xn, .int .i64 xa, .bool xk, .string xr] 48))) := hid_in ((Below.refl _ _).alloc (Nat.le_refl _) _)
                  have HO2 := hid_in (HP41.out.below HA2.out)
                  have HF2 := hid_in (sls_one w41 ⟨xc, xn, xa, xk, xr⟩)
                  simp only at HF2
                  have HV2 := hid_in (HB41.out.trans (HA2.out.mono HB41.out.size))
                  go_wp2_with (first | (at_builtin; refine wpList_app48 w3.heap.size rfl _ _ rfl _ _ [⟨xc, xn, xa, xk, xr⟩] rfl HO2.out _ rfl HF2.out (by have := HTL2.out; simp only [List.length_cons, List.length_nil]; omega) HV2.out.size ?_; intro v42 w42 ho4 hg4; have HB42 := hid_in (HO2.out.step HV2.out HV2.out.size hg4); have HP42 : Hid (SO w42 w3.heap.size v42 ((X.take k ++ ([⟨c, n, a, true, rp⟩] : List Seat)) ++ [⟨xc, xn, xa, xk, xr⟩])) := hid_in ho4; clear ho4 hg4))
                  go_roundg (m - (k + 1))
                  case measure => have := HGK.out; have := HKM.out; omega
                  case rel => exact ⟨k + 1, true, by have := HKM.out; omega, by go_num, rfl, ⟨HB42.out, .inr ⟨rfl, by rw [HTS.out, put_over (n := ⟨c, n, a, true, rp⟩) (x := ⟨xc, xn, xa, xk, xr⟩) HALL.out HGT.out]; exact HP42.out, k, _, HX.out, by omega, by show c ≤ xc; exact Int.le_of_lt HGT.out⟩⟩⟩
            | true =>
              obtain ⟨-, hso, j, x5, hj, hjk, hjc⟩ := hins.out.some_
              have HGT : Hid (c < xc) := hid_in (by
                have h6 := pair_at HPW.out hj HX.out hjk
                simp only at h6 hjc
                omega)
              have HWIT : Hid (∃ j x, X[j]? = some x ∧ j < k + 1 ∧ (⟨c, n, a, true, rp⟩ : Seat).client ≤ x.client) := hid_in ⟨j, x5, hj, by omega, hjc⟩
              have HSO := hid_in hso
              have HTP : Hid ((putC ⟨c, n, a, true, rp⟩ (X.take k)).length ≤ 17) := hid_in (by have := putC_len ⟨c, n, a, true, rp⟩ (X.take k); have := HTL.out; omega)
              clear hso hins hj hjk hjc
              have g2 : (xc != c) = true := by have := HGT.out; simp; omega
              have HA1 : Hid (Below wr.heap.size wr (wr.alloc (.cells #[.int .i64 xc, .int .i64 xn, .int .i64 xa, .bool xk, .string xr] 48))) := hid_in ((Below.refl _ _).alloc (Nat.le_refl _) _)
              have HO1 := hid_in (HSO.out.below HA1.out)
              have HF1 := hid_in (sls_one wr ⟨xc, xn, xa, xk, xr⟩)
              simp only at HF1
              have HV1 := hid_in (HBI.out.trans (HA1.out.mono HBI.out.size))
              go_wp2_with (first | (at_builtin; refine wpList_app48 w3.heap.size rfl _ _ rfl _ _ [⟨xc, xn, xa, xk, xr⟩] rfl HO1.out _ rfl HF1.out (by have := HTP.out; simp only [List.length_cons, List.length_nil]; omega) HV1.out.size ?_; intro v41 w41 ho4 hg4; have HB41 := hid_in (HO1.out.step HV1.out HV1.out.size hg4); have HP41 : Hid (SO w41 w3.heap.size v41 (putC ⟨c, n, a, true, rp⟩ (X.take k) ++ [⟨xc, xn, xa, xk, xr⟩])) := hid_in ho4; clear ho4 hg4))
              go_roundg (m - (k + 1))
              case measure => have := HGK.out; have := HKM.out; omega
              case rel => exact ⟨k + 1, true, by have := HKM.out; omega, by go_num, rfl, ⟨HB41.out, .inr ⟨rfl, by rw [HTS.out, put_more (n := ⟨c, n, a, true, rp⟩) (x := ⟨xc, xn, xa, xk, xr⟩) HGT.out]; exact HP41.out, HWIT.out⟩⟩⟩
          · obtain rfl : k = m := by omega
            have HXT : Hid (X.take k = X) := hid_in (by rw [← HM.out, List.take_length])
            rw [HXT.out] at HTL
            cases put with
            | true =>
              obtain ⟨hb5, hso, -⟩ := hins.out.some_
              rw [HXT.out] at hso
              have HOZ := hid_in hso
              have HBZ := hid_in hb5
              clear hso hb5 hins hgk hkm HXT
              have HZS := hid_in (HBW3.out.trans (HBZ.out.mono HBW3.out.size))
              have HRZ := hid_in (HROW.out.below HZS.out HRLT.out)
              obtain ⟨pz, cz, rfl, hz1, hz2, hz3⟩ := HOZ.out.own
              obtain ⟨bz, -, HPZ, HBZ2, -, -⟩ := hz3 (putC_ne _ _)
              replace HPZ := hid_in HPZ
              clear hz3
              have z1 := HRZ.out.frozen 1
              have q9 := HRZ.out.cell 1
              simp only [List.getElem?_cons_succ, List.getElem?_cons_zero] at q9
              have HGZ := hid_in (grownBy_setCell wr ⟨r, 1, none⟩ (.slice pz (putC ⟨c, n, a, true, rp⟩ X).length cz))
              have HR6 := hid_in (HRZ.out.set_same 1 (.slice pz (putC ⟨c, n, a, true, rp⟩ X).length cz))
              have HO6 := hid_in ((HOZ.out.grown HGZ.out (Nat.lt_of_lt_of_le HRLT.out HBW3.out.size)).mono (Nat.le_trans HBLE.out HBW3.out.size))
              have HT6 : Hid (RT (wr.setCell ⟨r, 1, none⟩ (.slice pz (putC ⟨c, n, a, true, rp⟩ X).length cz)) B r room (T1.filter seated)) := hid_in ⟨⟨_, HR6.out, by rw [HPC.out]; exact HO6.out⟩, HBR.out⟩
              have HK6 : Hid (K61 w (wr.setCell ⟨r, 1, none⟩ (.slice pz (putC ⟨c, n, a, true, rp⟩ X).length cz))) := hid_in ((K61.of_below HZS.out).trans (K61.of_grown HRZ.out (by decide) HGZ.out))
              have HB6 : Hid (Below B w (wr.setCell ⟨r, 1, none⟩ (.slice pz (putC ⟨c, n, a, true, rp⟩ X).length cz))) := hid_in (below_of_grown (HZS.out.mono HBLE.out) HGZ.out (Nat.le_trans HBLE.out HZS.out.size) HBR.out)
              have HOT6 : Hid (Oth w r (wr.setCell ⟨r, 1, none⟩ (.slice pz (putC ⟨c, n, a, true, rp⟩ X).length cz))) := hid_in (fun x hx hxr hxn => by
                have c2 := HR6.out.cell 1
                simp only [List.set_cons_succ, List.set_cons_zero, List.getElem?_cons_succ, List.getElem?_cons_zero] at c2
                refine ⟨(HGZ.out.block x (Nat.lt_of_lt_of_le hx HZS.out.size) (fun e => hxr (Option.some.inj e))).trans (HZS.out.block x hx), ?_⟩
                unfold rowOf
                rw [c2, HPZ.out]
                intro e
                have := Option.some.inj e
                have := HBW3.out.size
                simp only at *
                omega)
              generalize (putC ⟨c, n, a, true, rp⟩ X).length = lz at *
              clear HPZ HBZ2 hz1 hz2 HRZ HGZ HR6 HO6 HOZ HZS HBZ
              go_wp2_with fail
              go_loopg [17, 18] (keptN T1) (fun gn v17 v18 W => ∃ T', gn = keptN T' ∧ Hid (Right T') ∧ Hid (RT W B r room (T'.filter seated)) ∧ Hid (mkR room T' = mkR room T1) ∧ Hid (K61 w W) ∧ Hid (Below B w W) ∧ Hid (Oth w r W))
              case atStart => exact ⟨T1, rfl, HR1.out, HT6.out, rfl, HK6.out, HB6.out, HOT6.out⟩
              case round =>
                clear HT6 HK6 HB6 HOT6
                obtain ⟨T', rfl, hr', ht, he, hk6, hbb, hot⟩ := hrel
                have HBY : Hid (∀ nq, Calls Try.prog 47 #[.pointer (some ⟨r, 0, none⟩)] (wr.drewN nq) fun e w' => e = .returned (.int .i64 (sumR T' : Int)) ∧ w' = wr.drewN nq) := hid_in (fun nq => by
                  have hh := rbytes_any (ht.out.below (Nd.below_drewN (Below.refl _ _) nq)) (fun s hs => hr'.out.short s (List.mem_filter.1 hs).1) (filter_le8 hr'.out)
                  rw [(sums_seated T' 0 hr'.out.from).1] at hh
                  exact hh)
                obtain ⟨p', cap', hrow', hl1', hl2', hat'⟩ := ht.out.at_
                have q0 : wr.cell? ⟨r, 0, none⟩ = some (.int .i64 room) := hrow'.cell 0
                by_cases hm : room < (sumR T' : Int)
                · have HM := hid_in hm
                  have HSE := hid_in (fun v hv => srch_end hr'.out H0.out hm (v := v) hv)
                  have HKN := hid_in (fun W (x : Below wr.heap.size wr W) => (hk6.out.trans (K61.of_below x)))
                  have HBN := hid_in (fun W (x : Below wr.heap.size wr W) => (hbb.out.trans (x.mono (Nat.le_trans HBLE0.out (by have := hbb.out.size; omega)))))
                  have HTN := hid_in (fun W (x : Below wr.heap.size wr W) => ht.out.below x)
                  have HON := hid_in (fun W (x : Below wr.heap.size wr W) => (hot.out.trans (Oth.of_below x ht.out.lt) hbb.out.size))
                  generalize sumR T' = S at *
                  clear hrow' hl1' hl2' hat'
                  go_upto_region 22 with fail
                  go_quiet ((go_at_call 47; exact Calls.quiet_of_same (HBY.out _)))
                  have HW6 := hid_in (Nd.below_drewN (Below.refl wr.heap.size wr) nq)
                  have HT7 := hid_in (HTN.out _ HW6.out)
                  have HK7 := hid_in (HKN.out _ HW6.out)
                  have HB7 := hid_in (HBN.out _ HW6.out)
                  have HOT7 := hid_in (HON.out _ HW6.out)
                  clear HW6 HTN HKN HBN HON HBY q0 hk6 hbb ht hot
                  generalize wr.drewN nq = w6 at *
                  obtain ⟨p', cap', hrow', hl1', hl2', hat'⟩ := HT7.out.at_
                  have HAT' := hid_in hat'
                  have HCR := hid_in (fun W (x : Below w6.heap.size w6 W) => (hrow'.below x hrow'.lt).cell 1)
                  have HTN := hid_in (fun W (x : Below w6.heap.size w6 W) => HT7.out.below x)
                  have HKN := hid_in (fun W (x : Below w6.heap.size w6 W) => (HK7.out.trans (K61.of_below x)))
                  have HBN := hid_in (fun W (x : Below w6.heap.size w6 W) => (HB7.out.trans (x.mono (Nat.le_trans HBLE0.out HB7.out.size))))
                  have HON := hid_in (fun W (x : Below w6.heap.size w6 W) => (HOT7.out.trans (Oth.of_below x HT7.out.lt) HB7.out.size))
                  have hm8 := filter_le8 hr'.out
                  obtain ⟨m', HM'⟩ : ∃ m', Hid ((T'.filter seated).length = m') := ⟨_, hid_in rfl⟩
                  rw [HM'.out] at HCR HSE hm8
                  clear hat' hrow' hl1' hl2' HT7 HK7 HB7 HOT7
                  go_wp2_with fail
                  go_loopg [17, 18] m' (fun gq v17 v18 W => ∃ q : Nat, gq + q = m' ∧ v18 = .int .i64 (q : Int) ∧ Hid (Srch (T'.filter seated) q v17) ∧ Hid (Below w6.heap.size w6 W))
                  case atStart => exact ⟨0, by omega, rfl, .inl ⟨rfl, rfl⟩, Below.refl _ _⟩
                  case round =>
                    obtain ⟨q, hgq, rfl, hsr, hb7⟩ := hrel
                    have q1 := HCR.out _ hb7.out
                    simp only [List.getElem?_cons_succ, List.getElem?_cons_zero] at q1
                    by_cases hq : q < m'
                    · obtain ⟨x, hx⟩ : ∃ x, (T'.filter seated)[q]? = some x := ⟨_, List.getElem?_eq_getElem (by rw [HM'.out]; exact hq)⟩
                      obtain ⟨b, rfl, -, -, hcs⟩ := HAT'.out (by intro e; rw [e] at hx; simp at hx)
                      have HCS := hid_in (hcs _ hb7.out)
                      obtain ⟨-, -, u2, u3, -⟩ := HCS.out q x hx
                      have HGQ := hid_in hgq
                      have HTK := hid_in (oldS_take hx)
                      have HX := hid_in hx
                      have hq2 : (q : Int) < (m' : Int) := by omega
                      have hq3 : ¬ (q : Int) < 0 := by omega
                      have hq4 : 0 ≤ (q : Int) := by omega
                      have HQ := hid_in hq
                      have HXE : Hid (x = x) := hid_in rfl
                      unfold Srch at hsr
                      rcases hsr.out with ⟨rfl, ho⟩ | ⟨k', s', rfl, hk', hs', hkp, ho⟩
                      · have HOE := hid_in ho
                        clear hsr hx hgq hq hcs ho
                        cases hxk : x.kept with
                        | false =>
                          rw [hxk] at u3
                          have HS2 : Hid (Srch (T'.filter seated) (q + 1) (.int .i64 (-1))) := hid_in (.inl ⟨rfl, by rw [HTK.out, HOE.out]; exact pick_off hxk⟩)
                          clear hxk
                          go_upto_region 27 with fail
                          go_quiet (fail)
                          go_wp2_with fail
                          go_roundg (m' - (q + 1))
                          case measure => have := HGQ.out; have := HQ.out; omega
                          case rel => exact ⟨q + 1, by have := HQ.out; omega, by go_num, HS2.out, Nd.below_drewN hb7.out _⟩
                        | true =>
                          rw [hxk] at u3
                          have HS2 : Hid (Srch (T'.filter seated) (q + 1) (.int .i64 (q : Int))) := hid_in (.inr ⟨q, x, rfl, by omega, HX.out, hxk, by rw [HTK.out, HOE.out]; exact pick_first hxk⟩)
                          clear hxk
                          go_upto_region 27 with fail
                          go_quiet (fail)
                          go_wp2_with fail
                          go_roundg (m' - (q + 1))
                          case measure => have := HGQ.out; have := HQ.out; omega
                          case rel => exact ⟨q + 1, by have := HQ.out; omega, by go_num, HS2.out, Nd.below_drewN hb7.out _⟩
                      · have HOE := hid_in ho
                        obtain ⟨-, -, u5, -, -⟩ := HCS.out k' s' hs'
                        have hk2 : (k' : Int) < (m' : Int) := by omega
                        have hk3 : ¬ (k' : Int) < 0 := by omega
                        have hk4 : 0 ≤ (k' : Int) := by omega
                        have hk5 : decide ((k' : Int) < 0) = false := by simp
                        have HK' := hid_in hk'
                        have HS' := hid_in hs'
                        have HKP := hid_in hkp
                        clear hsr hx hgq hq hcs ho hs' hkp hk'
                        cases hxk : x.kept with
                        | false =>
                          rw [hxk] at u3
                          have HS2 : Hid (Srch (T'.filter seated) (q + 1) (.int .i64 (k' : Int))) := hid_in (.inr ⟨k', s', rfl, by have := HK'.out; omega, HS'.out, HKP.out, by rw [HTK.out, HOE.out]; exact pick_off hxk⟩)
                          clear hxk
                          go_upto_region 27 with fail
                          go_quiet (fail)
                          go_wp2_with fail
                          go_roundg (m' - (q + 1))
                          case measure => have := HGQ.out; have := HQ.out; omega
                          case rel => exact ⟨q + 1, by have := HQ.out; omega, by go_num, HS2.out, Nd.below_drewN hb7.out _⟩
                        | true =>
                          rw [hxk] at u3
                          by_cases hat2 : x.at_ < s'.at_
                          · have HS2 : Hid (Srch (T'.filter seated) (q + 1) (.int .i64 (q : Int))) := hid_in (.inr ⟨q, x, rfl, by omega, HX.out, hxk, by rw [HTK.out, HOE.out]; exact pick_less hxk hat2⟩)
                            clear hxk
                            generalize x.at_ = xat at *
                            generalize s'.at_ = sat at *
                            go_upto_region 27 with fail
                            go_quiet (fail)
                            go_wp2_with fail
                            go_roundg (m' - (q + 1))
                            case measure => have := HGQ.out; have := HQ.out; omega
                            case rel => exact ⟨q + 1, by have := HQ.out; omega, by go_num, HS2.out, Nd.below_drewN hb7.out _⟩
                          · have HS2 : Hid (Srch (T'.filter seated) (q + 1) (.int .i64 (k' : Int))) := hid_in (.inr ⟨k', s', rfl, by have := HK'.out; omega, HS'.out, HKP.out, by rw [HTK.out, HOE.out]; exact pick_more HKP.out hat2⟩)
                            clear hxk
                            generalize x.at_ = xat at *
                            generalize s'.at_ = sat at *
                            go_upto_region 27 with fail
                            go_quiet (fail)
                            go_wp2_with fail
                            go_roundg (m' - (q + 1))
                            case measure => have := HGQ.out; have := HQ.out; omega
                            case rel => exact ⟨q + 1, by have := HQ.out; omega, by go_num, HS2.out, Nd.below_drewN hb7.out _⟩
                    · obtain rfl : q = m' := by omega
                      obtain ⟨k, i', s, rfl, hkl, hk, hset, hR2, hkn2, hmk2⟩ := HSE.out _ hsr.out
                      have HT8 := HTN.out _ hb7.out
                      obtain ⟨p, cap, b, hrow, rfl, hB, hbr, hbl, hW, hfz, hrd⟩ := HT8.hush hk
                      rw [← hset] at hrd
                      have q2 := hrow.cell 1
                      simp only [List.getElem?_cons_succ, List.getElem?_cons_zero] at q2
                      rw [q1] at q2
                      rw [HM'.out] at q2
                      obtain ⟨rfl, rfl⟩ : p' = some ⟨b, 0, none⟩ ∧ cap' = cap := by simpa using q2
                      obtain ⟨b', eb, -, -, hcs⟩ := HAT'.out (by intro e; rw [e] at hk; simp at hk)
                      obtain rfl : b = b' := by simpa using eb
                      obtain ⟨-, -, -, u3, u4⟩ := hcs _ hb7.out k s hk
                      generalize s.kept = sk at *
                      generalize s.reply = sr at *
                      clear eb hcs
                      have z3 := hfz (k * 5 + 3)
                      have z4 := hfz (k * 5 + 4)
                      have HRD := hid_in hrd
                      have HR2 := hid_in hR2
                      have HKN2 := hid_in hkn2
                      have HMK2 := hid_in hmk2
                      have HK8 := hid_in (HKN.out _ hb7.out)
                      have HB8 := hid_in (HBN.out _ hb7.out)
                      have HOT8 := hid_in (HON.out _ hb7.out)
                      generalize T'.set i' (hush s) = T2 at *
                      have j1 : (k : Int) < (q : Int) := by omega
                      have j2 : ¬ (k : Int) < 0 := by omega
                      have j3 : 0 ≤ (k : Int) := by omega
                      clear hsr hgq hq hk hkl hset hR2 hkn2 hmk2 HT8 hrow hW hfz hrd q2 hm8 hm
                      go_wp2_with fail
                      go_roundg (keptN T2)
                      case measure => have := HKN2.out; omega
                      case rel => exact ⟨T2, rfl, HR2.out, HRD.out.tab, HMK2.out.symm.trans he.out, HK8.out.trans HRD.out.keep, HB8.out.trans HRD.out.bel, HOT8.out.trans HRD.out.oth HB8.out.size⟩
                · have h8 : mkR room T' = T' := mk_done hm _
                  have HT : Hid (T' = mkR room T1) := hid_in (h8.symm.trans he.out)
                  have HEND : Hid (∀ nq, RD w B r room ((mkR room T1).filter seated) (wr.drewN nq)) := hid_in (fun nq => ⟨by rw [← HT.out]; exact ht.out.below (Nd.below_drewN (Below.refl _ _) nq), hk6.out.trans (K61.of_below (Nd.below_drewN (Below.refl _ _) nq)), Nd.below_drewN hbb.out nq, hot.out.trans (Oth.of_below (Nd.below_drewN (Below.refl _ _) nq) ht.out.lt) hbb.out.size⟩)
                  generalize sumR T' = S at *
                  clear h8 hrow' hl1' hl2' hat'
                  go_upto_region 22 with fail
                  go_quiet ((go_at_call 47; exact Calls.quiet_of_same (HBY.out _)))
                  go_wp2_with fail
                  go_ret
                  exact ⟨rfl, HEND.out _⟩
            | false =>
              obtain ⟨hb5, hso, hall⟩ := hins.out.none_
              rw [HXT.out] at hso hall
              have HSO := hid_in hso
              have HPE := hid_in (put_end (n := ⟨c, n, a, true, rp⟩) hall)
              have HRSW := hid_in (HRS.out.below HBI.out HRS.out.lt)
              have a0 : wr.cell? ⟨bs, 0, none⟩ = some (.int .i64 c) := HRSW.out.cell 0
              have a1 : wr.cell? ⟨bs, 1, none⟩ = some (.int .i64 n) := HRSW.out.cell 1
              have a2 : wr.cell? ⟨bs, 2, none⟩ = some (.int .i64 a) := HRSW.out.cell 2
              have a3 : wr.cell? ⟨bs, 3, none⟩ = some (.bool true) := HRSW.out.cell 3
              have a4 : wr.cell? ⟨bs, 4, none⟩ = some (.string rp) := HRSW.out.cell 4
              have HA1 : Hid (Below wr.heap.size wr (wr.alloc (.cells #[.int .i64 c, .int .i64 n, .int .i64 a, .bool true, .string rp] 48))) := hid_in ((Below.refl _ _).alloc (Nat.le_refl _) _)
              have HO1 := hid_in (HSO.out.below HA1.out)
              have HF1 := hid_in (sls_one wr ⟨c, n, a, true, rp⟩)
              simp only at HF1
              have HV1 := hid_in (HBI.out.trans (HA1.out.mono HBI.out.size))
              clear hso hb5 hall hins hgk hkm HXT
              go_upto_region 21 with (first | (at_builtin; refine wpList_app48 w3.heap.size rfl _ _ rfl _ _ [⟨c, n, a, true, rp⟩] rfl HO1.out _ rfl HF1.out (by have := HTL.out; simp only [List.length_cons, List.length_nil]; omega) HV1.out.size ?_; intro v41 w41 ho4 hg4; have HB41 := hid_in (HO1.out.step HV1.out HV1.out.size hg4); have HP41 : Hid (SO w41 w3.heap.size v41 (X ++ [⟨c, n, a, true, rp⟩])) := hid_in ho4; clear ho4 hg4))
              rw [← HPE.out] at HP41
              have HOZ := HP41
              have HBZ := HB41
              have HZS := hid_in (HBW3.out.trans (HBZ.out.mono HBW3.out.size))
              have HRZ := hid_in (HROW.out.below HZS.out HRLT.out)
              obtain ⟨pz, cz, rfl, hz1, hz2, hz3⟩ := HOZ.out.own
              obtain ⟨bz, -, HPZ, HBZ2, -, -⟩ := hz3 (putC_ne _ _)
              replace HPZ := hid_in HPZ
              clear hz3
              have z1 := HRZ.out.frozen 1
              have q9 := HRZ.out.cell 1
              simp only [List.getElem?_cons_succ, List.getElem?_cons_zero] at q9
              have HGZ := hid_in (grownBy_setCell w41 ⟨r, 1, none⟩ (.slice pz (putC ⟨c, n, a, true, rp⟩ X).length cz))
              have HR6 := hid_in (HRZ.out.set_same 1 (.slice pz (putC ⟨c, n, a, true, rp⟩ X).length cz))
              have HO6 := hid_in ((HOZ.out.grown HGZ.out (Nat.lt_of_lt_of_le HRLT.out HBW3.out.size)).mono (Nat.le_trans HBLE.out HBW3.out.size))
              have HT6 : Hid (RT (w41.setCell ⟨r, 1, none⟩ (.slice pz (putC ⟨c, n, a, true, rp⟩ X).length cz)) B r room (T1.filter seated)) := hid_in ⟨⟨_, HR6.out, by rw [HPC.out]; exact HO6.out⟩, HBR.out⟩
              have HK6 : Hid (K61 w (w41.setCell ⟨r, 1, none⟩ (.slice pz (putC ⟨c, n, a, true, rp⟩ X).length cz))) := hid_in ((K61.of_below HZS.out).trans (K61.of_grown HRZ.out (by decide) HGZ.out))
              have HB6 : Hid (Below B w (w41.setCell ⟨r, 1, none⟩ (.slice pz (putC ⟨c, n, a, true, rp⟩ X).length cz))) := hid_in (below_of_grown (HZS.out.mono HBLE.out) HGZ.out (Nat.le_trans HBLE.out HZS.out.size) HBR.out)
              have HOT6 : Hid (Oth w r (w41.setCell ⟨r, 1, none⟩ (.slice pz (putC ⟨c, n, a, true, rp⟩ X).length cz))) := hid_in (fun x hx hxr hxn => by
                have c2 := HR6.out.cell 1
                simp only [List.set_cons_succ, List.set_cons_zero, List.getElem?_cons_succ, List.getElem?_cons_zero] at c2
                refine ⟨(HGZ.out.block x (Nat.lt_of_lt_of_le hx HZS.out.size) (fun e => hxr (Option.some.inj e))).trans (HZS.out.block x hx), ?_⟩
                unfold rowOf
                rw [c2, HPZ.out]
                intro e
                have := Option.some.inj e
                have := HBW3.out.size
                simp only at *
                omega)
              generalize (putC ⟨c, n, a, true, rp⟩ X).length = lz at *
              clear HPZ HBZ2 hz1 hz2 HRZ HGZ HR6 HO6 HOZ HZS HBZ
              go_wp2_with fail
              go_loopg [17, 18] (keptN T1) (fun gn v17 v18 W => ∃ T', gn = keptN T' ∧ Hid (Right T') ∧ Hid (RT W B r room (T'.filter seated)) ∧ Hid (mkR room T' = mkR room T1) ∧ Hid (K61 w W) ∧ Hid (Below B w W) ∧ Hid (Oth w r W))
              case atStart => exact ⟨T1, rfl, HR1.out, HT6.out, rfl, HK6.out, HB6.out, HOT6.out⟩
              case round =>
                clear HT6 HK6 HB6 HOT6
                obtain ⟨T', rfl, hr', ht, he, hk6, hbb, hot⟩ := hrel
                have HBY : Hid (∀ nq, Calls Try.prog 47 #[.pointer (some ⟨r, 0, none⟩)] (wr.drewN nq) fun e w' => e = .returned (.int .i64 (sumR T' : Int)) ∧ w' = wr.drewN nq) := hid_in (fun nq => by
                  have hh := rbytes_any (ht.out.below (Nd.below_drewN (Below.refl _ _) nq)) (fun s hs => hr'.out.short s (List.mem_filter.1 hs).1) (filter_le8 hr'.out)
                  rw [(sums_seated T' 0 hr'.out.from).1] at hh
                  exact hh)
                obtain ⟨p', cap', hrow', hl1', hl2', hat'⟩ := ht.out.at_
                have q0 : wr.cell? ⟨r, 0, none⟩ = some (.int .i64 room) := hrow'.cell 0
                by_cases hm : room < (sumR T' : Int)
                · have HM := hid_in hm
                  have HSE := hid_in (fun v hv => srch_end hr'.out H0.out hm (v := v) hv)
                  have HKN := hid_in (fun W (x : Below wr.heap.size wr W) => (hk6.out.trans (K61.of_below x)))
                  have HBN := hid_in (fun W (x : Below wr.heap.size wr W) => (hbb.out.trans (x.mono (Nat.le_trans HBLE0.out (by have := hbb.out.size; omega)))))
                  have HTN := hid_in (fun W (x : Below wr.heap.size wr W) => ht.out.below x)
                  have HON := hid_in (fun W (x : Below wr.heap.size wr W) => (hot.out.trans (Oth.of_below x ht.out.lt) hbb.out.size))
                  generalize sumR T' = S at *
                  clear hrow' hl1' hl2' hat'
                  go_upto_region 22 with fail
                  go_quiet ((go_at_call 47; exact Calls.quiet_of_same (HBY.out _)))
                  have HW6 := hid_in (Nd.below_drewN (Below.refl wr.heap.size wr) nq)
                  have HT7 := hid_in (HTN.out _ HW6.out)
                  have HK7 := hid_in (HKN.out _ HW6.out)
                  have HB7 := hid_in (HBN.out _ HW6.out)
                  have HOT7 := hid_in (HON.out _ HW6.out)
                  clear HW6 HTN HKN HBN HON HBY q0 hk6 hbb ht hot
                  generalize wr.drewN nq = w6 at *
                  obtain ⟨p', cap', hrow', hl1', hl2', hat'⟩ := HT7.out.at_
                  have HAT' := hid_in hat'
                  have HCR := hid_in (fun W (x : Below w6.heap.size w6 W) => (hrow'.below x hrow'.lt).cell 1)
                  have HTN := hid_in (fun W (x : Below w6.heap.size w6 W) => HT7.out.below x)
                  have HKN := hid_in (fun W (x : Below w6.heap.size w6 W) => (HK7.out.trans (K61.of_below x)))
                  have HBN := hid_in (fun W (x : Below w6.heap.size w6 W) => (HB7.out.trans (x.mono (Nat.le_trans HBLE0.out HB7.out.size))))
                  have HON := hid_in (fun W (x : Below w6.heap.size w6 W) => (HOT7.out.trans (Oth.of_below x HT7.out.lt) HB7.out.size))
                  have hm8 := filter_le8 hr'.out
                  obtain ⟨m', HM'⟩ : ∃ m', Hid ((T'.filter seated).length = m') := ⟨_, hid_in rfl⟩
                  rw [HM'.out] at HCR HSE hm8
                  clear hat' hrow' hl1' hl2' HT7 HK7 HB7 HOT7
                  go_wp2_with fail
                  go_loopg [17, 18] m' (fun gq v17 v18 W => ∃ q : Nat, gq + q = m' ∧ v18 = .int .i64 (q : Int) ∧ Hid (Srch (T'.filter seated) q v17) ∧ Hid (Below w6.heap.size w6 W))
                  case atStart => exact ⟨0, by omega, rfl, .inl ⟨rfl, rfl⟩, Below.refl _ _⟩
                  case round =>
                    obtain ⟨q, hgq, rfl, hsr, hb7⟩ := hrel
                    have q1 := HCR.out _ hb7.out
                    simp only [List.getElem?_cons_succ, List.getElem?_cons_zero] at q1
                    by_cases hq : q < m'
                    · obtain ⟨x, hx⟩ : ∃ x, (T'.filter seated)[q]? = some x := ⟨_, List.getElem?_eq_getElem (by rw [HM'.out]; exact hq)⟩
                      obtain ⟨b, rfl, -, -, hcs⟩ := HAT'.out (by intro e; rw [e] at hx; simp at hx)
                      have HCS := hid_in (hcs _ hb7.out)
                      obtain ⟨-, -, u2, u3, -⟩ := HCS.out q x hx
                      have HGQ := hid_in hgq
                      have HTK := hid_in (oldS_take hx)
                      have HX := hid_in hx
                      have hq2 : (q : Int) < (m' : Int) := by omega
                      have hq3 : ¬ (q : Int) < 0 := by omega
                      have hq4 : 0 ≤ (q : Int) := by omega
                      have HQ := hid_in hq
                      have HXE : Hid (x = x) := hid_in rfl
                      unfold Srch at hsr
                      rcases hsr.out with ⟨rfl, ho⟩ | ⟨k', s', rfl, hk', hs', hkp, ho⟩
                      · have HOE := hid_in ho
                        clear hsr hx hgq hq hcs ho
                        cases hxk : x.kept with
                        | false =>
                          rw [hxk] at u3
                          have HS2 : Hid (Srch (T'.filter seated) (q + 1) (.int .i64 (-1))) := hid_in (.inl ⟨rfl, by rw [HTK.out, HOE.out]; exact pick_off hxk⟩)
                          clear hxk
                          go_upto_region 27 with fail
                          go_quiet (fail)
                          go_wp2_with fail
                          go_roundg (m' - (q + 1))
                          case measure => have := HGQ.out; have := HQ.out; omega
                          case rel => exact ⟨q + 1, by have := HQ.out; omega, by go_num, HS2.out, Nd.below_drewN hb7.out _⟩
                        | true =>
                          rw [hxk] at u3
                          have HS2 : Hid (Srch (T'.filter seated) (q + 1) (.int .i64 (q : Int))) := hid_in (.inr ⟨q, x, rfl, by omega, HX.out, hxk, by rw [HTK.out, HOE.out]; exact pick_first hxk⟩)
                          clear hxk
                          go_upto_region 27 with fail
                          go_quiet (fail)
                          go_wp2_with fail
                          go_roundg (m' - (q + 1))
                          case measure => have := HGQ.out; have := HQ.out; omega
                          case rel => exact ⟨q + 1, by have := HQ.out; omega, by go_num, HS2.out, Nd.below_drewN hb7.out _⟩
                      · have HOE := hid_in ho
                        obtain ⟨-, -, u5, -, -⟩ := HCS.out k' s' hs'
                        have hk2 : (k' : Int) < (m' : Int) := by omega
                        have hk3 : ¬ (k' : Int) < 0 := by omega
                        have hk4 : 0 ≤ (k' : Int) := by omega
                        have hk5 : decide ((k' : Int) < 0) = false := by simp
                        have HK' := hid_in hk'
                        have HS' := hid_in hs'
                        have HKP := hid_in hkp
                        clear hsr hx hgq hq hcs ho hs' hkp hk'
                        cases hxk : x.kept with
                        | false =>
                          rw [hxk] at u3
                          have HS2 : Hid (Srch (T'.filter seated) (q + 1) (.int .i64 (k' : Int))) := hid_in (.inr ⟨k', s', rfl, by have := HK'.out; omega, HS'.out, HKP.out, by rw [HTK.out, HOE.out]; exact pick_off hxk⟩)
                          clear hxk
                          go_upto_region 27 with fail
                          go_quiet (fail)
                          go_wp2_with fail
                          go_roundg (m' - (q + 1))
                          case measure => have := HGQ.out; have := HQ.out; omega
                          case rel => exact ⟨q + 1, by have := HQ.out; omega, by go_num, HS2.out, Nd.below_drewN hb7.out _⟩
                        | true =>
                          rw [hxk] at u3
                          by_cases hat2 : x.at_ < s'.at_
                          · have HS2 : Hid (Srch (T'.filter seated) (q + 1) (.int .i64 (q : Int))) := hid_in (.inr ⟨q, x, rfl, by omega, HX.out, hxk, by rw [HTK.out, HOE.out]; exact pick_less hxk hat2⟩)
                            clear hxk
                            generalize x.at_ = xat at *
                            generalize s'.at_ = sat at *
                            go_upto_region 27 with fail
                            go_quiet (fail)
                            go_wp2_with fail
                            go_roundg (m' - (q + 1))
                            case measure => have := HGQ.out; have := HQ.out; omega
                            case rel => exact ⟨q + 1, by have := HQ.out; omega, by go_num, HS2.out, Nd.below_drewN hb7.out _⟩
                          · have HS2 : Hid (Srch (T'.filter seated) (q + 1) (.int .i64 (k' : Int))) := hid_in (.inr ⟨k', s', rfl, by have := HK'.out; omega, HS'.out, HKP.out, by rw [HTK.out, HOE.out]; exact pick_more HKP.out hat2⟩)
                            clear hxk
                            generalize x.at_ = xat at *
                            generalize s'.at_ = sat at *
                            go_upto_region 27 with fail
                            go_quiet (fail)
                            go_wp2_with fail
                            go_roundg (m' - (q + 1))
                            case measure => have := HGQ.out; have := HQ.out; omega
                            case rel => exact ⟨q + 1, by have := HQ.out; omega, by go_num, HS2.out, Nd.below_drewN hb7.out _⟩
                    · obtain rfl : q = m' := by omega
                      obtain ⟨k, i', s, rfl, hkl, hk, hset, hR2, hkn2, hmk2⟩ := HSE.out _ hsr.out
                      have HT8 := HTN.out _ hb7.out
                      obtain ⟨p, cap, b, hrow, rfl, hB, hbr, hbl, hW, hfz, hrd⟩ := HT8.hush hk
                      rw [← hset] at hrd
                      have q2 := hrow.cell 1
                      simp only [List.getElem?_cons_succ, List.getElem?_cons_zero] at q2
                      rw [q1] at q2
                      rw [HM'.out] at q2
                      obtain ⟨rfl, rfl⟩ : p' = some ⟨b, 0, none⟩ ∧ cap' = cap := by simpa using q2
                      obtain ⟨b', eb, -, -, hcs⟩ := HAT'.out (by intro e; rw [e] at hk; simp at hk)
                      obtain rfl : b = b' := by simpa using eb
                      obtain ⟨-, -, -, u3, u4⟩ := hcs _ hb7.out k s hk
                      generalize s.kept = sk at *
                      generalize s.reply = sr at *
                      clear eb hcs
                      have z3 := hfz (k * 5 + 3)
                      have z4 := hfz (k * 5 + 4)
                      have HRD := hid_in hrd
                      have HR2 := hid_in hR2
                      have HKN2 := hid_in hkn2
                      have HMK2 := hid_in hmk2
                      have HK8 := hid_in (HKN.out _ hb7.out)
                      have HB8 := hid_in (HBN.out _ hb7.out)
                      have HOT8 := hid_in (HON.out _ hb7.out)
                      generalize T'.set i' (hush s) = T2 at *
                      have j1 : (k : Int) < (q : Int) := by omega
                      have j2 : ¬ (k : Int) < 0 := by omega
                      have j3 : 0 ≤ (k : Int) := by omega
                      clear hsr hgq hq hk hkl hset hR2 hkn2 hmk2 HT8 hrow hW hfz hrd q2 hm8 hm
                      go_wp2_with fail
                      go_roundg (keptN T2)
                      case measure => have := HKN2.out; omega
                      case rel => exact ⟨T2, rfl, HR2.out, HRD.out.tab, HMK2.out.symm.trans he.out, HK8.out.trans HRD.out.keep, HB8.out.trans HRD.out.bel, HOT8.out.trans HRD.out.oth HB8.out.size⟩
                · have h8 : mkR room T' = T' := mk_done hm _
                  have HT : Hid (T' = mkR room T1) := hid_in (h8.symm.trans he.out)
                  have HEND : Hid (∀ nq, RD w B r room ((mkR room T1).filter seated) (wr.drewN nq)) := hid_in (fun nq => ⟨by rw [← HT.out]; exact ht.out.below (Nd.below_drewN (Below.refl _ _) nq), hk6.out.trans (K61.of_below (Nd.below_drewN (Below.refl _ _) nq)), Nd.below_drewN hbb.out nq, hot.out.trans (Oth.of_below (Nd.below_drewN (Below.refl _ _) nq) ht.out.lt) hbb.out.size⟩)
                  generalize sumR T' = S at *
                  clear h8 hrow' hl1' hl2' hat'
                  go_upto_region 22 with fail
                  go_quiet ((go_at_call 47; exact Calls.quiet_of_same (HBY.out _)))
                  go_wp2_with fail
                  go_ret
                  exact ⟨rfl, HEND.out _⟩
    · rw [if_neg k1, if_neg (by decide)]
      have k1b : (st != 1) = true := by simpa using k1
      clear h hr h0 k0 k1 hrow hl1 hl2 hat
      go_enter Try.func25, Try.ntmps25
      go_wp2_with (first | (go_at_call 15; refine HLK.out.mono ?_; rintro e w2 ⟨rfl, hb2⟩; have HB2 := hid_in hb2; clear hb2))
      go_ret
      exact ⟨rfl, HSM.out _ HB2.out⟩
end Go.Proofs.Ytiijlnlkhpneaaa.Se
