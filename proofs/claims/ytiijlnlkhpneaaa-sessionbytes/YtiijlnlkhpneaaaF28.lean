/-
  The walk of the reference's Decode.
-/
import Derived.Deep.CutRange
import Derived.OwnWalk
import Derived.Laws.CopyOwn
import Derived.Laws.Tables
import Derived.Deep.RegionLaw
import Derived.Deep.DrawnRows
import Derived.Test.YtiijlnlkhpneaaaF00
import Derived.Test.YtiijlnlkhpneaaaF01
import Derived.Test.YtiijlnlkhpneaaaF02
import Derived.Test.YtiijlnlkhpneaaaF03
import Derived.Test.YtiijlnlkhpneaaaF04
import Derived.Test.YtiijlnlkhpneaaaF05
import Derived.Test.YtiijlnlkhpneaaaF06
import Derived.Test.YtiijlnlkhpneaaaF07
import Derived.Test.YtiijlnlkhpneaaaF08
import Derived.Test.YtiijlnlkhpneaaaF09
import Derived.Test.YtiijlnlkhpneaaaF10
import Derived.Test.YtiijlnlkhpneaaaF11
import Derived.Test.YtiijlnlkhpneaaaF12
import Derived.Test.YtiijlnlkhpneaaaF13
import Derived.Test.YtiijlnlkhpneaaaF14
import Derived.Test.YtiijlnlkhpneaaaF15
import Derived.Test.YtiijlnlkhpneaaaF16
import Derived.Test.YtiijlnlkhpneaaaF17
import Derived.Test.YtiijlnlkhpneaaaF18
import Derived.Test.YtiijlnlkhpneaaaF19
import Derived.Test.YtiijlnlkhpneaaaF20
import Derived.Test.YtiijlnlkhpneaaaF21
import Derived.Test.YtiijlnlkhpneaaaF22
import Derived.Test.YtiijlnlkhpneaaaF23
import Derived.Test.YtiijlnlkhpneaaaF24
import Derived.Test.YtiijlnlkhpneaaaF26
import Derived.Test.YtiijlnlkhpneaaaF27
namespace Go.Proofs.Ytiijlnlkhpneaaa.Se
open Go.RowKit
open Nd (Row wp_world post_Row grownBy_setCell below_of_grown grownBy_trans grown_of_below grownBy_refl bytesS u8v i64r Sl Sta sNum sInt sFlag sText str RI Grew sNum_lt)
structure DS (w : World) (ig B' r rm n : Nat) (R : Option (List Seat × Sta)) (i last : Nat) (acc : List Seat) (t : Sta) (W : World) : Prop where
  rt : RT W B' r (rm : Int) acc
  inn : RI w.heap.size W ig t
  bel : Below w.heap.size w W
  len : acc.length = i
  short : ShortT acc
  rest : rdL (n - i) last acc t = R
def RDecP (w : World) (bs : List Nat) (e : Ending) (w' : World) : Prop := ((rdT (bs, 0) = none ∧ e = .returned (.tuple #[.pointer none, .bool false])) ∨ (∃ (rm : Nat) (X : List Seat) (B' r : Nat), rdT (bs, 0) = some (rm, X) ∧ e = .returned (.tuple #[.pointer (some ⟨r, 0, none⟩), .bool true]) ∧ RT w' B' r (rm : Int) X)) ∧ Below w.heap.size w w'
theorem ri_err {B : Nat} {w : World} {g : Nat} {s : Sta} (h : RI B w g s) : w.cell? ⟨g, 2, none⟩ = some (.int .i64 (s.2 : Int)) := by
  obtain ⟨bs, k, h, _⟩ := h
  obtain ⟨p, cap, b, off, hr, _⟩ := h.ex
  exact hr.cell 2
theorem so_form {w : World} {B : Nat} {v : Value} {X : List Seat} (h : SO w B v X) : ∃ p l c, v = .slice p l c := by
  obtain ⟨p, c, e, _⟩ := SO.own h
  exact ⟨p, _, c, e⟩
theorem row_so {W W' : World} {b B : Nat} {vs : List Value} {t : TypeId} {v : Value} {X : List Seat} (h : Row W b vs t) (ht : t ≠ 48) (ho : SO W B v X) (hg : W.grownBy W' v.ownBlock) : Row W' b vs t := by
  refine h.grown hg (fun e => ?_)
  obtain ⟨_, ⟨rfl, _⟩ | ⟨g', cap, cur, rfl, _, hh, _⟩⟩ := ho
  · cases e
  · have e2 : b = g' := by simpa [Value.ownBlock] using e
    subst e2
    unfold Row at h
    rw [hh] at h
    cases h
    exact ht rfl
theorem SO.keep {W W' : World} {b B : Nat} {vs : List Value} {t : TypeId} {v : Value} {X : List Seat} (ho : SO W B v X) (h : Row W b vs t) (ht : t ≠ 48) (hg : W.grownBy W' (some b)) : SO W' B v X := by
  obtain ⟨h0, ⟨rfl, h3⟩ | ⟨b', cap, cur, rfl, hB, hh, hn, hm, hs, h4⟩⟩ := ho
  · exact ⟨h0, .inl ⟨rfl, h3⟩⟩
  · refine ⟨h0, .inr ⟨b', cap, cur, rfl, hB, ?_, hn, hm, hs, h4⟩⟩
    rw [hg.block b' (Array.getElem?_eq_some_iff.1 hh).1 (fun e => ?_)]
    · exact hh
    · obtain rfl := Option.some.inj e
      unfold Row at h
      rw [hh] at h
      cases h
      exact ht rfl
set_option maxHeartbeats 8000000 in
set_option maxRecDepth 100000 in
theorem rdecode_any {w : World} {p : Option Addr} {bs : List Nat} {cap b off : Nat} (hs : Sl w p bs cap b off) :
    Calls Try.prog 21 #[.slice p bs.length cap] w fun e w' => RDecP w bs e w' := by
  obtain ⟨w1, HW1⟩ : ∃ w1, Hid (w.alloc (.cells #[.slice p bs.length cap, .int .i64 0, .int .i64 0] 83) = w1) := ⟨_, hid_in rfl⟩
  have HB1 : Hid (Below w.heap.size w w1) := hid_in (by rw [← HW1.out]; exact (Below.refl _ _).alloc (Nat.le_refl _) _)
  have HI1 : Hid (RI w.heap.size w1 w.heap.size (bs, 0)) := hid_in ⟨bs, 0, ⟨⟨p, cap, b, off, by rw [← HW1.out]; exact Row.new w [.slice p bs.length cap, .int .i64 0, .int .i64 0] 83, hs.below HB1.out, fun h => ⟨by have := hs.blk h; omega, hs.blk h⟩⟩, by omega⟩, rfl⟩
  have HU : Hid (rdT (bs, 0) = if (sNum (sNum (bs, 0)).2).2.2 ≠ 0 ∨ 8192 < (sNum (bs, 0)).1 ∨ 8 < (sNum (sNum (bs, 0)).2).1 then none else rdE (sNum (bs, 0)).1 (rdL (sNum (sNum (bs, 0)).2).1 0 [] (sNum (sNum (bs, 0)).2).2)) := hid_in rfl
  have HTX := hid_in (fun W s (k : RI w.heap.size W w.heap.size s) => Nd.rtext_s W w.heap.size w.heap.size s 8192 (by omega) k)
  simp only [show ((8192 : Nat) : Int) = 8192 from rfl] at HTX
  have HXL := hid_in (Nd.sText_len 8192)
  generalize bs.length = bl at *
  clear hs
  go_enter Try.func21, Try.ntmps21
  go_upto_region 2 with fail
  refine wp_world HW1.out ?_
  clear HW1
  go_upto_region 4 with (first | (go_at_call 42; refine (Nd.rnum_s _ _ _ _ HI2.out).mono ?_; rintro e w3 ⟨rfl, hi3, hg3⟩; have HI3 := hid_in hi3; have HB3 := hid_in (below_of_grown HB2.out (grew_by hg3) HB2.out.size (Nat.le_refl _)); clear hi3 hg3) | (go_at_call 42; refine (Nd.rnum_s _ _ _ _ HI1.out).mono ?_; rintro e w2 ⟨rfl, hi2, hg2⟩; have HI2 := hid_in hi2; have HB2 := hid_in (below_of_grown HB1.out (grew_by hg2) HB1.out.size (Nat.le_refl _)); clear hi2 hg2))
  have e3 := ri_err HI3.out
  clear HI1 HI2 HB1 HB2
  generalize (sNum (bs, 0)).1 = rm at *
  generalize (sNum (sNum (bs, 0)).2).1 = n at *
  generalize (sNum (sNum (bs, 0)).2).2 = t3 at *
  by_cases h1 : t3.2 = 0
  · by_cases h2 : rm ≤ 8192
    · by_cases h3 : n ≤ 8
      · rw [if_neg (by omega)] at HU
        have k1 : ¬ 8192 < (rm : Int) := by omega
        have k2 : ¬ 8 < (n : Int) := by omega
        have k3 : (n : Int) ≤ 8 := by omega
        have k4 : (rm : Int) ≤ 8192 := by omega
        rw [h1] at e3
        have HN8 := hid_in h3
        have HR9 := hid_in h2
        clear h1 h2 h3
        go_upto_region 7 with fail
        obtain ⟨w4, HW4⟩ : ∃ w4, Hid (w3.alloc (.cells #[.int .i64 (rm : Int), .slice none 0 0] 32) = w4) := ⟨_, hid_in rfl⟩
        have HB4' : Hid (Below w3.heap.size w3 w4) := hid_in (by rw [← HW4.out]; exact (Below.refl _ _).alloc (Nat.le_refl _) _)
        have HR4 : Hid (RT w4 w3.heap.size w3.heap.size (rm : Int) []) := hid_in ⟨⟨_, by rw [← HW4.out]; exact Row.new w3 [.int .i64 (rm : Int), .slice none 0 0] 32, SO.nil _ _⟩, Nat.le_refl _⟩
        have HI4 := hid_in (HI3.out.belowM HB4'.out HI3.out.blk (Nat.le_of_lt HI3.out.blk))
        have HB4 := hid_in (HB3.out.trans (HB4'.out.mono HB3.out.size))
        have HIB : Hid (w.heap.size < w3.heap.size) := hid_in HI3.out.blk
        refine wp_world HW4.out ?_
        clear HW4 HB4' HI3 HB3 e3
        generalize w3.heap.size = r at *
        obtain ⟨B', HBB⟩ : ∃ B, Hid (r = B) := ⟨_, hid_in rfl⟩
        have HR5 : Hid (RT w4 B' r (rm : Int) []) := hid_in (by rw [← HBB.out]; exact HR4.out)
        have HIB' : Hid (w.heap.size < B') := hid_in (by rw [← HBB.out]; exact HIB.out)
        clear HR4 HIB HBB
        have HIB := HIB'
        clear HIB'
        obtain ⟨R, HR⟩ : ∃ R, Hid (rdL n 0 [] t3 = R) := ⟨_, hid_in rfl⟩
        rw [HR.out] at HU
        go_wp2_with fail
        go_loopg [8, 9] n (fun gk vl vi W => ∃ (i last : Nat) (acc : List Seat) (t : Sta), gk + i = n ∧ vl = .int .u64 (last : Int) ∧ vi = .int .i64 (i : Int) ∧ Hid (DS w w.heap.size B' r rm n R i last acc t W))
        case atStart => exact ⟨0, 0, [], t3, by omega, rfl, rfl, HR5.out, HI4.out, HB4.out, rfl, fun s hs => (by cases hs), HR.out⟩
        case round =>
          clear HR5 HI4 HB4 HR
          obtain ⟨i, last, acc, t, hgk, rfl, rfl, hd⟩ := hrel
          by_cases hlt : i < n
          · have hl2 : (i : Int) < (n : Int) := by omega
            have hst : rdL (n - i) last acc t = if badS last t then none else rdL (n - (i + 1)) (sNum t).1 (acc ++ [(rSeat t).1]) (rSeat t).2 := by
              rw [show n - i = (n - (i + 1)) + 1 by omega]
              rfl
            rw [hd.out.rest] at hst
            unfold badS rSeat at hst
            have HI2 := hid_in hd.out.inn
            have HR2 := hid_in hd.out.rt
            have HB2 := hid_in hd.out.bel
            have HLE : Hid (acc.length ≤ 8) := hid_in (by have := hd.out.len; have := HN8.out; omega)
            have HLEN := hid_in hd.out.len
            have HSH := hid_in hd.out.short
            have HYL := hid_in (HXL.out (sFlag (sInt (sNum (sNum t).2).2).2).2)
            have HST := hid_in hst
            have HGK := hid_in hgk
            have HLT := hid_in hlt
            clear hst hd hgk hlt
            go_upto_region 16 with (first | (go_at_call 45; refine (HTX.out _ _ HI6.out).mono ?_; rintro e w7 ⟨rfl, hi7, hg7⟩; have HI7 := hid_in hi7; have HR7 := hid_in (HR6.out.grown (grew_by hg7) HIB.out); have HB7 := hid_in (below_of_grown HB6.out (grew_by hg7) HB6.out.size (Nat.le_refl _)); clear hi7 hg7) | (go_at_call 44; refine (Nd.rflag_s _ _ _ _ HI5.out).mono ?_; rintro e w6 ⟨rfl, hi6, hg6⟩; have HI6 := hid_in hi6; have HR6 := hid_in (HR5.out.grown (grew_by hg6) HIB.out); have HB6 := hid_in (below_of_grown HB5.out (grew_by hg6) HB5.out.size (Nat.le_refl _)); clear hi6 hg6) | (go_at_call 43; refine (Nd.rint_s _ _ _ _ HI4.out).mono ?_; rintro e w5 ⟨rfl, hi5, hg5⟩; have HI5 := hid_in hi5; have HR5 := hid_in (HR4.out.grown (grew_by hg5) HIB.out); have HB5 := hid_in (below_of_grown HB4.out (grew_by hg5) HB4.out.size (Nat.le_refl _)); clear hi5 hg5) | (go_at_call 42; refine (Nd.rnum_s _ _ _ _ HI3.out).mono ?_; rintro e w4 ⟨rfl, hi4, hg4⟩; have HI4 := hid_in hi4; have HR4 := hid_in (HR3.out.grown (grew_by hg4) HIB.out); have HB4 := hid_in (below_of_grown HB3.out (grew_by hg4) HB3.out.size (Nat.le_refl _)); clear hi4 hg4) | (go_at_call 42; refine (Nd.rnum_s _ _ _ _ HI2.out).mono ?_; rintro e w3 ⟨rfl, hi3, hg3⟩; have HI3 := hid_in hi3; have HR3 := hid_in (HR2.out.grown (grew_by hg3) HIB.out); have HB3 := hid_in (below_of_grown HB2.out (grew_by hg3) HB2.out.size (Nat.le_refl _)); clear hi3 hg3))
            have e7 := ri_err HI7.out
            have HXS : Hid ((str (sText 8192 (sFlag (sInt (sNum (sNum t).2).2).2).2).1).size ≤ 8192) := hid_in (by rw [Nd.str_size]; exact HYL.out)
            clear HYL
            generalize (sText 8192 (sFlag (sInt (sNum (sNum t).2).2).2).2).2 = t5 at *
            generalize str (sText 8192 (sFlag (sInt (sNum (sNum t).2).2).2).2).1 = xs at *
            generalize (sFlag (sInt (sNum (sNum t).2).2).2).1 = xf at *
            generalize (sInt (sNum (sNum t).2).2).1 = xa at *
            generalize (sNum (sNum t).2).1 = nn at *
            generalize (sNum t).1 = cn at *
            by_cases h1 : t5.2 = 0
            · rw [h1] at e7
              by_cases h2 : cn ≤ last
              · have g2 : (cn : Int) ≤ (last : Int) := by omega
                have HRN : Hid (R = none) := hid_in (HST.out.trans (if_pos (by simp [h2])))
                go_wp2_with fail
                go_ret2
                exact ⟨.inl ⟨by rw [HU.out, HRN.out]; rfl, rfl⟩, HB7.out⟩
              · have g2 : ¬ (cn : Int) ≤ (last : Int) := by omega
                by_cases h3 : 8 < cn
                · have g3 : 8 < (cn : Int) := by omega
                  have HRN : Hid (R = none) := hid_in (HST.out.trans (if_pos (by simp [h3])))
                  go_wp2_with fail
                  go_ret2
                  exact ⟨.inl ⟨by rw [HU.out, HRN.out]; rfl, rfl⟩, HB7.out⟩
                · have g3 : ¬ 8 < (cn : Int) := by omega
                  have g3b : (cn : Int) ≤ 8 := by omega
                  by_cases h4 : nn < 1
                  · have g4 : (nn : Int) < 1 := by omega
                    have HRN : Hid (R = none) := hid_in (HST.out.trans (if_pos (by simp [h4])))
                    go_wp2_with fail
                    go_ret2
                    exact ⟨.inl ⟨by rw [HU.out, HRN.out]; rfl, rfl⟩, HB7.out⟩
                  · have g4 : ¬ (nn : Int) < 1 := by omega
                    by_cases h5 : 1099511627776 < nn
                    · have g5 : 1099511627776 < (nn : Int) := by omega
                      have HRN : Hid (R = none) := hid_in (HST.out.trans (if_pos (by simp [h5])))
                      go_wp2_with fail
                      go_ret2
                      exact ⟨.inl ⟨by rw [HU.out, HRN.out]; rfl, rfl⟩, HB7.out⟩
                    · have g5 : ¬ 1099511627776 < (nn : Int) := by omega
                      have g5b : (nn : Int) ≤ 1099511627776 := by omega
                      cases xf with
                      | true =>
                        have HGO : Hid (R = rdL (n - (i + 1)) cn (acc ++ [⟨(cn : Int), (nn : Int), xa, true, xs⟩]) t5) := hid_in (HST.out.trans (if_neg (by first | (simp [h1, h2, h3, h4, h5]; done) | (simp [h1, h2, h3, h4, h5]; rfl) | (simp [h1, h2, h3, h4, h5]; decide))))
                        obtain ⟨v7, hrow7, hso7⟩ := HR7.out.ex
                        obtain ⟨p7, c7, rfl, -⟩ := hso7.own
                        have HA1 : Hid (Below w7.heap.size w7 (w7.alloc (.cells #[.int .i64 (cn : Int), .int .i64 (nn : Int), .int .i64 xa, .bool true, .string xs] 48))) := hid_in ((Below.refl _ _).alloc (Nat.le_refl _) _)
                        have HO1 : Hid (SO (w7.alloc (.cells #[.int .i64 (cn : Int), .int .i64 (nn : Int), .int .i64 xa, .bool true, .string xs] 48)) B' (.slice p7 acc.length c7) acc) := hid_in (hso7.below HA1.out)
                        have HF1 := hid_in (sls_one w7 ⟨(cn : Int), (nn : Int), xa, true, xs⟩)
                        simp only at HF1
                        have HBA : Hid (B' ≤ w7.heap.size) := hid_in (by have := hrow7.lt; have := HR7.out.ge; omega)
                        have HV2 : Hid (Below B' w7 (w7.alloc (.cells #[.int .i64 (cn : Int), .int .i64 (nn : Int), .int .i64 xa, .bool true, .string xs] 48))) := hid_in (HA1.out.mono HBA.out)
                        have HBA2 := hid_in (Nat.le_trans HBA.out HA1.out.size)
                        have HROW7 := hid_in hrow7
                        have HROWA := hid_in (hrow7.below HA1.out hrow7.lt)
                        have HBR := hid_in HR7.out.ge
                        obtain ⟨al, HAL⟩ : ∃ al, Hid (acc.length = al) := ⟨_, hid_in rfl⟩
                        rw [HAL.out] at HO1 HROW7 HROWA
                        have q7 := HROW7.out.cell 1
                        simp only [List.getElem?_cons_succ, List.getElem?_cons_zero] at q7
                        have HOX : Hid (SO (w7.alloc (.cells #[.int .i64 (cn : Int), .int .i64 (nn : Int), .int .i64 xa, .bool true, .string xs] 48)) B' (.slice p7 al c7) acc) := HO1
                        clear hrow7 hso7
                        go_wp2_with (first | (at_builtin; refine wpList_app48 B' rfl (.tmp 90) (.tmp 99) rfl (.slice p7 al c7) acc [⟨(cn : Int), (nn : Int), xa, true, xs⟩] rfl HOX.out (.slice (some ⟨w7.heap.size, 0, none⟩) 1 1) rfl HF1.out (by have := HLE.out; simp only [List.length_cons, List.length_nil]; omega) HBA2.out ?_; intro v8 w8 ho8 hg8; obtain ⟨p8, l8, c8, rfl⟩ := so_form ho8; have HROW8 := hid_in (row_so HROWA.out (by decide) HOX.out hg8); have q8 := HROW8.out.cell 1; have z8 := HROW8.out.frozen 1; simp only [List.getElem?_cons_succ, List.getElem?_cons_zero] at q8; have HB8 := hid_in (HOX.out.step HV2.out HBA2.out hg8); have HO8 := hid_in ho8; clear ho8 hg8; simp only [Act.put, List.setIfInBounds_toArray, List.set_cons_zero, List.set_cons_succ]))
                        have HBX : Hid (Below B' w7 (w8.setCell ⟨r, 1, none⟩ (.slice p8 l8 c8))) := hid_in (below_of_grown HB8.out (grownBy_setCell w8 ⟨r, 1, none⟩ _) (by have := HROW8.out.lt; have := HBR.out; omega) HBR.out)
                        have HRT8 : Hid (RT (w8.setCell ⟨r, 1, none⟩ (.slice p8 l8 c8)) B' r (rm : Int) (acc ++ [⟨(cn : Int), (nn : Int), xa, true, xs⟩])) := hid_in ⟨⟨_, HROW8.out.set_same 1 _, SO.keep HO8.out HROW8.out (by decide) (grownBy_setCell _ _ _)⟩, HBR.out⟩
                        go_roundg (n - (i + 1))
                        case measure => have := HGK.out; have := HLT.out; omega
                        case rel => exact ⟨i + 1, cn, acc ++ [⟨(cn : Int), (nn : Int), xa, true, xs⟩], t5, by have := HLT.out; omega, rfl, by go_num, ⟨HRT8.out, HI7.out.belowM HBX.out HIB.out (Nat.le_of_lt HIB.out), HB7.out.trans (HBX.out.mono (Nat.le_of_lt HIB.out)), by simp [HLEN.out], fun s hs => (by rcases List.mem_append.1 hs with h5 | h5; (exact HSH.out s h5); (simp only [List.mem_singleton] at h5; rw [h5]; exact HXS.out)), HGO.out.symm⟩⟩
                      | false =>
                        by_cases h6 : xs.size = 0
                        · obtain rfl : xs = ⟨#[]⟩ := by
                            obtain ⟨⟨l⟩⟩ := xs
                            cases l with
                            | nil => rfl
                            | cons a r => cases h6
                          have HGO : Hid (R = rdL (n - (i + 1)) cn (acc ++ [⟨(cn : Int), (nn : Int), xa, false, ⟨#[]⟩⟩]) t5) := hid_in (HST.out.trans (if_neg (by first | (simp [h1, h2, h3, h4, h5]; done) | (simp [h1, h2, h3, h4, h5]; rfl) | (simp [h1, h2, h3, h4, h5]; decide))))
                          obtain ⟨v7, hrow7, hso7⟩ := HR7.out.ex
                          obtain ⟨p7, c7, rfl, -⟩ := hso7.own
                          have HA1 : Hid (Below w7.heap.size w7 (w7.alloc (.cells #[.int .i64 (cn : Int), .int .i64 (nn : Int), .int .i64 xa, .bool false, .string ⟨#[]⟩] 48))) := hid_in ((Below.refl _ _).alloc (Nat.le_refl _) _)
                          have HO1 : Hid (SO (w7.alloc (.cells #[.int .i64 (cn : Int), .int .i64 (nn : Int), .int .i64 xa, .bool false, .string ⟨#[]⟩] 48)) B' (.slice p7 acc.length c7) acc) := hid_in (hso7.below HA1.out)
                          have HF1 := hid_in (sls_one w7 ⟨(cn : Int), (nn : Int), xa, false, ⟨#[]⟩⟩)
                          simp only at HF1
                          have HBA : Hid (B' ≤ w7.heap.size) := hid_in (by have := hrow7.lt; have := HR7.out.ge; omega)
                          have HV2 : Hid (Below B' w7 (w7.alloc (.cells #[.int .i64 (cn : Int), .int .i64 (nn : Int), .int .i64 xa, .bool false, .string ⟨#[]⟩] 48))) := hid_in (HA1.out.mono HBA.out)
                          have HBA2 := hid_in (Nat.le_trans HBA.out HA1.out.size)
                          have HROW7 := hid_in hrow7
                          have HROWA := hid_in (hrow7.below HA1.out hrow7.lt)
                          have HBR := hid_in HR7.out.ge
                          obtain ⟨al, HAL⟩ : ∃ al, Hid (acc.length = al) := ⟨_, hid_in rfl⟩
                          rw [HAL.out] at HO1 HROW7 HROWA
                          have q7 := HROW7.out.cell 1
                          simp only [List.getElem?_cons_succ, List.getElem?_cons_zero] at q7
                          have HOX : Hid (SO (w7.alloc (.cells #[.int .i64 (cn : Int), .int .i64 (nn : Int), .int .i64 xa, .bool false, .string ⟨#[]⟩] 48)) B' (.slice p7 al c7) acc) := HO1
                          clear hrow7 hso7
                          go_wp2_with (first | (at_builtin; refine wpList_app48 B' rfl (.tmp 90) (.tmp 99) rfl (.slice p7 al c7) acc [⟨(cn : Int), (nn : Int), xa, false, ⟨#[]⟩⟩] rfl HOX.out (.slice (some ⟨w7.heap.size, 0, none⟩) 1 1) rfl HF1.out (by have := HLE.out; simp only [List.length_cons, List.length_nil]; omega) HBA2.out ?_; intro v8 w8 ho8 hg8; obtain ⟨p8, l8, c8, rfl⟩ := so_form ho8; have HROW8 := hid_in (row_so HROWA.out (by decide) HOX.out hg8); have q8 := HROW8.out.cell 1; have z8 := HROW8.out.frozen 1; simp only [List.getElem?_cons_succ, List.getElem?_cons_zero] at q8; have HB8 := hid_in (HOX.out.step HV2.out HBA2.out hg8); have HO8 := hid_in ho8; clear ho8 hg8; simp only [Act.put, List.setIfInBounds_toArray, List.set_cons_zero, List.set_cons_succ]))
                          have HBX : Hid (Below B' w7 (w8.setCell ⟨r, 1, none⟩ (.slice p8 l8 c8))) := hid_in (below_of_grown HB8.out (grownBy_setCell w8 ⟨r, 1, none⟩ _) (by have := HROW8.out.lt; have := HBR.out; omega) HBR.out)
                          have HRT8 : Hid (RT (w8.setCell ⟨r, 1, none⟩ (.slice p8 l8 c8)) B' r (rm : Int) (acc ++ [⟨(cn : Int), (nn : Int), xa, false, ⟨#[]⟩⟩])) := hid_in ⟨⟨_, HROW8.out.set_same 1 _, SO.keep HO8.out HROW8.out (by decide) (grownBy_setCell _ _ _)⟩, HBR.out⟩
                          go_roundg (n - (i + 1))
                          case measure => have := HGK.out; have := HLT.out; omega
                          case rel => exact ⟨i + 1, cn, acc ++ [⟨(cn : Int), (nn : Int), xa, false, ⟨#[]⟩⟩], t5, by have := HLT.out; omega, rfl, by go_num, ⟨HRT8.out, HI7.out.belowM HBX.out HIB.out (Nat.le_of_lt HIB.out), HB7.out.trans (HBX.out.mono (Nat.le_of_lt HIB.out)), by simp [HLEN.out], fun s hs => (by rcases List.mem_append.1 hs with h5 | h5; (exact HSH.out s h5); (simp only [List.mem_singleton] at h5; rw [h5]; exact HXS.out)), HGO.out.symm⟩⟩
                        · have g6 : ¬ xs.toList = [] := fun e => h6 (by rw [toL_inj (b := ⟨#[]⟩) (e.trans (by rw [Lib.toList_data]))]; rfl)
                          have g7 : xs.toList.isEmpty = false := by simpa using g6
                          have HRN : Hid (R = none) := hid_in (HST.out.trans (if_pos (by simp [h6])))
                          go_wp2_with fail
                          go_ret2
                          exact ⟨.inl ⟨by rw [HU.out, HRN.out]; rfl, rfl⟩, HB7.out⟩
            · have g1 : ((t5.2 : Int) != 0) = true := by simp; omega
              have HRN : Hid (R = none) := hid_in (HST.out.trans (if_pos (by simp [h1])))
              go_wp2_with fail
              go_ret2
              exact ⟨.inl ⟨by rw [HU.out, HRN.out]; rfl, rfl⟩, HB7.out⟩
          · obtain rfl : i = n := by omega
            have hfin : R = some (acc, t) := by
              have h := hd.out.rest
              rw [Nat.sub_self] at h
              exact h.symm
            rw [hfin] at HU
            obtain ⟨tl, te⟩ := t
            have HRT := hid_in hd.out.rt
            have HBL := hid_in hd.out.bel
            have H46 := hid_in (fun m => (Nd.rleft_t (wr.drewN m) w.heap.size w.heap.size tl te (hd.out.inn.belowM (Nd.below_drewN (Below.refl _ _) m) hd.out.inn.blk (Nat.le_of_lt hd.out.inn.blk))).mono (fun r w' (h : _ ∧ _) => (⟨h.1, 1, h.2⟩ : _ ∧ ∃ k, w' = (wr.drewN m).drewN k)))
            have H47 := hid_in (fun m => rbytes_any (hd.out.rt.below (Nd.below_drewN (Below.refl _ _) m)) hd.out.short (by have := hd.out.len; have := HN8.out; omega))
            have HSM : Hid (sumR acc ≤ 65536) := hid_in (by have h1 := sumR_le hd.out.short; have := hd.out.len; have := HN8.out; omega)
            have e7 := ri_err hd.out.inn
            have z0 : wr.cell? ⟨r, 0, none⟩ = some (.int .i64 (rm : Int)) := by
              obtain ⟨v, h1, h2⟩ := hd.out.rt.ex
              exact h1.cell 0
            have HU2 : Hid (rdT (bs, 0) = if tl.length ≠ 0 ∨ te ≠ 0 ∨ rm < sumR acc then none else some (rm, acc)) := hid_in HU.out
            simp only at e7
            clear HU hfin hd hgk hlt HN8 HXL HTX
            generalize hL : tl.length = L at *
            generalize sumR acc = S at *
            clear hL
            by_cases h1 : L = 0
            · subst h1
              by_cases h2 : te = 0
              · subst h2
                by_cases h3 : rm < S
                · have g3 : (rm : Int) < (S : Int) := by omega
                  rw [if_pos (.inr (.inr h3))] at HU2
                  clear h3
                  go_wp2_with fail
                  go_quiet (first | (go_at_call 46; refine Calls.quiet_of (H46.out _)) | (go_at_call 47; refine Calls.quiet_of_same (H47.out _)))
                  go_wp2_with fail
                  go_ret2
                  exact ⟨.inl ⟨HU2.out, rfl⟩, Nd.below_drewN HBL.out _⟩
                · have g3 : ¬ (rm : Int) < (S : Int) := by omega
                  rw [if_neg (by omega)] at HU2
                  clear h3
                  go_wp2_with fail
                  go_quiet (first | (go_at_call 46; refine Calls.quiet_of (H46.out _)) | (go_at_call 47; refine Calls.quiet_of_same (H47.out _)))
                  go_wp2_with fail
                  go_ret2
                  exact ⟨.inr ⟨rm, acc, B', r, HU2.out, rfl, HRT.out.below (Nd.below_drewN (Below.refl _ _) _)⟩, Nd.below_drewN HBL.out _⟩
              · have g2 : ((te : Int) != 0) = true := by simp; omega
                rw [if_pos (.inr (.inl h2))] at HU2
                clear h2
                go_wp2_with fail
                go_quiet (first | (go_at_call 46; refine Calls.quiet_of (H46.out _)))
                go_wp2_with fail
                go_ret2
                exact ⟨.inl ⟨HU2.out, rfl⟩, Nd.below_drewN HBL.out _⟩
            · have g1 : ((L : Int) != 0) = true := by simp; omega
              rw [if_pos (.inl h1)] at HU2
              clear h1
              go_wp2_with fail
              go_quiet (first | (go_at_call 46; refine Calls.quiet_of (H46.out _)))
              go_wp2_with fail
              go_ret2
              exact ⟨.inl ⟨HU2.out, rfl⟩, Nd.below_drewN HBL.out _⟩
      · have k2 : 8 < (n : Int) := by omega
        have k1 : ¬ 8192 < (rm : Int) := by omega
        rw [h1] at e3
        rw [if_pos (.inr (.inr (by omega)))] at HU
        clear h1 h2 h3
        go_wp2_with fail
        go_ret2
        exact ⟨.inl ⟨HU.out, rfl⟩, HB3.out⟩
    · have k1 : 8192 < (rm : Int) := by omega
      rw [h1] at e3
      rw [if_pos (.inr (.inl (by omega)))] at HU
      clear h1 h2
      go_wp2_with fail
      go_ret2
      exact ⟨.inl ⟨HU.out, rfl⟩, HB3.out⟩
  · have k1 : ((t3.2 : Int) != 0) = true := by simp; omega
    rw [if_pos (.inl h1)] at HU
    clear h1
    generalize t3.2 = e0 at *
    go_wp2_with fail
    go_ret2
    exact ⟨.inl ⟨HU.out, rfl⟩, HB3.out⟩
end Go.Proofs.Ytiijlnlkhpneaaa.Se
