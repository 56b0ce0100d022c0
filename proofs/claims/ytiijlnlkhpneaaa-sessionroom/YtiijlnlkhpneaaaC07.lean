/-
  The walk of SessionRoom.
-/
import Derived.OwnWalk
import Derived.Deep.RegionLaw
import Derived.Deep.DrawnRows
import Derived.Laws.CopyOwn
import Derived.Lib.AppendZeros
import Derived.Laws.StructEq
import Derived.Laws.Tables
import Derived.Test.YtiijlnlkhpneaaaC00
import Derived.Test.YtiijlnlkhpneaaaC01
import Derived.Test.YtiijlnlkhpneaaaC02
import Derived.Test.YtiijlnlkhpneaaaC03
import Derived.Test.YtiijlnlkhpneaaaC04
import Derived.Test.YtiijlnlkhpneaaaC05
import Derived.Test.YtiijlnlkhpneaaaC06
namespace Go.Proofs.Ytiijlnlkhpneaaa.Se
open Go.RowKit
open Nd (Row wp_world grownBy_setCell below_of_grown grownBy_trans grown_of_below grownBy_refl)
theorem row_grownR {w w' : World} {b g : Nat} {vs : List Value} {t : TypeId} (h : Row w b vs t) (hg : w.grownBy w' (some g)) (hne : b ≠ g) : Row w' b vs t := h.grown hg (fun e => hne (Option.some.inj e))
theorem others_yes {X : List Seat} {k : Nat} {s : Seat} {c : Int} (h : X[k]? = some s) (hc : (s.client != c) = true) : others c (X.take (k + 1)) = others c (X.take k) ++ [s] := filter_yes (f := fun s => s.client != c) h hc
theorem others_no {X : List Seat} {k : Nat} {s : Seat} {c : Int} (h : X[k]? = some s) (hc : (s.client != c) = false) : others c (X.take (k + 1)) = others c (X.take k) := filter_no (f := fun s => s.client != c) h hc
theorem sumR_snoc (X : List Seat) (s : Seat) : sumR (X ++ [s]) = sumR X + s.reply.size := by simp [sumR]
theorem keptN_snoc (X : List Seat) (s : Seat) : keptN (X ++ [s]) = keptN X + (if s.kept then 1 else 0) := by
  unfold keptN
  rw [List.filter_append, List.length_append]
  cases h : s.kept <;> simp [h]
theorem others_bound {T : List Seat} (hr : Right T) (c : Int) (k : Nat) : sumR (others c ((T.filter seated).take k)) ≤ 65536 ∧ keptN (others c ((T.filter seated).take k)) ≤ 8 := by
  have hl : (others c ((T.filter seated).take k)).length ≤ 8 := Nat.le_trans (List.length_filter_le _ _) (Nat.le_trans (List.length_take_le' _ _) (filter_le8 hr))
  have hs : ShortT (others c ((T.filter seated).take k)) := fun s h => hr.short s (List.mem_filter.1 (List.mem_of_mem_take (List.mem_filter.1 h).1)).1
  have := sumR_le hs
  refine ⟨by omega, Nat.le_trans (List.length_filter_le _ _) hl⟩
theorem take_bound {T : List Seat} (hr : Right T) (k : Nat) : sumR ((T.filter seated).take k) ≤ 65536 ∧ keptN ((T.filter seated).take k) ≤ 8 := by
  have hl : ((T.filter seated).take k).length ≤ 8 := Nat.le_trans (List.length_take_le' _ _) (filter_le8 hr)
  have hs : ShortT ((T.filter seated).take k) := fun s h => hr.short s (List.mem_filter.1 (List.mem_of_mem_take h)).1
  have := sumR_le hs
  refine ⟨by omega, Nat.le_trans (List.length_filter_le _ _) hl⟩
theorem keptN_take {X : List Seat} {k : Nat} {s : Seat} (h : X[k]? = some s) : keptN (X.take (k + 1)) = keptN (X.take k) + (if s.kept then 1 else 0) := by
  rw [List.take_add_one, h]
  exact keptN_snoc _ s
set_option maxHeartbeats 16000000 in
set_option maxRecDepth 100000 in
theorem room_any (room : Int) (a : World) (v : Value) (ss : List Act1) (h : Acts a v ss) :
    Calls Try.prog 5 #[.int .i64 room, v] a fun e w' => e = .returned (.bool true) ∧ Below a.heap.size a w' := by
  have HAW := hid_in (awake_any a)
  have HFI := hid_in (fun W (x : Below a.heap.size a W) => fits_any W v ss (h.below x))
  obtain ⟨p, cp, rfl, hl, hat⟩ := h.at_
  have HAT := hid_in hat
  have hM : (ss.length : Int) ≤ 9223372036854775807 := by omega
  generalize hn : ss.length = M at *
  have HNN := hid_in hn
  obtain ⟨K, HK⟩ : ∃ K, Hid (K = min M 200) := ⟨_, hid_in rfl⟩
  clear h hat hl hn
  go_enter Try.func5, Try.ntmps5
  go_upto_region 3 with (first | (go_at_call 8; refine HAW.out.mono ?_; rintro e w1 ⟨rfl, hb1⟩; have HB1 := hid_in hb1; clear hb1))
  by_cases hro : roomOk room
  · have r1 : ¬ room < 0 := by have := hro.1; omega
    have r2 : ¬ 8192 < room := by have := hro.2; omega
    have r3 : room ≤ 8192 := hro.2
    have H0 := hid_in hro.1
    have HMK := hid_in (fun W => make_ok room W hro)
    clear hro
    go_upto_region 5 with (first | (go_at_call 9; refine (HFI.out _ HB1.out).mono ?_; rintro e w2 ⟨⟨ft, rfl⟩, rfl⟩; rcases ft with _ | _))
    · go_wp2_with fail
      go_ret
      exact ⟨rfl, HB1.out⟩
    · go_upto_region 8 with (first | (go_at_call 10; refine (HMK.out _).mono ?_; rintro e w3 ⟨g, rfl, ht3, hb3, hg3⟩; have HT3 := hid_in ht3; have HB3 := hid_in (HB1.out.trans (hb3.mono HB1.out.size)); have HGA := hid_in (Nat.le_trans HB1.out.size hg3); clear ht3 hb3 hg3))
      go_wp2_with fail
      go_loopw [7] (fun vi W => ∃ (i : Nat) (T : List Seat), i ≤ K ∧ vi = .int .i64 (i : Int) ∧ Hid (Right T) ∧ Hid (Tab W g room T) ∧ Hid (Below a.heap.size a W)) (fun vi _ => K - (intOf vi).toNat)
      case atStart => exact ⟨0, noTab, by omega, rfl, right_no, HT3.out, HB3.out⟩
      case round =>
        obtain ⟨i, T, hi, rfl, hr, htb, hbr⟩ := hrel
        by_cases hlt : i < K
        · have hj1 : (i : Int) < (M : Int) := by have := HK.out; omega
          have hj2 : (i : Int) < 200 := by have := HK.out; omega
          have HLT := hid_in hlt
          have hlo : i < ss.length := by rw [HNN.out]; have := HK.out; omega
          obtain ⟨b, o, rfl, hcs⟩ := HAT.out (by intro e; rw [e] at hlo; simp at hlo)
          obtain ⟨a0, a1, a2, a3, a4⟩ := hcs wr hbr.out i _ (List.getElem?_eq_getElem hlo)
          generalize ss[i] = x at *
          obtain ⟨xf, xc, xn, xa, xr⟩ := x
          simp only at a0 a1 a2 a3 a4
          obtain ⟨w4, HW4⟩ : ∃ w4, Hid (wr.alloc (.cells #[.bool xf, .int .i64 xc, .int .i64 xn, .int .i64 xa, .string xr] 44) = w4) := ⟨_, hid_in rfl⟩
          have HB4 : Hid (Below wr.heap.size wr w4) := by rw [← HW4.out]; exact (Below.refl _ _).alloc (Nat.le_refl _) _
          have HR4 : Hid (Row w4 wr.heap.size [.bool xf, .int .i64 xc, .int .i64 xn, .int .i64 xa, .string xr] 44) := by rw [← HW4.out]; exact Row.new wr [.bool xf, .int .i64 xc, .int .i64 xn, .int .i64 xa, .string xr] 44
          have HT4 := hid_in (htb.out.below HB4.out htb.out.lt)
          have HBA4 := hid_in (hbr.out.trans (HB4.out.mono hbr.out.size))
          have HNG : Hid (wr.heap.size ≠ g) := hid_in (by have := htb.out.lt; omega)
          clear hlo hcs hlt hi
          go_upto_region 12 with fail
          refine wp_world HW4.out ?_
          clear a0 a1 a2 a3 a4
          have b0 : w4.cell? ⟨wr.heap.size, 0, none⟩ = some (.bool xf) := HR4.out.cell 0
          rcases xf with _ | _
          · have HLS := hid_in (list_any HT4.out)
            have HBD := hid_in (others_bound hr.out xc)
            have HL8 := hid_in (filter_le8 hr.out)
            obtain ⟨X, HX⟩ : ∃ X, Hid (T.filter seated = X) := ⟨_, hid_in rfl⟩
            rw [HX.out] at HLS HBD HL8
            go_upto_region 14 with (first | (go_at_call 13; refine HLS.out.mono ?_; rintro e w5 ⟨v5, rfl, hso5, hb5⟩; have HSO := hid_in hso5; have HB5 := hid_in hb5; clear hso5 hb5))
            have HR5 := hid_in (HR4.out.below HB5.out HR4.out.lt)
            have HT5 := hid_in (HT4.out.below HB5.out HT4.out.lt)
            have HBA5 := hid_in (HBA4.out.trans (HB5.out.mono HBA4.out.size))
            have HGL : Hid (g < w4.heap.size) := hid_in HT4.out.lt
            obtain ⟨p5, c5, rfl, -, hat5⟩ := HSO.out.sls.at_
            have HAT5 := hid_in hat5
            have h8 : (X.length : Int) ≤ 8 := by have := HL8.out; omega
            generalize hm : X.length = m at *
            have HM := hid_in hm
            have d1 : w5.cell? ⟨wr.heap.size, 1, none⟩ = some (.int .i64 xc) := HR5.out.cell 1
            clear hm hat5 b0
            go_wp2_with fail
            go_loopw [10, 11, 12] (fun vh vk vj W => ∃ k : Nat, k ≤ m ∧ vj = .int .i64 (k : Int) ∧ vh = .int .i64 (sumR (others xc (X.take k)) : Int) ∧ vk = .int .i64 (keptN (others xc (X.take k)) : Int) ∧ ∃ d, W = w5.drewN d) (fun _ _ vj _ => m - (intOf vj).toNat)
            case atStart => exact ⟨0, by omega, rfl, rfl, rfl, 0, rfl⟩
            case round =>
              obtain ⟨k, hk, rfl, rfl, rfl, d, rfl⟩ := hrel
              by_cases hkm : k < m
              · obtain ⟨s, hs⟩ : ∃ s, X[k]? = some s := ⟨_, List.getElem?_eq_getElem (by rw [HM.out]; exact hkm)⟩
                obtain ⟨b5, o5, rfl, hcs5⟩ := HAT5.out (by rintro rfl; simp at hs)
                obtain ⟨u0, -, -, u3, u4⟩ := hcs5 _ (Below.refl _ _) k s hs
                have HOY := hid_in (fun k => others_yes (c := xc) hs k)
                have HON := hid_in (fun k => others_no (c := xc) hs k)
                have hb1 := (HBD.out k).1
                have hb2 := (HBD.out k).2
                have HB3' := hid_in (HBD.out (k + 1)).1
                generalize others xc (X.take k) = Y at *
                obtain ⟨sc, sn, sa, sk, sr⟩ := s
                simp only at u0 u3 u4 HOY HON
                have hkm2 : (k : Int) < (m : Int) := by omega
                have HKM := hid_in hkm
                clear hs hcs5 hk hkm
                by_cases hne : sc = xc
                · subst hne
                  have HQ := hid_in (HON.out (by simp))
                  go_upto_region 19 with fail
                  go_quiet (fail)
                  go_wp2_with fail
                  exact ⟨⟨k + 1, by have := HKM.out; omega, by go_num, by rw [HQ.out], by rw [HQ.out], _, rfl⟩, by have := HKM.out; simp [intOf]; omega⟩
                · have hnb : (sc != xc) = true := by simpa using hne
                  have HQ := hid_in (HOY.out hnb)
                  rw [HQ.out] at HB3'
                  have HQ1 := hid_in (sumR_snoc Y ⟨sc, sn, sa, sk, sr⟩)
                  have HQ2 := hid_in (keptN_snoc Y ⟨sc, sn, sa, sk, sr⟩)
                  rw [HQ1.out] at HB3'
                  simp only at HQ1 HQ2 HB3'
                  generalize sumR Y = sY at *
                  generalize keptN Y = kY at *
                  have g1 : (sY : Int) ≤ 65536 := by omega
                  have g2 : (kY : Int) ≤ 8 := by omega
                  have g3 : (sr.size : Int) ≤ 65536 := by have := HB3'.out; omega
                  clear hb1 hb2 hne
                  go_upto_region 19 with fail
                  go_quiet (fail)
                  cases sk with
                  | false =>
                    go_wp2_with fail
                    refine ⟨⟨k + 1, by have := HKM.out; omega, by go_num, ?_, ?_, _, rfl⟩, by have := HKM.out; simp [intOf]; omega⟩
                    · rw [HQ.out, HQ1.out]; go_num
                    · rw [HQ.out, HQ2.out]; simp
                  | true =>
                    go_wp2_with fail
                    refine ⟨⟨k + 1, by have := HKM.out; omega, by go_num, ?_, ?_, _, rfl⟩, by have := HKM.out; simp [intOf]; omega⟩
                    · rw [HQ.out, HQ1.out]; go_num
                    · rw [HQ.out, HQ2.out]; simp only [if_true]; go_num
              · obtain rfl : k = m := by omega
                have HTK : Hid (X.take k = X) := hid_in (by rw [← HM.out, List.take_length])
                rw [HTK.out]
                obtain ⟨w6, HW6⟩ : ∃ w6, Hid (w5.drewN d = w6) := ⟨_, hid_in rfl⟩
                have HB6 : Hid (Below w5.heap.size w5 w6) := by rw [← HW6.out]; exact Nd.below_drewN (Below.refl _ _) d
                have HR6 := hid_in (HR5.out.below HB6.out HR5.out.lt)
                have HT6 := hid_in (HT5.out.below HB6.out HT5.out.lt)
                have HBA6 := hid_in (HBA5.out.trans (HB6.out.mono HBA5.out.size))
                have HSO6 := hid_in (HSO.out.below HB6.out)
                have HRE := hid_in (record_any HT6.out hr.out H0.out xc xn xa xr)
                have HCA := hid_in (rec_cases H0.out hr.out xc xn xa xr)
                have b1 : w6.cell? ⟨wr.heap.size, 1, none⟩ = some (.int .i64 xc) := HR6.out.cell 1
                have b2 : w6.cell? ⟨wr.heap.size, 2, none⟩ = some (.int .i64 xn) := HR6.out.cell 2
                have b3 : w6.cell? ⟨wr.heap.size, 3, none⟩ = some (.int .i64 xa) := HR6.out.cell 3
                have b4 : w6.cell? ⟨wr.heap.size, 4, none⟩ = some (.string xr) := HR6.out.cell 4
                refine wp_world HW6.out ?_
                clear d1 hk hkm
                rcases HCA.out with ⟨k1, k2, k3⟩ | ⟨j, s, k1, k2, rfl, k4, k5, k6, k7, k8, k9, k10⟩
                · rw [k2] at HRE
                  have HL2 := hid_in (fun W (x : Tab W g room T) => list_any x)
                  rw [HX.out] at HL2
                  generalize recE T xc xn xr = E at *
                  have y1 : (E != 0) = true := by simpa using k1
                  clear k1 k2 k3
                  generalize sumR (others xc X) = sY at *
                  generalize keptN (others xc X) = kY at *
                  go_upto_region 24 with (first | (go_at_call 17; refine HRE.out.mono ?_; rintro e w7 ⟨rfl, ht7, hg7⟩; have HT7 := hid_in ht7; have HG7 := hid_in hg7; clear ht7 hg7))
                  have HSO7 := hid_in (HSO6.out.grown HG7.out HGL.out)
                  have HBA7 := hid_in (below_of_grown HBA6.out HG7.out HBA6.out.size HGA.out)
                  go_wp2_with (first | (go_at_call 13; refine (HL2.out _ HT7.out).mono ?_; rintro e w8 ⟨v8, rfl, hso8, hb8⟩; have HSO8 := hid_in hso8; have HB8 := hid_in hb8; obtain ⟨p8, c8, rfl, -, -⟩ := HSO8.out.sls.at_; have HSE := hid_in (seats_yes HSO8.out.sls (HSO7.out.below HB8.out).sls); have HBA8 := hid_in (HBA7.out.trans (HB8.out.mono HBA7.out.size)); rw [HM.out] at HSE; clear hso8 hb8; rw [HM.out]) | (go_at_call 12; refine HSE.out.mono ?_; rintro e w9 ⟨rfl, hb9⟩; have HB9 := hid_in hb9; clear hb9))
                  exact ⟨⟨i + 1, T, by have := HLT.out; omega, by go_num, hr.out, (HT7.out.below HB8.out HT7.out.lt).below HB9.out (HT7.out.below HB8.out HT7.out.lt).lt, HBA8.out.trans (HB9.out.mono HBA8.out.size)⟩, by have := HLT.out; simp [intOf]; omega⟩
                · obtain ⟨S, kk, S', kk', q1, q2, q3, q4, q5, q6, q7, q8, q9⟩ := room_says H0.out hr.out k2 k9
                  rw [HX.out] at q1 q2
                  rw [k8] at HRE k10
                  have HR2 := hid_in k10
                  rw [k1] at HRE
                  rw [q1, q2]
                  generalize mkR room (T.set j ⟨(j : Int) + 1, xn, xa, true, xr⟩) = T2 at *
                  have HL2 := hid_in (fun W (x : Tab W g room T2) => list_any x)
                  have HTB := hid_in (take_bound HR2.out)
                  have HL82 := hid_in (filter_le8 HR2.out)
                  obtain ⟨X2, HX2⟩ : ∃ X2, Hid (T2.filter seated = X2) := ⟨_, hid_in rfl⟩
                  rw [HX2.out] at q3 q4 HL2 HTB HL82
                  have HQ3 := hid_in q3
                  have HQ4 := hid_in q4
                  have HQ5 := hid_in q5
                  have HQ6 := hid_in q6
                  have HQ7 := hid_in q7
                  have HQ8 := hid_in q8
                  have HQ9 := hid_in q9
                  have HK7 := hid_in k7
                  clear k1 k2 k4 k5 k6 k7 k8 k9 k10 q1 q2 q3 q4 q5 q6 q7 q8 q9
                  go_upto_region 27 with (first | (go_at_call 17; refine HRE.out.mono ?_; rintro e w7 ⟨rfl, ht7, hg7⟩; have HT7 := hid_in ht7; have HG7 := hid_in hg7; clear ht7 hg7) | (go_at_call 13; refine (HL2.out _ HT7.out).mono ?_; rintro e w8 ⟨v8, rfl, hso8, hb8⟩; have HSO8 := hid_in hso8; have HB8 := hid_in hb8; clear hso8 hb8))
                  have HBA7 := hid_in (below_of_grown HBA6.out HG7.out HBA6.out.size HGA.out)
                  have HBA8 := hid_in (HBA7.out.trans (HB8.out.mono HBA7.out.size))
                  have HR8 := hid_in ((row_grownR HR6.out HG7.out HNG.out).below HB8.out (row_grownR HR6.out HG7.out HNG.out).lt)
                  have HT8 := hid_in (HT7.out.below HB8.out HT7.out.lt)
                  obtain ⟨p8, c8, rfl, -, hat8⟩ := HSO8.out.sls.at_
                  have HAT8 := hid_in hat8
                  have h82 : (X2.length : Int) ≤ 8 := by have := HL82.out; omega
                  generalize hm2 : X2.length = m2 at *
                  have HM2 := hid_in hm2
                  have t4 : w8.cell? ⟨wr.heap.size, 4, none⟩ = some (.string xr) := HR8.out.cell 4
                  clear hm2 hat8 b1 b2 b3 b4
                  go_wp2_with fail
                  go_loopw [14, 15, 16] (fun vh vk vj W => ∃ q : Nat, q ≤ m2 ∧ vj = .int .i64 (q : Int) ∧ vh = .int .i64 (sumR (X2.take q) : Int) ∧ vk = .int .i64 (keptN (X2.take q) : Int) ∧ w8 = W) (fun _ _ vj _ => m2 - (intOf vj).toNat)
                  case atStart => exact ⟨0, by omega, rfl, rfl, rfl, rfl⟩
                  case round =>
                    obtain ⟨q, hq, rfl, rfl, rfl, rfl⟩ := hrel
                    by_cases hqm : q < m2
                    · obtain ⟨s2, hs2⟩ : ∃ s, X2[q]? = some s := ⟨_, List.getElem?_eq_getElem (by rw [HM2.out]; exact hqm)⟩
                      obtain ⟨b8, o8, rfl, hcs8⟩ := HAT8.out (by rintro rfl; simp at hs2)
                      obtain ⟨-, -, -, u3, u4⟩ := hcs8 _ (Below.refl _ _) q s2 hs2
                      have HS1 := hid_in (sumR_take hs2)
                      have HS2 := hid_in (keptN_take hs2)
                      have hb1 := (HTB.out q).1
                      have hb2 := (HTB.out q).2
                      have hb3 := (HTB.out (q + 1)).1
                      rw [HS1.out] at hb3
                      generalize sumR (X2.take q) = sY at *
                      generalize keptN (X2.take q) = kY at *
                      obtain ⟨sc, sn, sa, sk, sr⟩ := s2
                      simp only at u3 u4 HS1 HS2 hb3
                      have g1 : (sY : Int) ≤ 65536 := by omega
                      have g2 : (kY : Int) ≤ 8 := by omega
                      have g3 : (sr.size : Int) ≤ 65536 := by omega
                      have hqm2 : (q : Int) < (m2 : Int) := by omega
                      have HQM := hid_in hqm
                      clear hs2 hcs8 hq hqm hb1 hb2 hb3
                      cases sk with
                      | false =>
                        go_wp2_with fail
                        refine ⟨⟨q + 1, by have := HQM.out; omega, by go_num, ?_, ?_, trivial⟩, by have := HQM.out; simp [intOf]; omega⟩
                        · rw [HS1.out]; go_num
                        · rw [HS2.out]; simp
                      | true =>
                        go_wp2_with fail
                        refine ⟨⟨q + 1, by have := HQM.out; omega, by go_num, ?_, ?_, trivial⟩, by have := HQM.out; simp [intOf]; omega⟩
                        · rw [HS1.out]; go_num
                        · rw [HS2.out]; simp only [if_true]; go_num
                    · obtain rfl : q = m2 := by omega
                      have HTK2 : Hid (X2.take q = X2) := hid_in (by rw [← HM2.out, List.take_length])
                      rw [HTK2.out, HQ3.out, HQ4.out]
                      have s1 : ¬ room < (S' : Int) := by have := HQ5.out; omega
                      have s2 : (xr.size : Int) ≤ 8192 := by have := HK7.out; omega
                      have s3 : (S : Int) ≤ 65536 := by have := HQ7.out; omega
                      have s4 : (kk : Int) ≤ 8 := by have := HQ8.out; omega
                      clear hq hqm
                      rcases HQ6.out with ⟨t1, t2⟩ | ⟨t1, t2⟩
                      · have t3 : ¬ room < (S : Int) + (xr.size : Int) := by omega
                        have t5 : (kk' : Int) = (kk : Int) + 1 := by omega
                        have t6 : ((kk' : Int) != (kk : Int) + 1) = false := by rw [t5]; simp
                        clear t2 t5
                        go_wp2_with fail
                        exact ⟨⟨i + 1, T2, by have := HLT.out; omega, by go_num, HR2.out, HT8.out, HBA8.out⟩, by have := HLT.out; simp [intOf]; omega⟩
                      · have t3 : ¬ (S : Int) + (xr.size : Int) ≤ room := by omega
                        have t6 : ((kk' : Int) == (kk : Int) + 1) = false := by rw [beq_eq_false_iff_ne]; omega
                        clear t2
                        go_wp2_with fail
                        exact ⟨⟨i + 1, T2, by have := HLT.out; omega, by go_num, HR2.out, HT8.out, HBA8.out⟩, by have := HLT.out; simp [intOf]; omega⟩
          · go_wp2_with fail
            exact ⟨⟨i + 1, T, by have := HLT.out; omega, by go_num, hr.out, HT4.out, HBA4.out⟩, by have := HLT.out; simp [intOf]; omega⟩
        · have hiK : i = K := by omega
          by_cases hM2 : i < M
          · have hj1 : (i : Int) < (M : Int) := by omega
            have hj2 : ¬ (i : Int) < 200 := by have := HK.out; omega
            go_wp2_with fail
            go_ret
            exact ⟨rfl, hbr.out⟩
          · have hj1 : ¬ (i : Int) < (M : Int) := by omega
            go_wp2_with fail
            go_ret
            exact ⟨rfl, hbr.out⟩
  · unfold roomOk at hro
    by_cases r1 : room < 0
    · clear hro
      go_wp2_with (first | (go_at_call 9; refine (HFI.out _ HB1.out).mono ?_; rintro e w2 ⟨⟨ft, rfl⟩, rfl⟩; rcases ft with _ | _))
      all_goals
        go_wp2_with fail
        go_ret
        exact ⟨rfl, HB1.out⟩
    · have r2 : 8192 < room := by omega
      clear hro
      go_wp2_with (first | (go_at_call 9; refine (HFI.out _ HB1.out).mono ?_; rintro e w2 ⟨⟨ft, rfl⟩, rfl⟩; rcases ft with _ | _))
      all_goals
        go_wp2_with fail
        go_ret
        exact ⟨rfl, HB1.out⟩
end Go.Proofs.Ytiijlnlkhpneaaa.Se
