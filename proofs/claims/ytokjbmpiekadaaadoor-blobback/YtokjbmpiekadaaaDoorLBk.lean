/-
  The walk of the statement BlobBack, where a byte is changed.
-/
import Derived.Test.YtokjbmpiekadaaaDoorLB
namespace Go.Proofs.YtokjbmpiekadaaaDoor
open Go.RowKit
attribute [local go_sem ↓] run_load39 quiet_load39 wp_load39 Go.wp_at_zero Go.wp_at_succ
attribute [local go_sem] Is39_drewN rowOf_drewN Is39_drew rowOf_drew ptrB_pointer

/-- a row of the call's own that is not empty -/
theorem own_row {w : World} {base : Nat} {v : Value} {bs : List Nat} (h0 : 0 < bs.length) (h : w.ownsRow base 5 1 v bs.length (bs.map u8v)) : ∃ cap' b' vs, v = .slice (some ⟨b', 0, none⟩) bs.length cap' ∧ Row w b' vs 5 ∧ vs.take bs.length = bs.map u8v ∧ bs.length ≤ cap' ∧ cap' ≤ 9223372036854775807 ∧ base ≤ b' := by
  obtain ⟨hl, ⟨rfl, hx⟩ | ⟨g1, cap1, cur, rfl, hb, hg, h1, h2, h3, h4⟩⟩ := h
  · exact absurd hx (by omega)
  · exact ⟨cap1, g1, cur.toList, rfl, by unfold Row; simpa using hg, by simpa using h4, h1, by unfold maxLen at h2; omega, hb⟩

theorem bad_sl {W : World} {b8 i y cap8 : Nat} {vs : List Value} {bs : List Nat} (hrW : Row W b8 (vs.set i (u8v y)) 5) (htk : vs.take bs.length = bs.map u8v) (hlt : ∀ x ∈ bs, x < 256) (hy8 : y < 256) (h1 : bs.length ≤ cap8) (h2 : cap8 ≤ 9223372036854775807) : Sl W (some ⟨b8, 0, none⟩) (bs.set i y) cap8 b8 0 := by
  refine ⟨?_, by rw [List.length_set]; exact h1, h2, fun _ => rfl, fun j hj => ?_⟩
  · intro z hz
    rcases List.mem_or_eq_of_mem_set hz with hz | rfl
    · exact hlt z hz
    · exact hy8
  · rw [List.length_set] at hj
    rw [Nat.zero_add, hrW.cell]
    by_cases hc : i = j
    · subst hc
      have hlv : i < vs.length := by
        have := congrArg List.length htk
        simp at this
        omega
      rw [List.getElem?_set_self hlv]
      simp [hj]
    · have h1 : (vs.take bs.length)[j]? = some (u8v (bs.getD j 0)) := by rw [htk]; simp [hj]
      rw [List.getElem?_take_of_lt hj] at h1
      rw [List.getElem?_set_ne hc, h1]
      simp [hc]
theorem src_of {w : World} {ad : Addr} {bs : List Nat} {cap b off : Nat} (hs : Sl w (some ad) bs cap b off) : ∀ ad', some ad = some ad' → ∀ j u, (bs.map u8v)[j]? = some u → w.cell? (ad'.add j) = some u := by
  intro ad' had j u hu
  cases had
  have hj : j < bs.length := by simpa using (List.getElem?_eq_some_iff.1 hu).1
  obtain rfl : ad = ⟨b, off, none⟩ := by have := hs.at_ (by omega); exact Option.some.inj this
  rw [Addr.add_mid, hs.src j hj]
  simp [hj] at hu
  rw [← hu]
  simp [hj]

set_option maxHeartbeats 8000000 in
set_option maxRecDepth 100000 in
theorem back_ok (w : World) (i t : Nat) (p : Option Addr) (bs : List Nat) (cap b off : Nat) (htab : Tab w) (hs : Sl w p bs cap b off) (hpn : p = none → bs.length = 0 ∧ cap = 0) (hl : bs.length ≤ 4096) (hat : i < bs.length) (ht0 : t ≠ 0) (ht : t < 256) :
    Calls Tryd.prog 4 #[.slice p bs.length cap, .int .i64 (i : Int), .int .u8 (t : Int)] w fun e w' => e = .returned (.bool true) ∧ Below w.heap.size w w' := by
  obtain ⟨ad, rfl⟩ : ∃ ad, p = some ad := ⟨_, hs.at_ (by omega)⟩
  have hn := nil_no ad
  have HAT := hid_in hat
  have HT0 := hid_in ht0
  have HT := hid_in ht
  have k3 : ¬ (i : Int) < 0 := by omega
  have k4 : (i : Int) < (bs.length : Int) := by omega
  have k5 : ((t : Int) == 0) = false := by rw [beq_eq_false_iff_ne]; omega
  obtain ⟨x, HX⟩ : ∃ x, Hid (x = bs.getD i 0) := ⟨_, rfl⟩
  obtain ⟨y, HY⟩ : ∃ y, Hid (y = bs.getD i 0 ^^^ t) := ⟨_, rfl⟩
  obtain ⟨bad, HBS⟩ : ∃ bad, Hid (bad = bs.set i y) := ⟨_, rfl⟩
  obtain ⟨i5i, hi5, he5⟩ := Option.map_eq_some_iff.1 i5
  simp only [Prod.mk.injEq] at he5
  obtain ⟨e1, e2, e3⟩ := he5
  have HI5 : Hid (Tryd.prog.info? 5 = some i5i) := hi5
  have HE1 : Hid (i5i.size = 1) := e1
  have HE2 : Hid (i5i.bytes = 1) := e2
  have HE3 : Hid (i5i.zero = some (.int .u8 0)) := e3
  clear hi5 e1 e2 e3 hat ht0 ht
  have hz := zero39n
  obtain ⟨Z, HZ⟩ := zeros_hid
  rw [← HZ.out] at hz
  have HZL := hid_in (show Z.length = 32 by rw [HZ.out]; rfl)
  obtain ⟨D, HD⟩ : ∃ D, Hid (D = Sha.sum bs) := ⟨_, rfl⟩
  obtain ⟨V, HV⟩ : ∃ V, Hid (V = (Sha.sum bs).map u8v) := ⟨_, rfl⟩
  have HVD : Hid (V = D.map u8v) := by show V = _; rw [HV.out, HD.out]
  have HDL := hid_in (show D.length = 32 by rw [HD.out]; exact sum_length _)
  have HVL := hid_in (show V.length = 32 by rw [HV.out, List.length_map, sum_length])
  have HV1 := hid_in (show ∀ v ∈ V, v.oneCell' = true by rw [HV.out]; exact one_u8 _)
  obtain ⟨M, HM⟩ : ∃ M : List Nat → Option (List Nat), Hid (M = updM (fun _ => none) (Sha.sum bs) bs) := ⟨_, rfl⟩
  have HMD := hid_in (show M D = some bs by rw [HM.out, HD.out]; unfold updM; rw [if_pos rfl])
  have heq := neq39 D D HDL.out HDL.out V V HVD HVD true (by simp)
  have HTAB := hid_in htab
  have HS := hid_in hs
  have HPN := hid_in hpn
  have HL := hid_in hl
  have k2 : ¬ (4096 : Int) < (bs.length : Int) := by omega
  clear htab hs hpn hl
  go_enter Tryd.func4, Tryd.ntmps4
  go_wp2_with (first | (go_at_call 7; refine (awake_any w HTAB.out).mono ?_; rintro e w1 ⟨rfl, hb1⟩; have HB1 := hid_in hb1; clear hb1) | (go_at_call 9; refine (bnew_any w1 8192).mono ?_; rintro e w2 ⟨rfl, hst2, hb2⟩; obtain ⟨g, hg⟩ : ∃ g, w1.heap.size + 1 = g := ⟨_, rfl⟩; obtain ⟨m, hm⟩ : ∃ m, w1.heap.size = m := ⟨_, rfl⟩; rw [hg] at hst2 ⊢; rw [hm] at hst2; have HGM := hid_in (show w.heap.size ≤ g ∧ w.heap.size ≤ m by have := HB1.out.size; omega); have HST2 := hid_in hst2; have HB2 := hid_in (HB1.out.trans (hb2.mono HB1.out.size)); clear hst2 hb2 hg hm) | (go_at_call 15; refine (Put_ok HST2.out (HTAB.out.below HB2.out HTAB.out.pos) bs V HV (some ad) b off cap (HS.out.below HB2.out) HPN.out HL.out (by decide) (by decide) (by decide) (bs.length : Int) rfl (by have := HL.out; omega) 1 rfl).mono ?_; rintro e w3 ⟨rfl, hst3, hk3⟩; rw [← HM.out] at hst3; rw [show ((0 : Int) + (bs.length : Int)) = (bs.length : Int) by omega, show max (8192 : Int) 0 = 8192 by decide] at hst3; have HLT3 := hid_in (show g < w3.heap.size ∧ m < w3.heap.size by exact ⟨hst3.glt, hst3.mlt⟩); have HST3 := hid_in hst3; have HB3 := hid_in (HB2.out.trans (hk3.below HB2.out.size HGM.out.1 HGM.out.2)); clear hst3 hk3 HST2) | (refine wpList_store_new rfl _ _ rfl Z V HZL HVL HV1 rfl rfl ?_; intro w4 hr4 hb4; have HST4 := hid_in (HST3.out.below hb4); have HB4 := hid_in (HB3.out.trans (hb4.mono HB3.out.size)); clear hb4 HST3) | (refine wpList_load_Row rfl 39 _ rfl w3.heap.size rfl 39 _ hr4 _ Tryd.underlying39 rfl 32 info39 HVL.out ?_) | (go_at_call 21; refine (Get_ok HST4.out (HTAB.out.below HB4.out HTAB.out.pos) D HDL.out V HVD bs HMD.out HD.out.symm (by have := HL.out; omega)).mono ?_; rintro e w5 ⟨p5, cap5, b5, rfl, hs5, hb5⟩; have HR5 := hid_in (hr4.below hb5 hr4.lt); have HST5 := hid_in (HST4.out.below hb5); have HB5 := hid_in (HB4.out.trans (hb5.mono HB4.out.size)); have HS5 := hid_in hs5; clear hb5 hr4 hs5 HST4))
  obtain ⟨S, HSS⟩ : ∃ S, Hid (S = str bs) := ⟨_, rfl⟩
  have hbd : Below w5.heap.size w5 w5.drew := below_drewN (Below.refl w5.heap.size w5) 1
  have HK : Hid (∀ w', Below w5.heap.size w5 w' → (convert 30 9 (.slice p5 bs.length cap5)).run Tryd.prog w' = .ok (.string S) w' ∧ (convert 30 9 (.slice (some ad) bs.length cap)).run Tryd.prog w' = .ok (.string S) w' ∧ w'.rangeAt w3.heap.size 0 V) := fun w' hb => by
    refine ⟨by rw [HSS.out]; exact conv_sl (HS5.out.below hb), by rw [HSS.out]; exact conv_sl ((HS.out.below HB5.out).below hb), fun j v hv => ?_⟩
    rw [Nat.zero_add, (HR5.out.below hb HR5.out.lt).cell, hv]
  have HSUM := hid_in (rsum_V bs V HV (some ad) b off cap w5.drew ((HS.out.below HB5.out).below hbd) HPN.out (by have := HL.out; omega))
  have HBD := hid_in hbd
  have hu := Tryd.underlying39
  have hi : (Tryd.prog.info? 39).map (·.size) = some V.length := by rw [info39, HVL.out]
  clear hbd
  go_cut [65] (fun v w' => v = .bool false ∧ Below w5.heap.size w5 w')
  case first =>
    go_region_held3 (fun w' => (convert 30 9 (.slice p5 bs.length cap5)).run Tryd.prog w' = .ok (.string S) w' ∧ (convert 30 9 (.slice (some ad) bs.length cap)).run Tryd.prog w' = .ok (.string S) w' ∧ w'.rangeAt w3.heap.size 0 V) (first | (exact HK.out _ HB6.out) | (exact HK.out _ HBD.out) | (exact HK.out _ (Below.refl _ _))) (first | (go_at_call 14; refine HSUM.out.mono ?_; rintro e w6 ⟨rfl, hb6⟩; have HB6 := hid_in (HBD.out.trans (hb6.mono HBD.out.size)); clear hb6))
    all_goals
      go_wp2_with fail
      go_meet
      exact ⟨rfl, HB6.out⟩
  case rest =>
    obtain ⟨rfl, hb6⟩ := hcut
    have hr6 := HR5.out.below hb6 HR5.out.lt
    have HST6 := hid_in (HST5.out.below hb6)
    have HB6 := hid_in (HB5.out.trans (hb6.mono HB5.out.size))
    clear hb6 HK HSUM HBD HS5 HR5 hu hi HST5
    go_wp2_with (first | (refine wpList_load_Row rfl 39 _ rfl w3.heap.size rfl 39 _ hr6 _ Tryd.underlying39 rfl 32 info39 HVL.out ?_) | (go_at_call 22; refine (Spoil_ok HST6.out D HDL.out V HVD bs HMD.out i t HAT.out HT0.out HT.out (by have := HL.out; omega)).mono ?_; rintro e w7 ⟨rfl, hst7, hk7⟩; rw [← HY.out, ← HBS.out] at hst7; have hr7 := hk7.row hr6 (by have := HLT3.out; omega) (by have := HLT3.out; omega); have HST7 := hid_in hst7; have hb7 := HB6.out.trans (hk7.below HB6.out.size HGM.out.1 HGM.out.2); have HB7 := hid_in hb7; have HS7 := hid_in (HS.out.below hb7); have hown0 : (w7.alloc (.cells #[] 5)).ownsRow w7.heap.size 5 1 (.slice (some ⟨w7.heap.size, 0, none⟩) 0 0) 0 [] := World.ownsRow_made (base := w7.heap.size) (e := 5) (size := 1) w7 #[] 0 (Nat.le_refl _) (by simp) rfl; have hb0 : Below w7.heap.size w7 (w7.alloc (.cells #[] 5)) := (Below.refl _ _).alloc (Nat.le_refl _) _; have hsrc0 := src_of (HS7.out.below hb0); clear hst7 hk7 hr6 HST6 hb7) | (at_builtin; refine wpList_append_any rfl _ _ 30 rfl w7.heap.size 5 i5i (.int .u8 0) Tryd.underlying30 HI5.out HE3.out HE1.out HE2.out rfl _ 0 [] rfl hown0 (some ad) bs.length cap (bs.map u8v) rfl (by simp) (fun h => by cases h) hsrc0 (one_u8 bs) (by have := HL.out; omega) (by simp) ?_; intro v8 w8 hown8 hg8; have hb8 := own_step hb0 hg8 (by simp) rfl hown0; rw [Nat.zero_add, List.nil_append] at hown8; obtain ⟨cap8, b8, vs, rfl, hrb8, htk, hc1, hc2, hB8⟩ := own_row (by have := HAT.out; omega) hown8; have c2 : w8.cell? ⟨b8, i, none⟩ = some (.int .u8 (x : Int)) := (by rw [HX.out]; exact spoil_cell hrb8 htk HAT.out); have f2 := hrb8.frozen i; have hxor : bits .xor .u8 (x : Int) (t : Int) = (y : Int) := (by rw [HY.out, HX.out]; exact xor8 (bs.getD i 0) t (getD_lt HS7.out.lt i) HT.out); have HR8 := hid_in hrb8; have HTK := hid_in htk; have HC1 := hid_in hc1; have HC2 := hid_in hc2; have HBB := hid_in hB8; have HB8 := hid_in hb8; clear hrb8 htk hc1 hc2 hB8 hb8 hg8 hown0 hsrc0 hb0))
    obtain ⟨W, HW⟩ : ∃ W, Hid (w8.setCell ⟨b8, i, none⟩ (.int .u8 (y : Int)) = W) := ⟨_, rfl⟩
    refine wp_world HW.out ?_
    have hbW : Below w7.heap.size w7 W := by rw [← HW.out]; exact HB8.out.setCell HBB.out _
    have hrW : Row W b8 (vs.set i (u8v y)) 5 := by rw [← HW.out]; exact HR8.out.set_same i _
    have hx8 : x < 256 := by rw [HX.out]; exact getD_lt HS7.out.lt i
    have hy8 : y < 256 := by rw [HY.out]; exact Nat.xor_lt_two_pow (n := 8) (getD_lt HS7.out.lt i) HT.out
    have hslW : Sl W (some ⟨b8, 0, none⟩) bad cap8 b8 0 := by
      rw [HBS.out]
      exact bad_sl hrW HTK.out HS7.out.lt hy8 HC1.out HC2.out
    have hlb : bs.length = bad.length := by rw [HBS.out, List.length_set]
    have HLB := hid_in hlb
    have hrV := hr7.below hbW hr7.lt
    have hbd : Below W.heap.size W W.drew := below_drewN (Below.refl W.heap.size W) 1
    obtain ⟨V2, HV2⟩ : ∃ V2, Hid (V2 = (Sha.sum bad).map u8v) := ⟨_, rfl⟩
    have HSUM := hid_in (rsum_V bad V2 HV2 (some ⟨b8, 0, none⟩) b8 0 cap8 W.drew (hslW.below hbd) (fun h => by cases h) (by rw [← hlb]; have := HL.out; omega))
    rw [← hlb] at HSUM
    have HST9 := hid_in (HST7.out.below hbW)
    have HBW := hid_in (HB7.out.trans (hbW.mono HB7.out.size))
    have HK : Hid (∀ w', Below W.heap.size W w' → w'.rangeAt w3.heap.size 0 V) := fun w' hb j v hv => by
      rw [Nat.zero_add, (hrV.below hb hrV.lt).cell, hv]
    have hu := Tryd.underlying39
    have hi : (Tryd.prog.info? 39).map (·.size) = some V.length := by rw [info39, HVL.out]
    have HBD := hid_in hbd
    have HRV := hid_in hrV
    clear hbW hrW hslW hrV hbd hlb hx8 hy8 c2 f2 hxor hr7 HST7
    obtain ⟨eqb, HEQB⟩ : ∃ eqb, Hid (decide (Sha.sum bad = D) = eqb) := ⟨_, rfl⟩
    have heq2 := neq39 (Sha.sum bad) D (sum_length bad) HDL.out V2 V HV2 HVD eqb HEQB.out
    go_cut [115] (fun v w' => v = .bool eqb ∧ Below W.heap.size W w')
    case first =>
      go_region_held3 (fun w' => w'.rangeAt w3.heap.size 0 V) (first | (exact HK.out _ HB9.out) | (exact HK.out _ HBD.out) | (exact HK.out _ (Below.refl _ _))) (first | (go_at_call 14; refine HSUM.out.mono ?_; rintro e w9 ⟨rfl, hb9⟩; have HB9 := hid_in (HBD.out.trans (hb9.mono HBD.out.size)); clear hb9))
      all_goals
        go_wp2_with fail
        go_meet
        exact ⟨rfl, HB9.out⟩
    case rest =>
      obtain ⟨rfl, hb9⟩ := hcut
      have hr9 := HRV.out.below hb9 HRV.out.lt
      have HST9' := hid_in (HST9.out.below hb9)
      have HB9 := hid_in (HBW.out.trans (hb9.mono HBW.out.size))
      clear hb9 HK HSUM HBD HRV hu hi HST9 heq2 HBW
      cases eqb with
      | true =>
        go_wp2
        go_ret
        exact ⟨rfl, HB9.out⟩
      | false =>
        have HNE := hid_in (of_decide_eq_false HEQB.out)
        obtain ⟨M2, HM2⟩ : ∃ M2 : List Nat → Option (List Nat), Hid (M2 = updM M D bad) := ⟨_, rfl⟩
        have HST9 := HST9'
        rw [← HM2.out] at HST9
        have HM2D := hid_in (show M2 D = some bad by rw [HM2.out]; unfold updM; rw [if_pos rfl])
        have HM2S := hid_in (show (M2 (Sha.sum bs)).isSome = true by rw [← HD.out, HM2D.out]; rfl)
        have HN := hid_in (show (0 : Int) = if (M2 (Sha.sum bs)).isSome then 0 else (bs.length : Int) by rw [HM2S.out]; rfl)
        have HNN := hid_in (show 1 = if (M2 (Sha.sum bs)).isSome then 1 else 1 + 1 by rw [HM2S.out]; rfl)
        obtain ⟨M3, HM3⟩ : ∃ M3 : List Nat → Option (List Nat), Hid (M3 = updM M2 (Sha.sum bs) bs) := ⟨_, rfl⟩
        have HM3D := hid_in (show M3 D = some bs by rw [HM3.out, HD.out]; unfold updM; rw [if_pos rfl])
        have HBL := hid_in (show bad.length < 1152921504606846000 by rw [← HLB.out]; have := HL.out; omega)
        clear HST9'
        go_upto_region 21 with (first | (refine wpList_load_Row rfl 39 _ rfl w3.heap.size rfl 39 _ hr9 _ Tryd.underlying39 rfl 32 info39 HVL.out ?_) | (go_at_call 21; refine (Get_broken HST9.out (HTAB.out.below HB9.out HTAB.out.pos) D HDL.out V HVD bad HM2D.out HNE.out HBL.out).mono ?_; rintro e w10 ⟨rfl, hb10⟩; have hr10 := hr9.below hb10 hr9.lt; have HST10 := hid_in (HST9.out.below hb10); have HB10 := hid_in (HB9.out.trans (hb10.mono HB9.out.size)); clear hb10 hr9 HST9) | (go_at_call 15; refine (Put_ok HST10.out (HTAB.out.below HB10.out HTAB.out.pos) bs V HV (some ad) b off cap (HS.out.below HB10.out) (fun h => by cases h) HL.out (by omega) (by have := HL.out; omega) (by decide) 0 HN (by have := HL.out; omega) 1 HNN).mono ?_; rintro e w11 ⟨rfl, hst11, hk11⟩; rw [← HM3.out, Int.add_zero] at hst11; have hr11 := hk11.row hr10 (by have := HLT3.out; omega) (by have := HLT3.out; omega); have HST11 := hid_in hst11; have HB11 := hid_in (HB10.out.trans (hk11.below HB10.out.size HGM.out.1 HGM.out.2)); clear hst11 hk11 hr10 HST10) | (refine wpList_store_new rfl _ _ rfl Z V HZL HVL HV1 rfl rfl ?_; intro w12 hs12 hb12; have hr12 := hr11.below hb12 hr11.lt; have HST12 := hid_in (HST11.out.below hb12); have HB12 := hid_in (HB11.out.trans (hb12.mono HB11.out.size)); clear hb12 hr11 HST11) | (refine wpList_load_Row rfl 39 _ rfl w3.heap.size rfl 39 _ hr12 _ Tryd.underlying39 rfl 32 info39 HVL.out ?_) | (go_at_call 21; refine (Get_ok HST12.out (HTAB.out.below HB12.out HTAB.out.pos) D HDL.out V HVD bs HM3D.out HD.out.symm (by have := HL.out; omega)).mono ?_; rintro e w13 ⟨p13, cap13, b13, rfl, hs13, hb13⟩; have hr13 := hr12.below hb13 hr12.lt; have ha13 := hs12.below hb13 hs12.lt; have HST13 := hid_in (HST12.out.below hb13); have HB13 := hid_in (HB12.out.trans (hb13.mono HB12.out.size)); have hc8 : (convert 30 9 (.slice p13 bs.length cap13)).run Tryd.prog w13 = .ok (.string S) w13 := (by rw [HSS.out]; exact conv_sl hs13); have hc9 : (convert 30 9 (.slice (some ad) bs.length cap)).run Tryd.prog w13 = .ok (.string S) w13 := (by rw [HSS.out]; exact conv_sl (HS.out.below HB13.out)); clear hb13 hr12 hs12 hs13 HST12))
        have hI1 : Is39 w13 w3.heap.size := ⟨V, hr13, HVL.out⟩
        have hR1 := rowOf_row hr13
        have hI2 : Is39 w13 w11.heap.size := ⟨V, ha13, HVL.out⟩
        have hR2 := rowOf_row ha13
        clear hr13 ha13
        go_wp2_with (first | (go_at_call 20; refine (count_any HST13.out).mono ?_; rintro e w14 ⟨rfl, hw⟩; obtain rfl := hw.symm) | (go_at_call 23; refine (bytes_any HST13.out).mono ?_; rintro e w14 ⟨rfl, hw⟩; obtain rfl := hw.symm))
        go_ret
        exact ⟨rfl, HB13.out⟩

end Go.Proofs.YtokjbmpiekadaaaDoor
