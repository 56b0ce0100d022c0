/-
  The walk of the statement BlobBack.
-/
import Derived.Test.YtokjbmpiekadaaaDoorK17
import Derived.Test.YtokjbmpiekadaaaDoorPt
import Derived.Deep.RegionHeld3
import Derived.Deep.DeepCutAuto
namespace Go.Proofs.YtokjbmpiekadaaaDoor
open Go.RowKit
attribute [local go_sem ↓] run_load39 quiet_load39 wp_load39 Go.wp_at_zero Go.wp_at_succ
attribute [local go_sem] Is39_drewN rowOf_drewN Is39_drew rowOf_drew ptrB_pointer

set_option maxHeartbeats 4000000 in
set_option maxRecDepth 100000 in
/-- bytes that are too long for a blob -/
theorem back_long (w : World) (at_ turn : Int) (p : Option Addr) (bs : List Nat) (cap : Nat) (htab : Tab w) (hl : 4096 < bs.length) :
    Calls Tryd.prog 4 #[.slice p bs.length cap, .int .i64 at_, .int .u8 turn] w fun e w' => e = .returned (.bool true) ∧ Below w.heap.size w w' := by
  have hz := zero39n
  obtain ⟨Z, HZ⟩ := zeros_hid
  rw [← HZ.out] at hz
  have HZL := hid_in (show Z.length = 32 by rw [HZ.out]; rfl)
  have HZ1 := hid_in (show ∀ v ∈ Z, v.oneCell' = true by rw [HZ.out]; exact one_u8 _)
  have heq := neq39 (List.replicate 32 0) (List.replicate 32 0) rfl rfl Z Z HZ HZ true (by decide)
  have HTAB := hid_in htab
  have HL := hid_in hl
  have k2 : (4096 : Int) < (bs.length : Int) := by omega
  clear htab hl
  go_enter Tryd.func4, Tryd.ntmps4
  go_wp2_with (first | (go_at_call 7; refine (awake_any w HTAB.out).mono ?_; rintro e w1 ⟨rfl, hb1⟩; have HB1 := hid_in hb1; clear hb1) | (go_at_call 9; refine (bnew_any w1 8192).mono ?_; rintro e w2 ⟨rfl, hst2, hb2⟩; have HST2 := hid_in hst2; have HB2 := hid_in (HB1.out.trans (hb2.mono HB1.out.size)); clear hst2 hb2) | (go_at_call 15; refine (Put_long w2 (w1.heap.size + 1) p bs.length cap Z HZ HL.out).mono ?_; rintro e w3 ⟨rfl, hb3⟩; have HST3 := hid_in (HST2.out.below hb3); have HB3 := hid_in (HB2.out.trans (hb3.mono HB2.out.size)); clear hb3) | (refine wpList_store_new rfl _ _ rfl Z Z HZL HZL HZ1 rfl rfl ?_; intro w4 hr4 hb4; have HST4 := hid_in (HST3.out.below hb4); have HB4 := hid_in (HB3.out.trans (hb4.mono HB3.out.size)); clear hb4) | (go_at_call 20; refine (count_any HST4.out).mono ?_; rintro e w5 ⟨rfl, hw⟩; obtain rfl := hw.symm) | (refine wpList_load_RowG (by rfl) 39 _ rfl w3.heap.size rfl 39 _ hr4 _ Tryd.underlying39 rfl 32 info39 HZL.out ?_))
  go_ret
  exact ⟨rfl, HB4.out⟩

set_option maxHeartbeats 8000000 in
set_option maxRecDepth 100000 in
theorem back_neg (w : World) (at_ turn : Int) (p : Option Addr) (bs : List Nat) (cap b off : Nat) (htab : Tab w) (hs : Sl w p bs cap b off) (hpn : p = none → bs.length = 0 ∧ cap = 0) (hl : bs.length ≤ 4096) (k1 : at_ < 0) :
    Calls Tryd.prog 4 #[.slice p bs.length cap, .int .i64 at_, .int .u8 turn] w fun e w' => e = .returned (.bool true) ∧ Below w.heap.size w w' := by
  have HC := hid_in (show at_ < 0 ∨ (bs.length : Int) ≤ at_ ∨ turn = 0 from Or.inl k1)
  have hz := zero39n
  obtain ⟨Z, HZ⟩ := zeros_hid
  rw [← HZ.out] at hz
  have HZL := hid_in (show Z.length = 32 by rw [HZ.out]; rfl)
  obtain ⟨D, HD⟩ : ∃ D, Hid (D = Sha.sum bs) := ⟨_, rfl⟩
  obtain ⟨V, HV⟩ : ∃ V, Hid (V = (Sha.sum bs).map u8v) := ⟨_, rfl⟩
  have HVD : Hid (V = D.map u8v) := by show V = _; rw [HV.out, HD.out]
  have HDL := hid_in (show D.length = 32 by rw [HD.out]; exact sum_length _)
  have HVL := hid_in (show V.length = 32 by rw [HV.out, List.length_map, sum_length])
  have HV1 := hid_in (show ∀ v ∈ V, v.oneCell' = true by rw [HV.out]; exact one_u8 _)
  obtain ⟨M, HM⟩ : ∃ M : List Nat → Option (List Nat), Hid (M = updM (fun _ => none) (Sha.sum bs) bs) := ⟨_, rfl⟩
  have HMD := hid_in (show M D = some bs by rw [HM.out, HD.out]; unfold updM; rw [if_pos rfl])
  have heq := neq39 D D HDL.out HDL.out V V HVD HVD true (by simp)
  have HTAB := hid_in htab
  have HS := hid_in hs
  have HPN := hid_in hpn
  have HL := hid_in hl
  have k2 : ¬ (4096 : Int) < (bs.length : Int) := by omega
  clear htab hs hpn hl
  go_enter Tryd.func4, Tryd.ntmps4
  go_wp2_with (first | (go_at_call 7; refine (awake_any w HTAB.out).mono ?_; rintro e w1 ⟨rfl, hb1⟩; have HB1 := hid_in hb1; clear hb1) | (go_at_call 9; refine (bnew_any w1 8192).mono ?_; rintro e w2 ⟨rfl, hst2, hb2⟩; obtain ⟨g, hg⟩ : ∃ g, w1.heap.size + 1 = g := ⟨_, rfl⟩; obtain ⟨m, hm⟩ : ∃ m, w1.heap.size = m := ⟨_, rfl⟩; rw [hg] at hst2 ⊢; rw [hm] at hst2; have HGM := hid_in (show w.heap.size ≤ g ∧ w.heap.size ≤ m by have := HB1.out.size; omega); have HST2 := hid_in hst2; have HB2 := hid_in (HB1.out.trans (hb2.mono HB1.out.size)); clear hst2 hb2 hg hm) | (go_at_call 15; refine (Put_ok HST2.out (HTAB.out.below HB2.out HTAB.out.pos) bs V HV p b off cap (HS.out.below HB2.out) HPN.out HL.out (by decide) (by decide) (by decide) (bs.length : Int) rfl (by have := HL.out; omega) 1 rfl).mono ?_; rintro e w3 ⟨rfl, hst3, hk3⟩; rw [← HM.out] at hst3; rw [show ((0 : Int) + (bs.length : Int)) = (bs.length : Int) by omega, show max (8192 : Int) 0 = 8192 by decide] at hst3; have HLT3 := hid_in (show g < w3.heap.size ∧ m < w3.heap.size by exact ⟨hst3.glt, hst3.mlt⟩); have HST3 := hid_in hst3; have HB3 := hid_in (HB2.out.trans (hk3.below HB2.out.size HGM.out.1 HGM.out.2)); clear hst3 hk3 HST2) | (refine wpList_store_new rfl _ _ rfl Z V HZL HVL HV1 rfl rfl ?_; intro w4 hr4 hb4; have HST4 := hid_in (HST3.out.below hb4); have HB4 := hid_in (HB3.out.trans (hb4.mono HB3.out.size)); clear hb4 HST3) | (refine wpList_load_Row rfl 39 _ rfl w3.heap.size rfl 39 _ hr4 _ Tryd.underlying39 rfl 32 info39 HVL.out ?_) | (go_at_call 21; refine (Get_ok HST4.out (HTAB.out.below HB4.out HTAB.out.pos) D HDL.out V HVD bs HMD.out HD.out.symm (by have := HL.out; omega)).mono ?_; rintro e w5 ⟨p5, cap5, b5, rfl, hs5, hb5⟩; have HR5 := hid_in (hr4.below hb5 hr4.lt); have HST5 := hid_in (HST4.out.below hb5); have HB5 := hid_in (HB4.out.trans (hb5.mono HB4.out.size)); have HS5 := hid_in hs5; clear hb5 hr4 hs5 HST4))
  obtain ⟨S, HSS⟩ : ∃ S, Hid (S = str bs) := ⟨_, rfl⟩
  have hbd : Below w5.heap.size w5 w5.drew := below_drewN (Below.refl w5.heap.size w5) 1
  have HK : Hid (∀ w', Below w5.heap.size w5 w' → (convert 30 9 (.slice p5 bs.length cap5)).run Tryd.prog w' = .ok (.string S) w' ∧ (convert 30 9 (.slice p bs.length cap)).run Tryd.prog w' = .ok (.string S) w' ∧ w'.rangeAt w3.heap.size 0 V) := fun w' hb => by
    refine ⟨by rw [HSS.out]; exact conv_sl (HS5.out.below hb), by rw [HSS.out]; exact conv_sl ((HS.out.below HB5.out).below hb), fun j v hv => ?_⟩
    rw [Nat.zero_add, (HR5.out.below hb HR5.out.lt).cell, hv]
  have HSUM := hid_in (rsum_V bs V HV p b off cap w5.drew ((HS.out.below HB5.out).below hbd) HPN.out (by have := HL.out; omega))
  have HBD := hid_in hbd
  have hu := Tryd.underlying39
  have hi : (Tryd.prog.info? 39).map (·.size) = some V.length := by rw [info39, HVL.out]
  clear hbd
  go_cut [65] (fun v w' => v = .bool false ∧ Below w5.heap.size w5 w')
  case first =>
    go_region_held3 (fun w' => (convert 30 9 (.slice p5 bs.length cap5)).run Tryd.prog w' = .ok (.string S) w' ∧ (convert 30 9 (.slice p bs.length cap)).run Tryd.prog w' = .ok (.string S) w' ∧ w'.rangeAt w3.heap.size 0 V) (first | (exact HK.out _ HB6.out) | (exact HK.out _ HBD.out) | (exact HK.out _ (Below.refl _ _))) (first | (go_at_call 14; refine HSUM.out.mono ?_; rintro e w6 ⟨rfl, hb6⟩; have HB6 := hid_in (HBD.out.trans (hb6.mono HBD.out.size)); clear hb6))
    all_goals
      go_wp2_with fail
      go_meet
      exact ⟨rfl, HB6.out⟩
  case rest =>
    obtain ⟨rfl, hb6⟩ := hcut
    have hr6 := HR5.out.below hb6 HR5.out.lt
    have HST6 := hid_in (HST5.out.below hb6)
    have HB6 := hid_in (HB5.out.trans (hb6.mono HB5.out.size))
    clear hb6 HK HSUM HBD HS5 HR5 hu hi HST5
    go_wp2_with (first | (refine wpList_load_Row rfl 39 _ rfl w3.heap.size rfl 39 _ hr6 _ Tryd.underlying39 rfl 32 info39 HVL.out ?_) | (go_at_call 22; refine (Spoil_arg HST6.out D HDL.out V HVD bs HMD.out at_ turn HC.out).mono ?_; rintro e w7 ⟨rfl, hb7⟩; have hr7 := hr6.below hb7 hr6.lt; have HST7 := hid_in (HST6.out.below hb7); have HB7 := hid_in (HB6.out.trans (hb7.mono HB6.out.size)); clear hb7 hr6 HST6) | (refine wpList_load_Row rfl 39 _ rfl w3.heap.size rfl 39 _ hr7 _ Tryd.underlying39 rfl 32 info39 HVL.out ?_) | (go_at_call 21; refine (Get_ok HST7.out (HTAB.out.below HB7.out HTAB.out.pos) D HDL.out V HVD bs HMD.out HD.out.symm (by have := HL.out; omega)).mono ?_; rintro e w8 ⟨p8, cap8, b8, rfl, hs8, hb8⟩; have HB8 := hid_in (HB7.out.trans (hb8.mono HB7.out.size)); have hc8 : (convert 30 9 (.slice p8 bs.length cap8)).run Tryd.prog w8 = .ok (.string S) w8 := (by rw [HSS.out]; exact conv_sl hs8); have hc9 : (convert 30 9 (.slice p bs.length cap)).run Tryd.prog w8 = .ok (.string S) w8 := (by rw [HSS.out]; exact conv_sl (HS.out.below HB8.out)); clear hb8 hr7 hs8 HST7))
    go_ret
    exact ⟨rfl, HB8.out⟩

set_option maxHeartbeats 8000000 in
set_option maxRecDepth 100000 in
theorem back_big (w : World) (at_ turn : Int) (p : Option Addr) (bs : List Nat) (cap b off : Nat) (htab : Tab w) (hs : Sl w p bs cap b off) (hpn : p = none → bs.length = 0 ∧ cap = 0) (hl : bs.length ≤ 4096) (k1 : ¬ at_ < 0) (k3 : (bs.length : Int) ≤ at_) :
    Calls Tryd.prog 4 #[.slice p bs.length cap, .int .i64 at_, .int .u8 turn] w fun e w' => e = .returned (.bool true) ∧ Below w.heap.size w w' := by
  have HC := hid_in (show at_ < 0 ∨ (bs.length : Int) ≤ at_ ∨ turn = 0 from Or.inr (Or.inl k3))
  have hz := zero39n
  obtain ⟨Z, HZ⟩ := zeros_hid
  rw [← HZ.out] at hz
  have HZL := hid_in (show Z.length = 32 by rw [HZ.out]; rfl)
  obtain ⟨D, HD⟩ : ∃ D, Hid (D = Sha.sum bs) := ⟨_, rfl⟩
  obtain ⟨V, HV⟩ : ∃ V, Hid (V = (Sha.sum bs).map u8v) := ⟨_, rfl⟩
  have HVD : Hid (V = D.map u8v) := by show V = _; rw [HV.out, HD.out]
  have HDL := hid_in (show D.length = 32 by rw [HD.out]; exact sum_length _)
  have HVL := hid_in (show V.length = 32 by rw [HV.out, List.length_map, sum_length])
  have HV1 := hid_in (show ∀ v ∈ V, v.oneCell' = true by rw [HV.out]; exact one_u8 _)
  obtain ⟨M, HM⟩ : ∃ M : List Nat → Option (List Nat), Hid (M = updM (fun _ => none) (Sha.sum bs) bs) := ⟨_, rfl⟩
  have HMD := hid_in (show M D = some bs by rw [HM.out, HD.out]; unfold updM; rw [if_pos rfl])
  have heq := neq39 D D HDL.out HDL.out V V HVD HVD true (by simp)
  have HTAB := hid_in htab
  have HS := hid_in hs
  have HPN := hid_in hpn
  have HL := hid_in hl
  have k2 : ¬ (4096 : Int) < (bs.length : Int) := by omega
  clear htab hs hpn hl
  go_enter Tryd.func4, Tryd.ntmps4
  go_wp2_with (first | (go_at_call 7; refine (awake_any w HTAB.out).mono ?_; rintro e w1 ⟨rfl, hb1⟩; have HB1 := hid_in hb1; clear hb1) | (go_at_call 9; refine (bnew_any w1 8192).mono ?_; rintro e w2 ⟨rfl, hst2, hb2⟩; obtain ⟨g, hg⟩ : ∃ g, w1.heap.size + 1 = g := ⟨_, rfl⟩; obtain ⟨m, hm⟩ : ∃ m, w1.heap.size = m := ⟨_, rfl⟩; rw [hg] at hst2 ⊢; rw [hm] at hst2; have HGM := hid_in (show w.heap.size ≤ g ∧ w.heap.size ≤ m by have := HB1.out.size; omega); have HST2 := hid_in hst2; have HB2 := hid_in (HB1.out.trans (hb2.mono HB1.out.size)); clear hst2 hb2 hg hm) | (go_at_call 15; refine (Put_ok HST2.out (HTAB.out.below HB2.out HTAB.out.pos) bs V HV p b off cap (HS.out.below HB2.out) HPN.out HL.out (by decide) (by decide) (by decide) (bs.length : Int) rfl (by have := HL.out; omega) 1 rfl).mono ?_; rintro e w3 ⟨rfl, hst3, hk3⟩; rw [← HM.out] at hst3; rw [show ((0 : Int) + (bs.length : Int)) = (bs.length : Int) by omega, show max (8192 : Int) 0 = 8192 by decide] at hst3; have HLT3 := hid_in (show g < w3.heap.size ∧ m < w3.heap.size by exact ⟨hst3.glt, hst3.mlt⟩); have HST3 := hid_in hst3; have HB3 := hid_in (HB2.out.trans (hk3.below HB2.out.size HGM.out.1 HGM.out.2)); clear hst3 hk3 HST2) | (refine wpList_store_new rfl _ _ rfl Z V HZL HVL HV1 rfl rfl ?_; intro w4 hr4 hb4; have HST4 := hid_in (HST3.out.below hb4); have HB4 := hid_in (HB3.out.trans (hb4.mono HB3.out.size)); clear hb4 HST3) | (refine wpList_load_Row rfl 39 _ rfl w3.heap.size rfl 39 _ hr4 _ Tryd.underlying39 rfl 32 info39 HVL.out ?_) | (go_at_call 21; refine (Get_ok HST4.out (HTAB.out.below HB4.out HTAB.out.pos) D HDL.out V HVD bs HMD.out HD.out.symm (by have := HL.out; omega)).mono ?_; rintro e w5 ⟨p5, cap5, b5, rfl, hs5, hb5⟩; have HR5 := hid_in (hr4.below hb5 hr4.lt); have HST5 := hid_in (HST4.out.below hb5); have HB5 := hid_in (HB4.out.trans (hb5.mono HB4.out.size)); have HS5 := hid_in hs5; clear hb5 hr4 hs5 HST4))
  obtain ⟨S, HSS⟩ : ∃ S, Hid (S = str bs) := ⟨_, rfl⟩
  have hbd : Below w5.heap.size w5 w5.drew := below_drewN (Below.refl w5.heap.size w5) 1
  have HK : Hid (∀ w', Below w5.heap.size w5 w' → (convert 30 9 (.slice p5 bs.length cap5)).run Tryd.prog w' = .ok (.string S) w' ∧ (convert 30 9 (.slice p bs.length cap)).run Tryd.prog w' = .ok (.string S) w' ∧ w'.rangeAt w3.heap.size 0 V) := fun w' hb => by
    refine ⟨by rw [HSS.out]; exact conv_sl (HS5.out.below hb), by rw [HSS.out]; exact conv_sl ((HS.out.below HB5.out).below hb), fun j v hv => ?_⟩
    rw [Nat.zero_add, (HR5.out.below hb HR5.out.lt).cell, hv]
  have HSUM := hid_in (rsum_V bs V HV p b off cap w5.drew ((HS.out.below HB5.out).below hbd) HPN.out (by have := HL.out; omega))
  have HBD := hid_in hbd
  have hu := Tryd.underlying39
  have hi : (Tryd.prog.info? 39).map (·.size) = some V.length := by rw [info39, HVL.out]
  clear hbd
  go_cut [65] (fun v w' => v = .bool false ∧ Below w5.heap.size w5 w')
  case first =>
    go_region_held3 (fun w' => (convert 30 9 (.slice p5 bs.length cap5)).run Tryd.prog w' = .ok (.string S) w' ∧ (convert 30 9 (.slice p bs.length cap)).run Tryd.prog w' = .ok (.string S) w' ∧ w'.rangeAt w3.heap.size 0 V) (first | (exact HK.out _ HB6.out) | (exact HK.out _ HBD.out) | (exact HK.out _ (Below.refl _ _))) (first | (go_at_call 14; refine HSUM.out.mono ?_; rintro e w6 ⟨rfl, hb6⟩; have HB6 := hid_in (HBD.out.trans (hb6.mono HBD.out.size)); clear hb6))
    all_goals
      go_wp2_with fail
      go_meet
      exact ⟨rfl, HB6.out⟩
  case rest =>
    obtain ⟨rfl, hb6⟩ := hcut
    have hr6 := HR5.out.below hb6 HR5.out.lt
    have HST6 := hid_in (HST5.out.below hb6)
    have HB6 := hid_in (HB5.out.trans (hb6.mono HB5.out.size))
    clear hb6 HK HSUM HBD HS5 HR5 hu hi HST5
    go_wp2_with (first | (refine wpList_load_Row rfl 39 _ rfl w3.heap.size rfl 39 _ hr6 _ Tryd.underlying39 rfl 32 info39 HVL.out ?_) | (go_at_call 22; refine (Spoil_arg HST6.out D HDL.out V HVD bs HMD.out at_ turn HC.out).mono ?_; rintro e w7 ⟨rfl, hb7⟩; have hr7 := hr6.below hb7 hr6.lt; have HST7 := hid_in (HST6.out.below hb7); have HB7 := hid_in (HB6.out.trans (hb7.mono HB6.out.size)); clear hb7 hr6 HST6) | (refine wpList_load_Row rfl 39 _ rfl w3.heap.size rfl 39 _ hr7 _ Tryd.underlying39 rfl 32 info39 HVL.out ?_) | (go_at_call 21; refine (Get_ok HST7.out (HTAB.out.below HB7.out HTAB.out.pos) D HDL.out V HVD bs HMD.out HD.out.symm (by have := HL.out; omega)).mono ?_; rintro e w8 ⟨p8, cap8, b8, rfl, hs8, hb8⟩; have HB8 := hid_in (HB7.out.trans (hb8.mono HB7.out.size)); have hc8 : (convert 30 9 (.slice p8 bs.length cap8)).run Tryd.prog w8 = .ok (.string S) w8 := (by rw [HSS.out]; exact conv_sl hs8); have hc9 : (convert 30 9 (.slice p bs.length cap)).run Tryd.prog w8 = .ok (.string S) w8 := (by rw [HSS.out]; exact conv_sl (HS.out.below HB8.out)); clear hb8 hr7 hs8 HST7))
    go_ret
    exact ⟨rfl, HB8.out⟩

set_option maxHeartbeats 8000000 in
set_option maxRecDepth 100000 in
theorem back_zero (w : World) (at_ turn : Int) (p : Option Addr) (bs : List Nat) (cap b off : Nat) (htab : Tab w) (hs : Sl w p bs cap b off) (hpn : p = none → bs.length = 0 ∧ cap = 0) (hl : bs.length ≤ 4096) (k1 : ¬ at_ < 0) (k3 : ¬ (bs.length : Int) ≤ at_) (k4 : turn = 0) :
    Calls Tryd.prog 4 #[.slice p bs.length cap, .int .i64 at_, .int .u8 turn] w fun e w' => e = .returned (.bool true) ∧ Below w.heap.size w w' := by
  have HC := hid_in (show at_ < 0 ∨ (bs.length : Int) ≤ at_ ∨ turn = 0 from Or.inr (Or.inr k4))
  have k5 : (turn == 0) = true := by simp [k4]
  clear k4
  have hz := zero39n
  obtain ⟨Z, HZ⟩ := zeros_hid
  rw [← HZ.out] at hz
  have HZL := hid_in (show Z.length = 32 by rw [HZ.out]; rfl)
  obtain ⟨D, HD⟩ : ∃ D, Hid (D = Sha.sum bs) := ⟨_, rfl⟩
  obtain ⟨V, HV⟩ : ∃ V, Hid (V = (Sha.sum bs).map u8v) := ⟨_, rfl⟩
  have HVD : Hid (V = D.map u8v) := by show V = _; rw [HV.out, HD.out]
  have HDL := hid_in (show D.length = 32 by rw [HD.out]; exact sum_length _)
  have HVL := hid_in (show V.length = 32 by rw [HV.out, List.length_map, sum_length])
  have HV1 := hid_in (show ∀ v ∈ V, v.oneCell' = true by rw [HV.out]; exact one_u8 _)
  obtain ⟨M, HM⟩ : ∃ M : List Nat → Option (List Nat), Hid (M = updM (fun _ => none) (Sha.sum bs) bs) := ⟨_, rfl⟩
  have HMD := hid_in (show M D = some bs by rw [HM.out, HD.out]; unfold updM; rw [if_pos rfl])
  have heq := neq39 D D HDL.out HDL.out V V HVD HVD true (by simp)
  have HTAB := hid_in htab
  have HS := hid_in hs
  have HPN := hid_in hpn
  have HL := hid_in hl
  have k2 : ¬ (4096 : Int) < (bs.length : Int) := by omega
  clear htab hs hpn hl
  go_enter Tryd.func4, Tryd.ntmps4
  go_wp2_with (first | (go_at_call 7; refine (awake_any w HTAB.out).mono ?_; rintro e w1 ⟨rfl, hb1⟩; have HB1 := hid_in hb1; clear hb1) | (go_at_call 9; refine (bnew_any w1 8192).mono ?_; rintro e w2 ⟨rfl, hst2, hb2⟩; obtain ⟨g, hg⟩ : ∃ g, w1.heap.size + 1 = g := ⟨_, rfl⟩; obtain ⟨m, hm⟩ : ∃ m, w1.heap.size = m := ⟨_, rfl⟩; rw [hg] at hst2 ⊢; rw [hm] at hst2; have HGM := hid_in (show w.heap.size ≤ g ∧ w.heap.size ≤ m by have := HB1.out.size; omega); have HST2 := hid_in hst2; have HB2 := hid_in (HB1.out.trans (hb2.mono HB1.out.size)); clear hst2 hb2 hg hm) | (go_at_call 15; refine (Put_ok HST2.out (HTAB.out.below HB2.out HTAB.out.pos) bs V HV p b off cap (HS.out.below HB2.out) HPN.out HL.out (by decide) (by decide) (by decide) (bs.length : Int) rfl (by have := HL.out; omega) 1 rfl).mono ?_; rintro e w3 ⟨rfl, hst3, hk3⟩; rw [← HM.out] at hst3; rw [show ((0 : Int) + (bs.length : Int)) = (bs.length : Int) by omega, show max (8192 : Int) 0 = 8192 by decide] at hst3; have HLT3 := hid_in (show g < w3.heap.size ∧ m < w3.heap.size by exact ⟨hst3.glt, hst3.mlt⟩); have HST3 := hid_in hst3; have HB3 := hid_in (HB2.out.trans (hk3.below HB2.out.size HGM.out.1 HGM.out.2)); clear hst3 hk3 HST2) | (refine wpList_store_new rfl _ _ rfl Z V HZL HVL HV1 rfl rfl ?_; intro w4 hr4 hb4; have HST4 := hid_in (HST3.out.below hb4); have HB4 := hid_in (HB3.out.trans (hb4.mono HB3.out.size)); clear hb4 HST3) | (refine wpList_load_Row rfl 39 _ rfl w3.heap.size rfl 39 _ hr4 _ Tryd.underlying39 rfl 32 info39 HVL.out ?_) | (go_at_call 21; refine (Get_ok HST4.out (HTAB.out.below HB4.out HTAB.out.pos) D HDL.out V HVD bs HMD.out HD.out.symm (by have := HL.out; omega)).mono ?_; rintro e w5 ⟨p5, cap5, b5, rfl, hs5, hb5⟩; have HR5 := hid_in (hr4.below hb5 hr4.lt); have HST5 := hid_in (HST4.out.below hb5); have HB5 := hid_in (HB4.out.trans (hb5.mono HB4.out.size)); have HS5 := hid_in hs5; clear hb5 hr4 hs5 HST4))
  obtain ⟨S, HSS⟩ : ∃ S, Hid (S = str bs) := ⟨_, rfl⟩
  have hbd : Below w5.heap.size w5 w5.drew := below_drewN (Below.refl w5.heap.size w5) 1
  have HK : Hid (∀ w', Below w5.heap.size w5 w' → (convert 30 9 (.slice p5 bs.length cap5)).run Tryd.prog w' = .ok (.string S) w' ∧ (convert 30 9 (.slice p bs.length cap)).run Tryd.prog w' = .ok (.string S) w' ∧ w'.rangeAt w3.heap.size 0 V) := fun w' hb => by
    refine ⟨by rw [HSS.out]; exact conv_sl (HS5.out.below hb), by rw [HSS.out]; exact conv_sl ((HS.out.below HB5.out).below hb), fun j v hv => ?_⟩
    rw [Nat.zero_add, (HR5.out.below hb HR5.out.lt).cell, hv]
  have HSUM := hid_in (rsum_V bs V HV p b off cap w5.drew ((HS.out.below HB5.out).below hbd) HPN.out (by have := HL.out; omega))
  have HBD := hid_in hbd
  have hu := Tryd.underlying39
  have hi : (Tryd.prog.info? 39).map (·.size) = some V.length := by rw [info39, HVL.out]
  clear hbd
  go_cut [65] (fun v w' => v = .bool false ∧ Below w5.heap.size w5 w')
  case first =>
    go_region_held3 (fun w' => (convert 30 9 (.slice p5 bs.length cap5)).run Tryd.prog w' = .ok (.string S) w' ∧ (convert 30 9 (.slice p bs.length cap)).run Tryd.prog w' = .ok (.string S) w' ∧ w'.rangeAt w3.heap.size 0 V) (first | (exact HK.out _ HB6.out) | (exact HK.out _ HBD.out) | (exact HK.out _ (Below.refl _ _))) (first | (go_at_call 14; refine HSUM.out.mono ?_; rintro e w6 ⟨rfl, hb6⟩; have HB6 := hid_in (HBD.out.trans (hb6.mono HBD.out.size)); clear hb6))
    all_goals
      go_wp2_with fail
      go_meet
      exact ⟨rfl, HB6.out⟩
  case rest =>
    obtain ⟨rfl, hb6⟩ := hcut
    have hr6 := HR5.out.below hb6 HR5.out.lt
    have HST6 := hid_in (HST5.out.below hb6)
    have HB6 := hid_in (HB5.out.trans (hb6.mono HB5.out.size))
    clear hb6 HK HSUM HBD HS5 HR5 hu hi HST5
    go_wp2_with (first | (refine wpList_load_Row rfl 39 _ rfl w3.heap.size rfl 39 _ hr6 _ Tryd.underlying39 rfl 32 info39 HVL.out ?_) | (go_at_call 22; refine (Spoil_arg HST6.out D HDL.out V HVD bs HMD.out at_ turn HC.out).mono ?_; rintro e w7 ⟨rfl, hb7⟩; have hr7 := hr6.below hb7 hr6.lt; have HST7 := hid_in (HST6.out.below hb7); have HB7 := hid_in (HB6.out.trans (hb7.mono HB6.out.size)); clear hb7 hr6 HST6) | (refine wpList_load_Row rfl 39 _ rfl w3.heap.size rfl 39 _ hr7 _ Tryd.underlying39 rfl 32 info39 HVL.out ?_) | (go_at_call 21; refine (Get_ok HST7.out (HTAB.out.below HB7.out HTAB.out.pos) D HDL.out V HVD bs HMD.out HD.out.symm (by have := HL.out; omega)).mono ?_; rintro e w8 ⟨p8, cap8, b8, rfl, hs8, hb8⟩; have HB8 := hid_in (HB7.out.trans (hb8.mono HB7.out.size)); have hc8 : (convert 30 9 (.slice p8 bs.length cap8)).run Tryd.prog w8 = .ok (.string S) w8 := (by rw [HSS.out]; exact conv_sl hs8); have hc9 : (convert 30 9 (.slice p bs.length cap)).run Tryd.prog w8 = .ok (.string S) w8 := (by rw [HSS.out]; exact conv_sl (HS.out.below HB8.out)); clear hb8 hr7 hs8 HST7))
    go_ret
    exact ⟨rfl, HB8.out⟩

end Go.Proofs.YtokjbmpiekadaaaDoor
