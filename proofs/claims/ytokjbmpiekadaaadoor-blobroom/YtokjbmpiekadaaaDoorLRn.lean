/-
  The walk of the statement BlobRoom.
-/
import Derived.Test.YtokjbmpiekadaaaDoorPt
import Derived.Deep.RegionHeld3
namespace Go.Proofs.YtokjbmpiekadaaaDoor
open Go.RowKit
attribute [local go_sem ↓] run_load39 quiet_load39 wp_load39 Go.wp_at_zero Go.wp_at_succ
attribute [local go_sem] Is39_drewN rowOf_drewN Is39_drew rowOf_drew ptrB_pointer

set_option maxHeartbeats 8000000 in
set_option maxRecDepth 100000 in
theorem room_neg (w : World) (q0 : Int) (hq0 : q0 < 0) (a : Option Addr) (pb po C : Nat) (ps : List Part) (htab : Tab w) (hps : Parts w pb po ps) (hpa : 0 < ps.length → a = some ⟨pb, po, none⟩) (hL : ps.length ≤ 9223372036854775807) (hre : ∀ x ∈ ps, x.bs.length ≤ 140737488351232) :
    Calls Tryd.prog 5 #[.int .i64 q0, .slice a ps.length C] w fun e w' => e = .returned (.bool true) ∧ Below w.heap.size w w' := by
  have hz := zero39n
  obtain ⟨Z, HZ⟩ := zeros_hid
  rw [← HZ.out] at hz
  have HZL := hid_in (show Z.length = 32 by rw [HZ.out]; rfl)
  have HZ1 := hid_in (show ∀ v ∈ Z, v.oneCell' = true by rw [HZ.out]; exact one_u8 _)
  have HTAB := hid_in htab
  have HPS := hid_in hps
  have HRE := hid_in hre
  obtain ⟨L, hLL⟩ : ∃ L, L = ps.length := ⟨_, rfl⟩
  rw [← hLL] at hL hpa ⊢
  have HLL := hid_in hLL
  clear htab hps hre hLL
  go_enter Tryd.func5, Tryd.ntmps5
  go_wp2_with (first | (go_at_call 7; refine (awake_any w HTAB.out).mono ?_; rintro e w1 ⟨rfl, hb1⟩) | (go_at_call 9; refine (bnew_any w1 q0).mono ?_; rintro e w2 ⟨rfl, hst2, hb2⟩))
  have hq : max q0 0 = 0 := by omega
  rw [hq] at hst2
  obtain ⟨g, hg⟩ : ∃ g, w1.heap.size + 1 = g := ⟨_, rfl⟩
  obtain ⟨m, hm⟩ : ∃ m, w1.heap.size = m := ⟨_, rfl⟩
  rw [hg] at hst2 ⊢
  rw [hm] at hst2
  have HGM := hid_in (show w.heap.size ≤ g ∧ w.heap.size ≤ m by have := hb1.size; omega)
  have hbw2 : Below w.heap.size w w2 := hb1.trans (hb2.mono hb1.size)
  clear hb1 hb2 hg hm hq
  go_loopw [6] (fun v w' => ∃ (k n : Nat) (M : List Nat → Option (List Nat)) (u : Int), k ≤ L ∧ v = .int .i64 (k : Int) ∧ 0 ≤ u ∧ u ≤ (0 : Int) ∧ Hid (St w' g m M n (0 : Int) u) ∧ Hid (Below w.heap.size w w')) (fun v _ => L - (intOf v).toNat)
  case atStart => exact ⟨0, 0, fun _ => none, 0, by omega, rfl, by omega, by omega, hst2, hbw2⟩
  case round =>
    clear hst2 hbw2
    obtain ⟨k, n, M, u, hk, rfl, hu0, huq, HST, HB⟩ := hrel
    by_cases hlt : k < L
    · by_cases h60 : (k : Int) < 60
      · obtain rfl := hpa (by omega)
        obtain ⟨⟨p, bs, cap, b, off⟩, hx⟩ : ∃ x, ps[k]? = some x := ⟨ps[k]'(by have := HLL.out; omega), List.getElem?_eq_getElem _⟩
        have hmem := List.mem_of_getElem? hx
        have HSL : Hid (∀ w', Below w.heap.size w w' → Sl w' p bs cap b off) := fun w' hb => (HPS.out.ok _ hmem).below hb
        have HCL : Hid (∀ w', Below w.heap.size w w' → w'.cell? ⟨pb, po + k, none⟩ = some (.slice p bs.length cap)) := fun w' hb => (HPS.out.below hb).at_ k _ hx
        have HPN : Hid (p = none → bs.length = 0 ∧ cap = 0) := HPS.out.no _ hmem
        have hre := HRE.out _ hmem
        simp only at hre
        have HRE2 := hid_in hre
        clear hx hmem hre
        obtain ⟨V, HV⟩ : ∃ V, Hid (V = (Sha.sum bs).map u8v) := ⟨_, rfl⟩
        have HVL := hid_in (show V.length = 32 by rw [HV.out, List.length_map, sum_length])
        have HV1 := hid_in (show ∀ v ∈ V, v.oneCell' = true by rw [HV.out]; exact one_u8 _)
        have c0 := HCL.out wr HB.out
        have k1 : (k : Int) < (L : Int) := by omega
        have HQ1 := hid_in (show (0 : Int) ≤ 9223372036854775807 by omega)
        by_cases hl : 4096 < bs.length
        · have k2 : (4096 : Int) < (bs.length : Int) := by omega
          have HLG := hid_in hl
          clear hl
          go_wp2_with (first | (go_at_call 23; refine (bytes_any HST6.out).mono ?_; rintro e w7 ⟨rfl, hw⟩; obtain rfl := hw.symm) | (go_at_call 23; refine (bytes_any HST.out).mono ?_; rintro e w3 ⟨rfl, hw⟩; obtain rfl := hw.symm) | (go_at_call 14; refine (rsum_V bs V HV p b off cap wr (HSL.out _ HB.out) HPN.out HRE2.out).mono ?_; rintro e w3 ⟨rfl, hb3⟩; have HST3 := hid_in (HST.out.below hb3); have HB3 := hid_in (HB.out.trans (hb3.mono HB.out.size)); clear hb3) | (go_at_call 17; refine (has_any HST3.out (Sha.sum bs) (sum_length bs) V HV).mono ?_; rintro e w4 ⟨rfl, hb4⟩; have HST4 := hid_in (HST3.out.below hb4); have HB4 := hid_in (HB3.out.trans (hb4.mono HB3.out.size)); have c4 := HCL.out w4 HB4.out; clear hb4 HST3 HB3) | (go_at_call 15; refine (Put_long w4 g p bs.length cap Z HZ HLG.out).mono ?_; rintro e w5 ⟨rfl, hb5⟩; have HST5 := hid_in (HST4.out.below hb5); have HB5 := hid_in (HB4.out.trans (hb5.mono HB4.out.size)); clear hb5 HST4 HB4 c4) | (refine wpList_store_new rfl _ _ rfl Z Z HZL HZL HZ1 rfl rfl ?_; intro w6 hr6 hb6; have HST6 := hid_in (HST5.out.below hb6); have HB6 := hid_in (HB5.out.trans (hb6.mono HB5.out.size)); have c6 := HCL.out w6 HB6.out; clear hr6 hb6 HST5 HB5))
          exact ⟨⟨k + 1, n, M, u, by omega, by simp, by omega, by omega, HST6, HB6⟩, by simp [intOf]; omega⟩
        · cases hM : M (Sha.sum bs) with
          | some cs =>
            have k2 : (bs.length : Int) ≤ 4096 := by omega
            have HLE := hid_in (show bs.length ≤ 4096 by omega)
            have HU := hid_in (show 0 ≤ u ∧ u ≤ (0 : Int) by omega)
            clear hl
            have HM := hid_in hM
            have HN := hid_in (show (0 : Int) = if (M (Sha.sum bs)).isSome then 0 else (bs.length : Int) by rw [hM]; rfl)
            have HNN := hid_in (show n = if (M (Sha.sum bs)).isSome then n else n + 1 by rw [hM]; rfl)
            have HFIT := hid_in (show (0 : Int) ≤ (0 : Int) - u by omega)
            clear hM
            go_wp2_with (first | (go_at_call 23; refine (bytes_any HST6.out).mono ?_; rintro e w7 ⟨rfl, hw⟩; obtain rfl := hw.symm) | (go_at_call 23; refine (bytes_any HST.out).mono ?_; rintro e w3 ⟨rfl, hw⟩; obtain rfl := hw.symm) | (go_at_call 14; refine (rsum_V bs V HV p b off cap wr (HSL.out _ HB.out) HPN.out HRE2.out).mono ?_; rintro e w3 ⟨rfl, hb3⟩; have HST3 := hid_in (HST.out.below hb3); have HB3 := hid_in (HB.out.trans (hb3.mono HB.out.size)); clear hb3) | (go_at_call 17; refine (has_any HST3.out (Sha.sum bs) (sum_length bs) V HV).mono ?_; rw [HM.out]; rintro e w4 ⟨rfl, hb4⟩; have HST4 := hid_in (HST3.out.below hb4); have HB4 := hid_in (HB3.out.trans (hb4.mono HB3.out.size)); have c4 := HCL.out w4 HB4.out; clear hb4 HST3 HB3) | (go_at_call 15; refine (Put_ok HST4.out (HTAB.out.below HB4.out HTAB.out.pos) bs V HV p b off cap (HSL.out _ HB4.out) HPN.out HLE.out HU.out.1 HU.out.2 HQ1.out 0 HN HFIT.out n HNN).mono ?_; rintro e w5 ⟨rfl, hst5, hk5⟩; rw [Int.add_zero] at hst5; have HST5 := hid_in hst5; have HB5 := hid_in (HB4.out.trans (hk5.below HB4.out.size HGM.out.1 HGM.out.2)); clear hst5 hk5 HST4 HB4 c4) | (refine wpList_store_new rfl _ _ rfl Z V HZL HVL HV1 rfl rfl ?_; intro w6 hr6 hb6; have HST6 := hid_in (HST5.out.below hb6); have HB6 := hid_in (HB5.out.trans (hb6.mono HB5.out.size)); have c6 := HCL.out w6 HB6.out; clear hr6 hb6 HST5 HB5))
            exact ⟨⟨k + 1, n, _, u, by omega, by simp, by omega, by omega, HST6, HB6⟩, by simp [intOf]; omega⟩
          | none =>
            by_cases hf : (0 : Int) - u < (bs.length : Int)
            · have hf' : ¬ (bs.length : Int) ≤ (0 : Int) - u := by omega
              have k2 : (bs.length : Int) ≤ 4096 := by omega
              have HLE := hid_in (show bs.length ≤ 4096 by omega)
              have HU := hid_in (show 0 ≤ u ∧ u ≤ (0 : Int) by omega)
              clear hl
              have HM := hid_in hM
              have HF := hid_in (show (0 : Int) - u < if (M (Sha.sum bs)).isSome then 0 else (bs.length : Int) by rw [hM]; simpa using hf)
              clear hM
              go_wp2_with (first | (go_at_call 23; refine (bytes_any HST6.out).mono ?_; rintro e w7 ⟨rfl, hw⟩; obtain rfl := hw.symm) | (go_at_call 23; refine (bytes_any HST.out).mono ?_; rintro e w3 ⟨rfl, hw⟩; obtain rfl := hw.symm) | (go_at_call 14; refine (rsum_V bs V HV p b off cap wr (HSL.out _ HB.out) HPN.out HRE2.out).mono ?_; rintro e w3 ⟨rfl, hb3⟩; have HST3 := hid_in (HST.out.below hb3); have HB3 := hid_in (HB.out.trans (hb3.mono HB.out.size)); clear hb3) | (go_at_call 17; refine (has_any HST3.out (Sha.sum bs) (sum_length bs) V HV).mono ?_; rw [HM.out]; rintro e w4 ⟨rfl, hb4⟩; have HST4 := hid_in (HST3.out.below hb4); have HB4 := hid_in (HB3.out.trans (hb4.mono HB3.out.size)); have c4 := HCL.out w4 HB4.out; clear hb4 HST3 HB3) | (go_at_call 15; refine (Put_full HST4.out (HTAB.out.below HB4.out HTAB.out.pos) bs p b off cap (HSL.out _ HB4.out) HLE.out HU.out.1 HU.out.2 HQ1.out HF.out Z HZ).mono ?_; rintro e w5 ⟨rfl, hb5⟩; have HST5 := hid_in (HST4.out.below hb5); have HB5 := hid_in (HB4.out.trans (hb5.mono HB4.out.size)); clear hb5 HST4 HB4 c4) | (refine wpList_store_new rfl _ _ rfl Z Z HZL HZL HZ1 rfl rfl ?_; intro w6 hr6 hb6; have HST6 := hid_in (HST5.out.below hb6); have HB6 := hid_in (HB5.out.trans (hb6.mono HB5.out.size)); have c6 := HCL.out w6 HB6.out; clear hr6 hb6 HST5 HB5))
              exact ⟨⟨k + 1, n, M, u, by omega, by simp, by omega, by omega, HST6, HB6⟩, by simp [intOf]; omega⟩
            · have hf' : (bs.length : Int) ≤ (0 : Int) - u := by omega
              have k2 : (bs.length : Int) ≤ 4096 := by omega
              have HLE := hid_in (show bs.length ≤ 4096 by omega)
              have HU := hid_in (show 0 ≤ u ∧ u ≤ (0 : Int) by omega)
              clear hl
              have HM := hid_in hM
              have HN := hid_in (show (bs.length : Int) = if (M (Sha.sum bs)).isSome then 0 else (bs.length : Int) by rw [hM]; rfl)
              have HNN := hid_in (show n + 1 = if (M (Sha.sum bs)).isSome then n else n + 1 by rw [hM]; rfl)
              have HFIT := hid_in (show (bs.length : Int) ≤ (0 : Int) - u by omega)
              have HM2 := hid_in (show delM (updM M (Sha.sum bs) bs) (Sha.sum bs) (Sha.sum bs) = none by unfold delM; rw [if_pos rfl])
              have HN2 := hid_in (show (bs.length : Int) = if (delM (updM M (Sha.sum bs) bs) (Sha.sum bs) (Sha.sum bs)).isSome then 0 else (bs.length : Int) by rw [HM2.out]; rfl)
              have HNN2 := hid_in (show n + 1 = if (delM (updM M (Sha.sum bs) bs) (Sha.sum bs) (Sha.sum bs)).isSome then n else n + 1 by rw [HM2.out]; rfl)
              have HMS := hid_in (show updM M (Sha.sum bs) bs (Sha.sum bs) = some bs by unfold updM; rw [if_pos rfl])
              have HD1 := hid_in (show (bs.length : Int) ≤ u + (bs.length : Int) by omega)
              have HD2 := hid_in (show u + (bs.length : Int) ≤ 9223372036854775807 by omega)
              clear hM
              go_wp2_with (first | (go_at_call 23; refine (bytes_any HST6.out).mono ?_; rintro e w7 ⟨rfl, hw⟩; obtain rfl := hw.symm) | (go_at_call 23; refine (bytes_any HST.out).mono ?_; rintro e w3 ⟨rfl, hw⟩; obtain rfl := hw.symm) | (go_at_call 14; refine (rsum_V bs V HV p b off cap wr (HSL.out _ HB.out) HPN.out HRE2.out).mono ?_; rintro e w3 ⟨rfl, hb3⟩; have HST3 := hid_in (HST.out.below hb3); have HB3 := hid_in (HB.out.trans (hb3.mono HB.out.size)); clear hb3) | (go_at_call 17; refine (has_any HST3.out (Sha.sum bs) (sum_length bs) V HV).mono ?_; rw [HM.out]; rintro e w4 ⟨rfl, hb4⟩; have HST4 := hid_in (HST3.out.below hb4); have HB4 := hid_in (HB3.out.trans (hb4.mono HB3.out.size)); have c4 := HCL.out w4 HB4.out; clear hb4 HST3 HB3) | (go_at_call 15; refine (Put_ok HST4.out (HTAB.out.below HB4.out HTAB.out.pos) bs V HV p b off cap (HSL.out _ HB4.out) HPN.out HLE.out HU.out.1 HU.out.2 HQ1.out (bs.length : Int) HN HFIT.out (n + 1) HNN).mono ?_; rintro e w5 ⟨rfl, hst5, hk5⟩; have HLT5 := hid_in (show w5.heap.size ≠ g ∧ w5.heap.size ≠ m by have := hst5.glt; have := hst5.mlt; omega); have HST5 := hid_in hst5; have HB5 := hid_in (HB4.out.trans (hk5.below HB4.out.size HGM.out.1 HGM.out.2)); clear hst5 hk5 HST4 HB4 c4) | (refine wpList_store_new rfl _ _ rfl Z V HZL HVL HV1 rfl rfl ?_; intro w6 hr6 hb6; have HST6 := hid_in (HST5.out.below hb6); have HB6 := hid_in (HB5.out.trans (hb6.mono HB5.out.size)); have c6 := HCL.out w6 HB6.out; clear hb6 HST5 HB5))
              have HST6d : Hid (St w6.drew g m (updM M (Sha.sum bs) bs) (n + 1) (0 : Int) (u + (bs.length : Int))) := HST6.out.drewN 1
              have HR6 := hid_in hr6
              have hI6 : Is39 w6 w5.heap.size := ⟨V, hr6, HVL.out⟩
              have hR6 := rowOf_row hr6
              have hI6d : Is39 w6.drew w5.heap.size := hI6
              have hR6d : rowOf w6.drew w5.heap.size = V := hR6
              clear hr6
              have hwa := wrap_a (u + (bs.length : Int)) (by omega) (by omega)
              have hwb := wrap_b (u + (bs.length : Int)) (by omega) (by omega)
              go_region_with (first | (go_at_call 23; refine (bytes_any HST8.out).mono ?_; rintro e w7 ⟨rfl, hw⟩; obtain rfl := hw.symm) | (go_at_call 23; refine (bytes_any HST6d.out).mono ?_; rintro e w7 ⟨rfl, hw⟩; obtain rfl := hw.symm) | (go_at_call 13; refine (Drop_ok HST6d.out (Sha.sum bs) (sum_length bs) V HV bs HMS.out HD1.out HD2.out).mono ?_; rintro e w8 ⟨rfl, hst8, hk8⟩; rw [show u + (bs.length : Int) - (bs.length : Int) = u by omega, show n + 1 - 1 = n by omega] at hst8; have hr8 := hk8.row HR6.out.drew HLT5.out.1 HLT5.out.2; have HST8 := hid_in hst8; have HB8 := hid_in (HB6.out.drew.trans (hk8.below HB6.out.size HGM.out.1 HGM.out.2)); have c8 := HCL.out w8 HB8.out; have hI8 : Is39 w8 w5.heap.size := ⟨V, hr8, HVL.out⟩; have hR8 := rowOf_row hr8; have HR8 := hid_in hr8; clear hst8 hk8 hr8) | (go_at_call 17; refine (has_any HST8.out (Sha.sum bs) (sum_length bs) V HV).mono ?_; rw [HM2.out]; rintro e w9 ⟨rfl, hb9⟩; have HST9 := hid_in (HST8.out.below hb9); have HB9 := hid_in (HB8.out.trans (hb9.mono HB8.out.size)); have c9 := HCL.out w9 HB9.out; have hr9 := HR8.out.below hb9 HR8.out.lt; have hI9 : Is39 w9 w5.heap.size := ⟨V, hr9, HVL.out⟩; have hR9 := rowOf_row hr9; clear hb9 hr9))
              all_goals
                go_wp2_with (go_at_call 15; refine (Put_ok HST9.out (HTAB.out.below HB9.out HTAB.out.pos) bs V HV p b off cap (HSL.out _ HB9.out) HPN.out HLE.out HU.out.1 HU.out.2 HQ1.out (bs.length : Int) HN2 HFIT.out (n + 1) HNN2).mono ?_; rintro e w10 ⟨rfl, hst10, hk10⟩; have HST10 := hid_in hst10; have HB10 := hid_in (HB9.out.trans (hk10.below HB9.out.size HGM.out.1 HGM.out.2)); clear hst10 hk10 HST9 HB9 c9)
                exact ⟨⟨k + 1, n + 1, _, u + (bs.length : Int), by omega, by simp, by omega, by omega, HST10, HB10⟩, by simp [intOf]; omega⟩
      · have hge : ¬ (k : Int) < 60 := h60
        have k1 : (k : Int) < (L : Int) := by omega
        clear hpa
        go_wp2
        go_ret
        exact ⟨rfl, HB.out⟩
    · have k1 : ¬ (k : Int) < (L : Int) := by omega
      clear hpa
      go_wp2
      go_ret
      exact ⟨rfl, HB.out⟩
end Go.Proofs.YtokjbmpiekadaaaDoor
