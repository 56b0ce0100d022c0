/-
  The statements' own first question: a store of three bytes takes ab, not cd, and has ab.
-/
import Derived.Test.YtokjbmpiekadaaaDoorK4
import Derived.Test.YtokjbmpiekadaaaDoorK13
import Derived.Test.YtokjbmpiekadaaaDoorK14
import Derived.Lib.SlBytesConst
namespace Go.Proofs.YtokjbmpiekadaaaDoor
open Go.RowKit

set_option maxRecDepth 100000 in
theorem sum_ab_cd : Sha.sum [99, 100] ≠ Sha.sum [97, 98] := by decide +kernel
theorem sl_two (w : World) (x y cap : Nat) (hx : x < 256) (hy : y < 256) (hc : 2 ≤ cap) (hc2 : cap ≤ 9223372036854775807) (fr : Nat × Nat) : Sl (w.alloc (.cells #[.int .u8 (x : Int), .int .u8 (y : Int)] 5 fr)) (some ⟨w.heap.size, 0, none⟩) [x, y] cap w.heap.size 0 := by
  refine ⟨by intro z hz; simp at hz; omega, hc, hc2, fun _ => rfl, fun j hj => ?_⟩
  have : j = 0 ∨ j = 1 := by simp at hj; omega
  rcases this with rfl | rfl <;> (rw [cell_of_row _ _ _ _ _ _ (heap_alloc_new w _)]; rfl)
set_option maxHeartbeats 1000000 in
set_option maxRecDepth 100000 in
theorem awake_any (w : World) (htab : Tab w) : Calls Tryd.prog 7 #[] w fun e w' => e = .returned (.bool true) ∧ Below w.heap.size w w' := by
  have kc := fun (w : World) (C : Array Value) (n c : Nat) => Lib.run_convert_bytes_const (P := Tryd.prog) w 30 5 C n c Tryd.underlying30 Tryd.underlying5
  go_enter Tryd.func7, Tryd.ntmps7
  go_wp2_with fail
  refine (bnew_any w 3).mono ?_
  rintro e w1 ⟨rfl, hst1, hb1⟩
  have htab1 := htab.below hb1 htab.pos
  obtain ⟨g, hg⟩ : ∃ g, w.heap.size + 1 = g := ⟨_, rfl⟩
  obtain ⟨m, hm⟩ : ∃ m, w.heap.size = m := ⟨_, rfl⟩
  have HG := hid_in hg
  have HM := hid_in hm
  rw [hg] at hst1 ⊢
  rw [hm] at hst1
  clear hg hm
  obtain ⟨D, HD⟩ : ∃ D, Hid (D = Sha.sum [97, 98]) := ⟨_, rfl⟩
  obtain ⟨V, HV⟩ : ∃ V, Hid (V = (Sha.sum [97, 98]).map u8v) := ⟨_, rfl⟩
  have HVD : Hid (V = D.map u8v) := by show V = _; rw [HV.out, HD.out]
  have HDL := hid_in (show D.length = 32 by rw [HD.out]; exact sum_length _)
  have hb1' : Below w1.heap.size w1 (w1.alloc (.cells #[.int .u8 97, .int .u8 98] 5 (2, 3))) := (Below.refl _ _).alloc (Nat.le_refl _) _
  have HPUT := hid_in (Put_ok (hst1.below hb1') (htab1.below hb1' htab1.pos) [97, 98] V HV (some ⟨w1.heap.size, 0, none⟩) w1.heap.size 0 2 (sl_two w1 97 98 2 (by decide) (by decide) (by decide) (by decide) (2, 3)) (fun h => by cases h) (by decide) (by decide) (by decide) (by decide) 2 rfl (by decide) 1 rfl)
  have HB1 := hid_in (hb1.trans (hb1'.mono hb1.size))
  have hz := zero39n
  obtain ⟨Z, HZ⟩ := zeros_hid
  rw [← HZ.out] at hz
  have HZL := hid_in (show Z.length = 32 by rw [HZ.out]; rfl)
  have HVL := hid_in (show V.length = 32 by rw [HV.out, List.length_map, sum_length])
  have HV1 := hid_in (show ∀ v ∈ V, v.oneCell' = true by rw [HV.out]; exact one_u8 _)
  have HTAB := hid_in htab
  have HGL := hid_in hst1.glt
  clear hst1 hb1 hb1' htab htab1
  go_wp2_with (first | (go_at_call 15; refine HPUT.out.mono ?_; rintro e w2 ⟨rfl, hst2, hk2⟩; have HST2 := hid_in hst2; have HK2 := hid_in hk2; clear hst2 hk2 HPUT) | (refine wpList_store_new rfl _ _ rfl Z V HZL HVL HV1 rfl rfl ?_; intro w3 hr3 hb3; have HR3 := hid_in hr3; have HB3 := hid_in hb3; clear hr3 hb3))
  have hst3 := HST2.out.below HB3.out
  have hb3' : Below w3.heap.size w3 (w3.alloc (.cells #[.int .u8 99, .int .u8 100] 5 (2, 3))) := (Below.refl _ _).alloc (Nat.le_refl _) _
  have hgm : w.heap.size ≤ g ∧ w.heap.size ≤ m := by have := HG.out; have := HM.out; omega
  have hbw3 : Below w.heap.size w w3 := HB1.out.trans ((HK2.out.below HB1.out.size hgm.1 hgm.2).trans (HB3.out.mono (Nat.le_trans HB1.out.size HK2.out.size)))
  have htab3 := HTAB.out.below hbw3 HTAB.out.pos
  have HPUT := hid_in (Put_full (hst3.below hb3') (htab3.below hb3' htab3.pos) [99, 100] (some ⟨w3.heap.size, 0, none⟩) w3.heap.size 0 2 (sl_two w3 99 100 2 (by decide) (by decide) (by decide) (by decide) (2, 3)) (by decide) (by decide) (by decide) (by decide) (by unfold updM; rw [if_neg sum_ab_cd]; decide) Z HZ)
  have HST3 := hid_in hst3
  have HB3' := hid_in hb3'
  have HBW3 := hid_in hbw3
  have HZ1 := hid_in (show ∀ v ∈ Z, v.oneCell' = true by rw [HZ.out]; exact one_u8 _)
  clear hst3 hb3' hbw3 htab3 hgm
  go_wp2_with (first | (go_at_call 15; refine HPUT.out.mono ?_; rintro e w4 ⟨rfl, hb4⟩; have HB4 := hid_in hb4; clear hb4 HPUT) | (refine wpList_store_new rfl _ _ rfl Z Z HZL HZL HZ1 rfl rfl ?_; intro w5 hr5 hb5; have HB35 : Hid (Below w3.heap.size w3 w5) := HB3'.out.trans ((HB4.out.mono HB3'.out.size).trans (hb5.mono (Nat.le_trans HB3'.out.size HB4.out.size))); have hr5' := HR3.out.below HB35.out HR3.out.lt; have HST5 := hid_in (HST3.out.below HB35.out); have HBW5 := hid_in (HBW3.out.trans (HB35.out.mono HBW3.out.size)); clear hr5 hb5) | (refine wpList_load_Row rfl 39 _ rfl w2.heap.size rfl 39 _ hr5' _ Tryd.underlying39 rfl 32 info39 HVL.out ?_) | (go_at_call 21; refine (Get_ok HST5.out (HTAB.out.below HBW5.out HTAB.out.pos) D HDL.out V HVD [97, 98] (by rw [HD.out]; unfold updM; rw [if_pos rfl]) HD.out.symm (by decide)).mono ?_; rintro e w6 ⟨p6, cap6, b6, rfl, hs6, hb6⟩; have hst6 := HST5.out.below hb6; have hcv : (convert 30 9 (.slice p6 2 cap6)).run Tryd.prog w6 = .ok (.string { data := #[97, 98] }) w6 := conv_sl hs6; have hby := hid_in (bytes_any hst6); have hct := hid_in (count_any hst6); have HBW6 := hid_in (HBW5.out.trans (hb6.mono HBW5.out.size)); clear hst6 hs6 hb6 hr5') | (go_at_call 23; refine hby.out.mono ?_; rintro e w7 ⟨rfl, hw⟩; obtain rfl := hw.symm) | (go_at_call 20; refine hct.out.mono ?_; rintro e w7 ⟨rfl, hw⟩; obtain rfl := hw.symm))
  go_ret
  exact ⟨rfl, HBW6.out⟩
end Go.Proofs.YtokjbmpiekadaaaDoor
