/-
  The walk of UpperRefused, for scripts of more than 60 steps.
-/
import Derived.Laws.CopyOwn
import Derived.Deep.RegionLaw
import Derived.Deep.DrawnRows
import Derived.Laws.Tables
import Derived.Deep.CutRange
import Derived.Test.YtglfeocfhlmloaaU00
import Derived.Test.YtglfeocfhlmloaaU01
import Derived.Test.YtglfeocfhlmloaaU02
import Derived.Test.YtglfeocfhlmloaaU03
import Derived.Test.YtglfeocfhlmloaaU04
import Derived.Test.YtglfeocfhlmloaaU05
import Derived.Test.YtglfeocfhlmloaaU06
import Derived.Test.YtglfeocfhlmloaaU07
import Derived.Test.YtglfeocfhlmloaaU08
import Derived.Test.YtglfeocfhlmloaaU09
import Derived.Test.YtglfeocfhlmloaaU10
import Derived.Test.YtglfeocfhlmloaaU11
import Derived.Test.YtglfeocfhlmloaaU12
import Derived.Test.YtglfeocfhlmloaaU13
import Derived.Test.YtglfeocfhlmloaaU14
import Derived.Test.YtglfeocfhlmloaaU15
import Derived.Test.YtglfeocfhlmloaaU16
import Derived.Test.YtglfeocfhlmloaaU17
import Derived.Test.YtglfeocfhlmloaaU18
import Derived.Test.YtglfeocfhlmloaaU19
import Derived.Test.YtglfeocfhlmloaaU20
import Derived.Test.YtglfeocfhlmloaaU21
import Derived.Test.YtglfeocfhlmloaaU22
import Derived.Test.YtglfeocfhlmloaaU23
import Derived.Test.YtglfeocfhlmloaaU24
import Derived.Test.YtglfeocfhlmloaaU25
import Derived.Test.YtglfeocfhlmloaaU26
import Derived.Test.YtglfeocfhlmloaaU27
import Derived.Test.YtglfeocfhlmloaaU28
namespace Go.Proofs.Ytglfeocfhlmloaa.Up
open Go.RowKit
open Vp (Str B bl Val cmpL parseS showS withinS IsPath checkS)
open Nd (take_put Row wp_world post_Row2 grownBy_setCell below_of_grown Sl u8v str)
/-- between two rounds -/
def RfRlong (w : World) (g m : Nat) (i : Nat) (W : World) : Prop := ∃ L, Fs W g m 9 99 L ∧ L.length ≤ i ∧ OkL L ∧ Below w.heap.size w W
set_option maxHeartbeats 8000000 in
set_option maxRecDepth 100000 in
theorem refused_long (ss : List Stp) (v : Value) (w : World) (h : Stps w v ss) (hps : ∀ x ∈ ss, x.path.size ≤ 9223372036854775807) (hlen : 60 < ss.length) :
    Calls Try.prog 4 #[v] w fun e w' => e = .returned (.bool true) ∧ Below w.heap.size w w' := by
  have HFI := hid_in (fun W (k : Below w.heap.size w W) => fits_any W _ ss (h.below k))
  obtain ⟨p, c, rfl, hl, hat⟩ := stps_at h
  have HAW := hid_in (awake_any w)
  have HNW := hid_in (fun W => new_ok 9 99 W (by unfold quotaOk; omega))
  have HAT := hid_in hat
  have HPS := hid_in hps
  have hM : (ss.length : Int) ≤ 9223372036854775807 := by omega
  generalize hn : ss.length = M at *
  have HNN := hid_in hn
  clear h hat hl hps hn
  go_enter Try.func4, Try.ntmps4
  go_upto_region 3 with (go_at_call 7; refine HAW.out.mono ?_; rintro e w1 ⟨rfl, hb1⟩; have HB1 := hid_in hb1; clear hb1)
  go_upto_region 5 with (go_at_call 8; refine (HFI.out _ HB1.out).mono ?_; rintro e w2 ⟨⟨t, rfl⟩, hb2⟩; have HB2 := hid_in (HB1.out.trans (hb2.mono HB1.out.size)); clear hb2; rcases t with _ | _; (focus (go_wp2_with fail; go_ret; exact ⟨rfl, HB2.out⟩)))
  go_upto_region 8 with (go_at_call 9; refine (HNW.out _).mono ?_; rintro e w0 ⟨g, m, rfl, hF0, hb0, hm0⟩; have HM := hid_in (Nat.le_trans HB2.out.size hm0); have HRF : Hid (RfRlong w g m 0 w0) := hid_in ⟨[], hF0, by simp, (fun s hs => by cases hs), HB2.out.trans (hb0.mono HB2.out.size)⟩; clear hF0 hb0 hm0)
  clear HAW HFI HNW HB1 HB2
  go_wp2
  go_loopw [5] (fun vi W => ∃ i : Nat, i ≤ 60 ∧ vi = .int .i64 (i : Int) ∧ Hid (RfRlong w g m i W)) (fun vi _ => 60 - (intOf vi).toNat)
  case atStart => exact ⟨0, by omega, rfl, HRF.out⟩
  case round =>
    obtain ⟨i, hi, rfl, hrf⟩ := hrel
    have HI := hid_in hi
    by_cases hlt : i < 60
    · have hj1 : (i : Int) < (M : Int) := by omega
      have hj2 : (i : Int) < 60 := by omega
      have hi60 : i < 60 := by omega
      have HLT := hid_in hlt
      have hlo : i < ss.length := by rw [HNN.out]; omega
      obtain ⟨b, o, rfl, hcs⟩ := HAT.out (by intro e; rw [e] at hlo; simp at hlo)
      have HCS := hid_in (fun W (k : Below w.heap.size w W) => hcs W k i _ (List.getElem?_eq_getElem hlo))
      have hpx := HPS.out _ (List.getElem_mem hlo)
      obtain ⟨L, hF, hll, hok, hb⟩ := hrf.out
      have HF : Hid (Fs wr g m ((9 : Nat) : Int) ((99 : Nat) : Int) L) := hid_in hF
      obtain ⟨X, hX⟩ := enc_text hF.map.one 9 99
      have HXX := hid_in hX
      have HOK := hid_in hok
      have HLN : Hid (L.length ≤ 100000) := hid_in (by omega)
      have HLI := hid_in hll
      have HB := hid_in hb
      generalize ss[i] = x at *
      obtain ⟨xp, xk, xq, xd, xr, xv, xn⟩ := x
      simp only at HCS hpx
      have HPX := hid_in hpx
      obtain ⟨⟨np, nc, hnv⟩, -⟩ := HCS.out _ hb
      subst hnv
      generalize xn.length = xl at *
      obtain ⟨T, HTT⟩ : ∃ T, Hid (str X = T) := ⟨_, hid_in rfl⟩
      clear hlo hcs hpx hF hll hok hb hX hrf hlt hi hi60 HRF HAT HPS
      go_upto_region 12 with (go_at_call 18; refine (enc_sl HF.out (by omega) (by omega) HLN.out HOK.out HXX.out).mono ?_; rintro e w1 ⟨p1, k1, b1, rfl, hs1, hb1⟩; have HS1 := hid_in hs1; have HF1 := hid_in (HF.out.below hb1); have HB1 := hid_in (HB.out.trans (hb1.mono HB.out.size)); clear hs1 hb1)
      go_upto_region 13 with (go_at_call 19; refine (clone_any HF1.out).mono ?_; rintro e w3 ⟨g2, m2, rfl, hF2, hb2, hm2, hg2⟩; have HFC2 := hid_in hF2; have HF3 := hid_in (HF1.out.below hb2); have HB3 := hid_in (HB1.out.trans (hb2.mono HB1.out.size)); have HS3 := hid_in (HS1.out.below hb2); have HMM : Hid (m ≠ m2 ∧ m ≠ g2) := hid_in (by have := HF1.out.map.lt; omega); clear hF2 hb2 hm2 hg2)
      have HC3 : Hid (CK w3 w3) := hid_in (fun _ _ _ _ e => e)
      have HS17 : Hid (∀ W, CK w3 W → (convert 43 9 (.slice p1 X.length k1)).run Try.prog W = .ok (.string T) W) := hid_in (fun W k => by have h := Nd.conv_sl (sl_ck HS3.out k); rw [HTT.out] at h; exact h)
      have HCLN := hid_in (fun W (k : w3.grownBy W (some m)) => HFC2.out.grown k (fun j e => by
        obtain rfl := Option.some.inj e
        refine ⟨HMM.out.1, HMM.out.2, fun cs fr e2 => ?_⟩
        obtain ⟨es, clock, hb, _⟩ := HF3.out.map.ex
        rw [hb] at e2
        cases e2))
      obtain ⟨-, hval, a0, a1, a2, a3, a4, a5⟩ := HCS.out _ HB3.out
      rcases xr with _ | _
      · have HS15 : Hid (∀ W, Below w.heap.size w W → CK w3 W → W.cell? ⟨b, o + i * 6, none⟩ = some (.string xp) ∧ W.cell? ⟨b, o + i * 6 + 1, none⟩ = some (.int .i64 xk) ∧ W.cell? ⟨b, o + i * 6 + 2, none⟩ = some (.bool xq) ∧ W.cell? ⟨b, o + i * 6 + 3, none⟩ = some (.string xd) ∧ (convert 43 9 (.slice p1 X.length k1)).run Try.prog W = .ok (.string T) W) := hid_in (fun W k1 k2 => by
          obtain ⟨-, -, h0, h1, h2, h3, -, -⟩ := HCS.out _ k1
          exact ⟨h0, h1, h2, h3, HS17.out _ k2⟩)
        have HPUT := hid_in (put_any (HF3.out.below (below_drew w3)) HLN.out xp xk xq xd HPX.out)
        have HE := hid_in (fun (h0 : putE L xp xk xq xd = 0) => kind_ok (putE_form h0))
        clear hval a5
        go_upto_region 15 with fail
        by_cases hE : putE L xp xk xq xd = 0
        · as_aux_lemma =>
            have hEE := HE.out hE
            have HEZ := hid_in hE
            rw [hE] at HPUT
            clear hE
            refine wp_region_held_drew (S := fun W => W.cell? ⟨b, o + i * 6, none⟩ = some (.string xp) ∧ W.cell? ⟨b, o + i * 6 + 1, none⟩ = some (.int .i64 xk) ∧ W.cell? ⟨b, o + i * 6 + 2, none⟩ = some (.bool xq) ∧ W.cell? ⟨b, o + i * 6 + 3, none⟩ = some (.string xd) ∧ (convert 43 9 (.slice p1 X.length k1)).run Try.prog W = .ok (.string T) W) (by kernel_rfl) (HS15.out _ (below_drewN HB3.out 1) (HC3.out.trans (ck_below (below_drew w3)))) (fun hHeld => ?_)
            refine take_put (i := 0) (d := 48) (v := ?_) rfl rfl (by kernel_rfl) (by kernel_rfl) (by kernel_rfl) (fun _ _ _ h => h) (Or.inl ⟨by kernel_rfl, ?_⟩) hHeld ?_
            rotate_left
            · (intro w hSw; (try dsimp only at hSw); go_simp; (try with_reducible rfl))
            simp only [Act.put, List.setIfInBounds_toArray, List.set_cons_zero, List.set_cons_succ]
            refine take_put (i := 1) (d := 49) (v := ?_) rfl rfl (by kernel_rfl) (by kernel_rfl) (by kernel_rfl) (fun _ _ _ h => h) (Or.inl ⟨by kernel_rfl, ?_⟩) hHeld ?_
            rotate_left
            · (intro w hSw; (try dsimp only at hSw); go_simp; (try with_reducible rfl))
            simp only [Act.put, List.setIfInBounds_toArray, List.set_cons_zero, List.set_cons_succ]
            refine take_put (i := 2) (d := 50) (v := ?_) rfl rfl (by kernel_rfl) (by kernel_rfl) (by kernel_rfl) (fun _ _ _ h => h) (Or.inl ⟨by kernel_rfl, ?_⟩) hHeld ?_
            rotate_left
            · (intro w hSw; (try dsimp only at hSw); go_simp; (try with_reducible rfl))
            simp only [Act.put, List.setIfInBounds_toArray, List.set_cons_zero, List.set_cons_succ]
            refine take_put (i := 3) (d := 51) (v := ?_) rfl rfl (by kernel_rfl) (by kernel_rfl) (by kernel_rfl) (fun _ _ _ h => h) (Or.inl ⟨by kernel_rfl, ?_⟩) hHeld ?_
            rotate_left
            · (intro w hSw; (try dsimp only at hSw); go_simp; (try with_reducible rfl))
            simp only [Act.put, List.setIfInBounds_toArray, List.set_cons_zero, List.set_cons_succ]
            refine take_put (i := 4) (d := 52) (v := ?_) rfl rfl (by kernel_rfl) (by kernel_rfl) (by kernel_rfl) (fun _ _ _ h => h) (Or.inl ⟨by kernel_rfl, ?_⟩) hHeld ?_
            rotate_left
            · (intro w hSw; (try dsimp only at hSw); go_simp; (try with_reducible rfl))
            simp only [Act.put, List.setIfInBounds_toArray, List.set_cons_zero, List.set_cons_succ]
            refine take_put (i := 5) (d := 53) (v := ?_) rfl rfl (by kernel_rfl) (by kernel_rfl) (by kernel_rfl) (fun _ _ _ h => h) (Or.inl ⟨by kernel_rfl, ?_⟩) hHeld ?_
            rotate_left
            · (intro w hSw; (try dsimp only at hSw); go_simp; (try with_reducible rfl))
            simp only [Act.put, List.setIfInBounds_toArray, List.set_cons_zero, List.set_cons_succ]
            refine wpAnyH_ready (rs := [6]) (by kernel_rfl) (by simp) ?_
            refine AllReadyH.cons rfl (fun K hK => ?_) AllReadyH.nil
            rw [if_pos (by rfl)]
            go_simp
            refine HPUT.out.mono ?_
            rintro e w4 ⟨rfl, hp4, hg4⟩
            have HP4 := hid_in hp4
            have HG4 := hid_in (grown_plus (below_drew w3) hg4)
            have HB4 := hid_in (HB3.out.grown HG4.out HB3.out.size (fun j e => by obtain rfl := Option.some.inj e; exact HM.out))
            have HC4 := hid_in (HC3.out.trans (ck_map HF3.out.map HG4.out))
            clear hp4 hg4
            go_simp
            refine hK.out _ _ (HS15.out _ HB4.out HC4.out) (fun hHeld => ?_)
            clear hK K
            refine take_put (i := 7) (d := 55) (v := .bool false) rfl rfl (by kernel_rfl) (by kernel_rfl) (by kernel_rfl) (fun _ _ _ h => h) (Or.inl ⟨by kernel_rfl, fun w hSw => ?_⟩) hHeld ?_
            · (go_simp <;> omega)
            simp only [Act.put, List.setIfInBounds_toArray, List.set_cons_zero, List.set_cons_succ]
            refine take_put (i := 8) (d := 56) (v := .bool false) rfl rfl (by kernel_rfl) (by kernel_rfl) (by kernel_rfl) (fun _ _ _ h => h) (Or.inl ⟨by kernel_rfl, fun w hSw => ?_⟩) hHeld ?_
            · (go_simp <;> omega)
            simp only [Act.put, List.setIfInBounds_toArray, List.set_cons_zero, List.set_cons_succ]
            refine take_put (i := 9) (d := 57) (v := undef) rfl rfl (by kernel_rfl) (by kernel_rfl) (by kernel_rfl) (fun _ _ _ h => h) (Or.inr ⟨by kernel_rfl, rfl⟩) hHeld ?_
            simp only [Act.put, List.setIfInBounds_toArray, List.set_cons_zero, List.set_cons_succ]
            refine take_put (i := 10) (d := 58) (v := undef) rfl rfl (by kernel_rfl) (by kernel_rfl) (by kernel_rfl) (fun _ _ _ h => h) (Or.inr ⟨by kernel_rfl, rfl⟩) hHeld ?_
            simp only [Act.put, List.setIfInBounds_toArray, List.set_cons_zero, List.set_cons_succ]
            refine take_put (i := 11) (d := 59) (v := undef) rfl rfl (by kernel_rfl) (by kernel_rfl) (by kernel_rfl) (fun _ _ _ h => h) (Or.inr ⟨by kernel_rfl, rfl⟩) hHeld ?_
            simp only [Act.put, List.setIfInBounds_toArray, List.set_cons_zero, List.set_cons_succ]
            refine take_put (i := 12) (d := 60) (v := undef) rfl rfl (by kernel_rfl) (by kernel_rfl) (by kernel_rfl) (fun _ _ _ h => h) (Or.inr ⟨by kernel_rfl, rfl⟩) hHeld ?_
            simp only [Act.put, List.setIfInBounds_toArray, List.set_cons_zero, List.set_cons_succ]
            refine take_put (i := 13) (d := 61) (v := undef) rfl rfl (by kernel_rfl) (by kernel_rfl) (by kernel_rfl) (fun _ _ _ h => h) (Or.inr ⟨by kernel_rfl, rfl⟩) hHeld ?_
            simp only [Act.put, List.setIfInBounds_toArray, List.set_cons_zero, List.set_cons_succ]
            refine take_put (i := 14) (d := 62) (v := undef) rfl rfl (by kernel_rfl) (by kernel_rfl) (by kernel_rfl) (fun _ _ _ h => h) (Or.inr ⟨by kernel_rfl, rfl⟩) hHeld ?_
            simp only [Act.put, List.setIfInBounds_toArray, List.set_cons_zero, List.set_cons_succ]
            refine take_put (i := 15) (d := 63) (v := .bool false) rfl rfl (by kernel_rfl) (by kernel_rfl) (by kernel_rfl) (fun _ _ _ h => h) (Or.inl ⟨by kernel_rfl, fun w hSw => ?_⟩) hHeld ?_
            · (go_simp <;> omega)
            simp only [Act.put, List.setIfInBounds_toArray, List.set_cons_zero, List.set_cons_succ]
            refine wpAnyH_done (by kernel_rfl) ?_ _
            have HU : Hid (∃ L2, Fs w4 g m 9 99 L2 ∧ L2.length ≤ i + 1 ∧ OkL L2) := hid_in (by
              rcases HP4.out with ⟨h1, -⟩ | ⟨-, v4, hF4⟩
              · exact absurd HEZ.out h1
              · exact ⟨_, hF4, Nat.le_trans (putP_len _ _) (by have := HLI.out; omega), putP_ok HOK.out hEE.1 hEE.2.1 hEE.2.2⟩)
            go_upto_region 17 with fail
            obtain ⟨w6, HW6⟩ : ∃ w6, Hid (w4 = w6) := ⟨_, hid_in rfl⟩
            have HFC := hid_in (HCLN.out _ HG4.out)
            have HB6 := HB4
            have HC6 := HC4
            rw [HW6.out] at HU HFC HB6 HC6
            refine wp_world HW6.out ?_
            have HF7 : Hid (Fs w6.drew g2 m2 ((9 : Nat) : Int) ((99 : Nat) : Int) L) := hid_in (HFC.out.below (below_drew w6))
            refine wp_region_held_drew (S := fun W => (convert 43 9 (.slice p1 X.length k1)).run Try.prog W = .ok (.string T) W) (by kernel_rfl) (HS17.out _ (HC6.out.trans (ck_below (below_drew w6)))) (fun hHeld => ?_)
            refine take_put (i := 0) (d := 64) (v := ?_) rfl rfl (by kernel_rfl) (by kernel_rfl) (by kernel_rfl) (fun _ _ _ h => h) (Or.inl ⟨by kernel_rfl, ?_⟩) hHeld ?_
            rotate_left
            · (intro w hSw; (try dsimp only at hSw); go_simp; (try with_reducible rfl))
            simp only [Act.put, List.setIfInBounds_toArray, List.set_cons_zero, List.set_cons_succ]
            refine take_put (i := 3) (d := 67) (v := ?_) rfl rfl (by kernel_rfl) (by kernel_rfl) (by kernel_rfl) (fun _ _ _ h => h) (Or.inl ⟨by kernel_rfl, ?_⟩) hHeld ?_
            rotate_left
            · (intro w hSw; (try dsimp only at hSw); go_simp; (try with_reducible rfl))
            simp only [Act.put, List.setIfInBounds_toArray, List.set_cons_zero, List.set_cons_succ]
            refine take_put (i := 4) (d := 68) (v := ?_) rfl rfl (by kernel_rfl) (by kernel_rfl) (by kernel_rfl) (fun _ _ _ h => h) (Or.inl ⟨by kernel_rfl, ?_⟩) hHeld ?_
            rotate_left
            · (intro w hSw; (try dsimp only at hSw); go_simp; (try with_reducible rfl))
            simp only [Act.put, List.setIfInBounds_toArray, List.set_cons_zero, List.set_cons_succ]
            refine wpAnyH_ready (rs := [1]) (by kernel_rfl) (by simp) ?_
            refine AllReadyH.cons rfl (fun K hK => ?_) AllReadyH.nil
            rw [if_pos (by rfl)]
            go_simp
            refine (enc_sl HF7.out (by omega) (by omega) HLN.out HOK.out HXX.out).mono ?_
            rintro e w8 ⟨p8, k8, b8, rfl, hs8, hb8⟩
            have HCV8 := Nd.conv_sl hs8
            rw [HTT.out] at HCV8
            have HB8 := hid_in (HB6.out.trans (((below_drew w6).trans (hb8.mono (below_drew w6).size)).mono HB6.out.size))
            have HC8 := hid_in (HC6.out.trans (ck_below ((below_drew w6).trans (hb8.mono (below_drew w6).size))))
            have HG8 := hid_in ((below_drew w6).trans (hb8.mono (below_drew w6).size))
            clear hs8 hb8
            go_simp
            refine hK.out _ _ (HS17.out _ HC8.out) (fun hHeld => ?_)
            clear hK K
            refine wpAnyH_ready (rs := [2]) (by kernel_rfl) (by simp) ?_
            refine AllReadyH.cons rfl (fun K hK => ?_) AllReadyH.nil
            rw [if_pos (by rfl)]
            go_simp
            refine hK.out _ _ (HS17.out _ HC8.out) (fun hHeld => ?_)
            clear hK K
            refine take_put (i := 5) (d := 69) (v := .bool false) rfl rfl (by kernel_rfl) (by kernel_rfl) (by kernel_rfl) (fun _ _ _ h => h) (Or.inl ⟨by kernel_rfl, fun w hSw => ?_⟩) hHeld ?_
            · (go_simp <;> omega)
            simp only [Act.put, List.setIfInBounds_toArray, List.set_cons_zero, List.set_cons_succ]
            refine wpAnyH_done (by kernel_rfl) ?_ _
            go_wp2
            go_roundw
            case rel =>
              obtain ⟨L2, hF2, hl2, hk2⟩ := HU.out
              exact ⟨i + 1, by have := HLT.out; omega, by go_num, ⟨L2, hF2.below HG8.out, hl2, hk2, HB8.out⟩⟩
            case measure => have := HLT.out; simp [intOf]; omega
        · as_aux_lemma =>
            have HEN := hid_in hE
            obtain ⟨E, HEE⟩ : ∃ E, Hid (putE L xp xk xq xd = E) := ⟨_, hid_in rfl⟩
            have hEn : ¬ E = 0 := by rw [← HEE.out]; exact hE
            rw [HEE.out] at HPUT
            clear hE
            refine wp_region_held_drew (S := fun W => W.cell? ⟨b, o + i * 6, none⟩ = some (.string xp) ∧ W.cell? ⟨b, o + i * 6 + 1, none⟩ = some (.int .i64 xk) ∧ W.cell? ⟨b, o + i * 6 + 2, none⟩ = some (.bool xq) ∧ W.cell? ⟨b, o + i * 6 + 3, none⟩ = some (.string xd) ∧ (convert 43 9 (.slice p1 X.length k1)).run Try.prog W = .ok (.string T) W) (by kernel_rfl) (HS15.out _ (below_drewN HB3.out 1) (HC3.out.trans (ck_below (below_drew w3)))) (fun hHeld => ?_)
            refine take_put (i := 0) (d := 48) (v := ?_) rfl rfl (by kernel_rfl) (by kernel_rfl) (by kernel_rfl) (fun _ _ _ h => h) (Or.inl ⟨by kernel_rfl, ?_⟩) hHeld ?_
            rotate_left
            · (intro w hSw; (try dsimp only at hSw); go_simp; (try with_reducible rfl))
            simp only [Act.put, List.setIfInBounds_toArray, List.set_cons_zero, List.set_cons_succ]
            refine take_put (i := 1) (d := 49) (v := ?_) rfl rfl (by kernel_rfl) (by kernel_rfl) (by kernel_rfl) (fun _ _ _ h => h) (Or.inl ⟨by kernel_rfl, ?_⟩) hHeld ?_
            rotate_left
            · (intro w hSw; (try dsimp only at hSw); go_simp; (try with_reducible rfl))
            simp only [Act.put, List.setIfInBounds_toArray, List.set_cons_zero, List.set_cons_succ]
            refine take_put (i := 2) (d := 50) (v := ?_) rfl rfl (by kernel_rfl) (by kernel_rfl) (by kernel_rfl) (fun _ _ _ h => h) (Or.inl ⟨by kernel_rfl, ?_⟩) hHeld ?_
            rotate_left
            · (intro w hSw; (try dsimp only at hSw); go_simp; (try with_reducible rfl))
            simp only [Act.put, List.setIfInBounds_toArray, List.set_cons_zero, List.set_cons_succ]
            refine take_put (i := 3) (d := 51) (v := ?_) rfl rfl (by kernel_rfl) (by kernel_rfl) (by kernel_rfl) (fun _ _ _ h => h) (Or.inl ⟨by kernel_rfl, ?_⟩) hHeld ?_
            rotate_left
            · (intro w hSw; (try dsimp only at hSw); go_simp; (try with_reducible rfl))
            simp only [Act.put, List.setIfInBounds_toArray, List.set_cons_zero, List.set_cons_succ]
            refine take_put (i := 4) (d := 52) (v := ?_) rfl rfl (by kernel_rfl) (by kernel_rfl) (by kernel_rfl) (fun _ _ _ h => h) (Or.inl ⟨by kernel_rfl, ?_⟩) hHeld ?_
            rotate_left
            · (intro w hSw; (try dsimp only at hSw); go_simp; (try with_reducible rfl))
            simp only [Act.put, List.setIfInBounds_toArray, List.set_cons_zero, List.set_cons_succ]
            refine take_put (i := 5) (d := 53) (v := ?_) rfl rfl (by kernel_rfl) (by kernel_rfl) (by kernel_rfl) (fun _ _ _ h => h) (Or.inl ⟨by kernel_rfl, ?_⟩) hHeld ?_
            rotate_left
            · (intro w hSw; (try dsimp only at hSw); go_simp; (try with_reducible rfl))
            simp only [Act.put, List.setIfInBounds_toArray, List.set_cons_zero, List.set_cons_succ]
            refine wpAnyH_ready (rs := [6]) (by kernel_rfl) (by simp) ?_
            refine AllReadyH.cons rfl (fun K hK => ?_) AllReadyH.nil
            rw [if_pos (by rfl)]
            go_simp
            refine HPUT.out.mono ?_
            rintro e w4 ⟨rfl, hp4, hg4⟩
            have HP4 := hid_in hp4
            have HG4 := hid_in (grown_plus (below_drew w3) hg4)
            have HB4 := hid_in (HB3.out.grown HG4.out HB3.out.size (fun j e => by obtain rfl := Option.some.inj e; exact HM.out))
            have HC4 := hid_in (HC3.out.trans (ck_map HF3.out.map HG4.out))
            clear hp4 hg4
            go_simp
            refine hK.out _ _ (HS15.out _ HB4.out HC4.out) (fun hHeld => ?_)
            clear hK K
            refine take_put (i := 7) (d := 55) (v := .bool true) rfl rfl (by kernel_rfl) (by kernel_rfl) (by kernel_rfl) (fun _ _ _ h => h) (Or.inl ⟨by kernel_rfl, fun w hSw => ?_⟩) hHeld ?_
            · (go_simp <;> omega)
            simp only [Act.put, List.setIfInBounds_toArray, List.set_cons_zero, List.set_cons_succ]
            refine take_put (i := 8) (d := 56) (v := .bool true) rfl rfl (by kernel_rfl) (by kernel_rfl) (by kernel_rfl) (fun _ _ _ h => h) (Or.inl ⟨by kernel_rfl, fun w hSw => ?_⟩) hHeld ?_
            · (go_simp <;> omega)
            simp only [Act.put, List.setIfInBounds_toArray, List.set_cons_zero, List.set_cons_succ]
            refine take_put (i := 9) (d := 57) (v := ?_) rfl rfl (by kernel_rfl) (by kernel_rfl) (by kernel_rfl) (fun _ _ _ h => h) (Or.inl ⟨by kernel_rfl, ?_⟩) hHeld ?_
            rotate_left
            · (intro w hSw; (try dsimp only at hSw); go_simp; (try with_reducible rfl))
            simp only [Act.put, List.setIfInBounds_toArray, List.set_cons_zero, List.set_cons_succ]
            refine take_put (i := 12) (d := 60) (v := ?_) rfl rfl (by kernel_rfl) (by kernel_rfl) (by kernel_rfl) (fun _ _ _ h => h) (Or.inl ⟨by kernel_rfl, ?_⟩) hHeld ?_
            rotate_left
            · (intro w hSw; (try dsimp only at hSw); go_simp; (try with_reducible rfl))
            simp only [Act.put, List.setIfInBounds_toArray, List.set_cons_zero, List.set_cons_succ]
            refine take_put (i := 13) (d := 61) (v := ?_) rfl rfl (by kernel_rfl) (by kernel_rfl) (by kernel_rfl) (fun _ _ _ h => h) (Or.inl ⟨by kernel_rfl, ?_⟩) hHeld ?_
            rotate_left
            · (intro w hSw; (try dsimp only at hSw); go_simp; (try with_reducible rfl))
            simp only [Act.put, List.setIfInBounds_toArray, List.set_cons_zero, List.set_cons_succ]
            rcases HP4.out with ⟨-, hF4⟩ | ⟨h0, -⟩
            rotate_left
            · exact absurd h0 HEN.out
            have HF4 : Hid (Fs w4 g m ((9 : Nat) : Int) ((99 : Nat) : Int) L) := hid_in hF4
            clear hF4
            refine wpAnyH_ready (rs := [10]) (by kernel_rfl) (by simp) ?_
            refine AllReadyH.cons rfl (fun K hK => ?_) AllReadyH.nil
            rw [if_pos (by rfl)]
            go_simp
            refine (enc_sl HF4.out (by omega) (by omega) HLN.out HOK.out HXX.out).mono ?_
            rintro e w5 ⟨p5, k5, b5, rfl, hs5, hb5⟩
            have HCV5 := Nd.conv_sl hs5
            rw [HTT.out] at HCV5
            have HB5 := hid_in (HB4.out.trans (hb5.mono HB4.out.size))
            have HC5 := hid_in (HC4.out.trans (ck_below hb5))
            have HF5 := hid_in (HF4.out.below hb5)
            have HL5 := hid_in hb5
            clear hs5 hb5
            go_simp
            refine hK.out _ _ (HS15.out _ HB5.out HC5.out) (fun hHeld => ?_)
            clear hK K
            refine wpAnyH_ready (rs := [11]) (by kernel_rfl) (by simp) ?_
            refine AllReadyH.cons rfl (fun K hK => ?_) AllReadyH.nil
            rw [if_pos (by rfl)]
            go_simp
            refine hK.out _ _ (HS15.out _ HB5.out HC5.out) (fun hHeld => ?_)
            clear hK K
            refine take_put (i := 14) (d := 62) (v := .bool false) rfl rfl (by kernel_rfl) (by kernel_rfl) (by kernel_rfl) (fun _ _ _ h => h) (Or.inl ⟨by kernel_rfl, fun w hSw => ?_⟩) hHeld ?_
            · (go_simp <;> omega)
            simp only [Act.put, List.setIfInBounds_toArray, List.set_cons_zero, List.set_cons_succ]
            refine take_put (i := 15) (d := 63) (v := .bool false) rfl rfl (by kernel_rfl) (by kernel_rfl) (by kernel_rfl) (fun _ _ _ h => h) (Or.inl ⟨by kernel_rfl, fun w hSw => ?_⟩) hHeld ?_
            · (go_simp <;> omega)
            simp only [Act.put, List.setIfInBounds_toArray, List.set_cons_zero, List.set_cons_succ]
            refine wpAnyH_done (by kernel_rfl) ?_ _
            have HU : Hid (∃ L2, Fs w5 g m 9 99 L2 ∧ L2.length ≤ i + 1 ∧ OkL L2) := hid_in ⟨L, HF5.out, by have := HLI.out; omega, HOK.out⟩
            go_upto_region 17 with fail
            obtain ⟨w6, HW6⟩ : ∃ w6, Hid (w5 = w6) := ⟨_, hid_in rfl⟩
            have HFC := hid_in ((HCLN.out _ HG4.out).below HL5.out)
            have HB6 := HB5
            have HC6 := HC5
            rw [HW6.out] at HU HFC HB6 HC6
            refine wp_world HW6.out ?_
            have HF7 : Hid (Fs w6.drew g2 m2 ((9 : Nat) : Int) ((99 : Nat) : Int) L) := hid_in (HFC.out.below (below_drew w6))
            refine wp_region_held_drew (S := fun W => (convert 43 9 (.slice p1 X.length k1)).run Try.prog W = .ok (.string T) W) (by kernel_rfl) (HS17.out _ (HC6.out.trans (ck_below (below_drew w6)))) (fun hHeld => ?_)
            refine take_put (i := 0) (d := 64) (v := ?_) rfl rfl (by kernel_rfl) (by kernel_rfl) (by kernel_rfl) (fun _ _ _ h => h) (Or.inl ⟨by kernel_rfl, ?_⟩) hHeld ?_
            rotate_left
            · (intro w hSw; (try dsimp only at hSw); go_simp; (try with_reducible rfl))
            simp only [Act.put, List.setIfInBounds_toArray, List.set_cons_zero, List.set_cons_succ]
            refine take_put (i := 3) (d := 67) (v := ?_) rfl rfl (by kernel_rfl) (by kernel_rfl) (by kernel_rfl) (fun _ _ _ h => h) (Or.inl ⟨by kernel_rfl, ?_⟩) hHeld ?_
            rotate_left
            · (intro w hSw; (try dsimp only at hSw); go_simp; (try with_reducible rfl))
            simp only [Act.put, List.setIfInBounds_toArray, List.set_cons_zero, List.set_cons_succ]
            refine take_put (i := 4) (d := 68) (v := ?_) rfl rfl (by kernel_rfl) (by kernel_rfl) (by kernel_rfl) (fun _ _ _ h => h) (Or.inl ⟨by kernel_rfl, ?_⟩) hHeld ?_
            rotate_left
            · (intro w hSw; (try dsimp only at hSw); go_simp; (try with_reducible rfl))
            simp only [Act.put, List.setIfInBounds_toArray, List.set_cons_zero, List.set_cons_succ]
            refine wpAnyH_ready (rs := [1]) (by kernel_rfl) (by simp) ?_
            refine AllReadyH.cons rfl (fun K hK => ?_) AllReadyH.nil
            rw [if_pos (by rfl)]
            go_simp
            refine (enc_sl HF7.out (by omega) (by omega) HLN.out HOK.out HXX.out).mono ?_
            rintro e w8 ⟨p8, k8, b8, rfl, hs8, hb8⟩
            have HCV8 := Nd.conv_sl hs8
            rw [HTT.out] at HCV8
            have HB8 := hid_in (HB6.out.trans (((below_drew w6).trans (hb8.mono (below_drew w6).size)).mono HB6.out.size))
            have HC8 := hid_in (HC6.out.trans (ck_below ((below_drew w6).trans (hb8.mono (below_drew w6).size))))
            have HG8 := hid_in ((below_drew w6).trans (hb8.mono (below_drew w6).size))
            clear hs8 hb8
            go_simp
            refine hK.out _ _ (HS17.out _ HC8.out) (fun hHeld => ?_)
            clear hK K
            refine wpAnyH_ready (rs := [2]) (by kernel_rfl) (by simp) ?_
            refine AllReadyH.cons rfl (fun K hK => ?_) AllReadyH.nil
            rw [if_pos (by rfl)]
            go_simp
            refine hK.out _ _ (HS17.out _ HC8.out) (fun hHeld => ?_)
            clear hK K
            refine take_put (i := 5) (d := 69) (v := .bool false) rfl rfl (by kernel_rfl) (by kernel_rfl) (by kernel_rfl) (fun _ _ _ h => h) (Or.inl ⟨by kernel_rfl, fun w hSw => ?_⟩) hHeld ?_
            · (go_simp <;> omega)
            simp only [Act.put, List.setIfInBounds_toArray, List.set_cons_zero, List.set_cons_succ]
            refine wpAnyH_done (by kernel_rfl) ?_ _
            go_wp2
            go_roundw
            case rel =>
              obtain ⟨L2, hF2, hl2, hk2⟩ := HU.out
              exact ⟨i + 1, by have := HLT.out; omega, by go_num, ⟨L2, hF2.below HG8.out, hl2, hk2, HB8.out⟩⟩
            case measure => have := HLT.out; simp [intOf]; omega
      · as_aux_lemma =>
          have HDR := hid_in (drop_any HF3.out hval HLN.out)
          clear hval
          go_upto_region 17 with (go_at_call 20; refine HDR.out.mono ?_; rintro e w6 ⟨rfl, hF6, hg6⟩; have HU : Hid (∃ L2, Fs w6 g m 9 99 L2 ∧ L2.length ≤ i + 1 ∧ OkL L2) := hid_in ⟨_, hF6, Nat.le_trans (List.length_filter_le _ _) (by have := HLI.out; omega), fun s hs => HOK.out s (List.mem_filter.1 hs).1⟩; have HFC := hid_in (HCLN.out _ hg6); have HB6 := hid_in (HB3.out.grown hg6 HB3.out.size (fun j e => by obtain rfl := Option.some.inj e; exact HM.out)); have HC6 := hid_in (ck_map HF3.out.map hg6); clear hF6 hg6)
          have HF7 : Hid (Fs w6.drew g2 m2 ((9 : Nat) : Int) ((99 : Nat) : Int) L) := hid_in (HFC.out.below (below_drew w6))
          refine wp_region_held_drew (S := fun W => (convert 43 9 (.slice p1 X.length k1)).run Try.prog W = .ok (.string T) W) (by kernel_rfl) (HS17.out _ (HC6.out.trans (ck_below (below_drew w6)))) (fun hHeld => ?_)
          refine take_put (i := 0) (d := 64) (v := ?_) rfl rfl (by kernel_rfl) (by kernel_rfl) (by kernel_rfl) (fun _ _ _ h => h) (Or.inl ⟨by kernel_rfl, ?_⟩) hHeld ?_
          rotate_left
          · (intro w hSw; (try dsimp only at hSw); go_simp; (try with_reducible rfl))
          simp only [Act.put, List.setIfInBounds_toArray, List.set_cons_zero, List.set_cons_succ]
          refine take_put (i := 3) (d := 67) (v := ?_) rfl rfl (by kernel_rfl) (by kernel_rfl) (by kernel_rfl) (fun _ _ _ h => h) (Or.inl ⟨by kernel_rfl, ?_⟩) hHeld ?_
          rotate_left
          · (intro w hSw; (try dsimp only at hSw); go_simp; (try with_reducible rfl))
          simp only [Act.put, List.setIfInBounds_toArray, List.set_cons_zero, List.set_cons_succ]
          refine take_put (i := 4) (d := 68) (v := ?_) rfl rfl (by kernel_rfl) (by kernel_rfl) (by kernel_rfl) (fun _ _ _ h => h) (Or.inl ⟨by kernel_rfl, ?_⟩) hHeld ?_
          rotate_left
          · (intro w hSw; (try dsimp only at hSw); go_simp; (try with_reducible rfl))
          simp only [Act.put, List.setIfInBounds_toArray, List.set_cons_zero, List.set_cons_succ]
          refine wpAnyH_ready (rs := [1]) (by kernel_rfl) (by simp) ?_
          refine AllReadyH.cons rfl (fun K hK => ?_) AllReadyH.nil
          rw [if_pos (by rfl)]
          go_simp
          refine (enc_sl HF7.out (by omega) (by omega) HLN.out HOK.out HXX.out).mono ?_
          rintro e w8 ⟨p8, k8, b8, rfl, hs8, hb8⟩
          have HCV8 := Nd.conv_sl hs8
          rw [HTT.out] at HCV8
          have HB8 := hid_in (HB6.out.trans (((below_drew w6).trans (hb8.mono (below_drew w6).size)).mono HB6.out.size))
          have HC8 := hid_in (HC6.out.trans (ck_below ((below_drew w6).trans (hb8.mono (below_drew w6).size))))
          have HG8 := hid_in ((below_drew w6).trans (hb8.mono (below_drew w6).size))
          clear hs8 hb8
          go_simp
          refine hK.out _ _ (HS17.out _ HC8.out) (fun hHeld => ?_)
          clear hK K
          refine wpAnyH_ready (rs := [2]) (by kernel_rfl) (by simp) ?_
          refine AllReadyH.cons rfl (fun K hK => ?_) AllReadyH.nil
          rw [if_pos (by rfl)]
          go_simp
          refine hK.out _ _ (HS17.out _ HC8.out) (fun hHeld => ?_)
          clear hK K
          refine take_put (i := 5) (d := 69) (v := .bool false) rfl rfl (by kernel_rfl) (by kernel_rfl) (by kernel_rfl) (fun _ _ _ h => h) (Or.inl ⟨by kernel_rfl, fun w hSw => ?_⟩) hHeld ?_
          · (go_simp <;> omega)
          simp only [Act.put, List.setIfInBounds_toArray, List.set_cons_zero, List.set_cons_succ]
          refine wpAnyH_done (by kernel_rfl) ?_ _
          go_wp2
          go_roundw
          case rel =>
            obtain ⟨L2, hF2, hl2, hk2⟩ := HU.out
            exact ⟨i + 1, by have := HLT.out; omega, by go_num, ⟨L2, hF2.below HG8.out, hl2, hk2, HB8.out⟩⟩
          case measure => have := HLT.out; simp [intOf]; omega
    · have hiK : i = 60 := by have := HI.out; omega
      have hj1 : (i : Int) < (M : Int) := by omega
      have hj2 : ¬ (i : Int) < 60 := by omega
      obtain ⟨L, hF, hll, hok, hb⟩ := hrf.out
      have HB := hid_in hb
      have HG := hid_in (fun v W => get_nil v W)
      have HP := hid_in (fun W => put_nil W ⟨#[]⟩ 0 false ⟨#[]⟩)
      have HO := hid_in (fun W => over_nil W)
      clear hF hll hok hb hrf hiK hlt hi HRF HAT HPS
      go_wp2_with (first | (go_at_call 13; refine (HG.out _ _).mono ?_; rintro e w2 ⟨rfl, hb2⟩; have HB2 := hid_in ((HB.out.alloc HB.out.size _).trans (hb2.mono (HB.out.alloc HB.out.size _).size)); clear hb2) | (refine Nd.wpList_store_new rfl rfl 36 4 _ _ rfl _ [Value.string ⟨#[]⟩, .int .i64 0, .bool false, .string ⟨#[]⟩] info36 rfl (hid_in rfl) (store36 _ _ _ _) rfl rfl ?_; intro w3 hr3 hb3 hs3; have HB3 := hid_in (HB2.out.trans (hb3.mono HB2.out.size)); clear hr3 hb3 hs3) | (go_at_call 21; refine (HP.out _).mono ?_; rintro e w4 ⟨rfl, hb4⟩; have HB4 := hid_in (HB3.out.trans (hb4.mono HB3.out.size)); clear hb4) | (go_at_call 20; refine (drop_nil _ _).mono ?_; rintro e w5 ⟨rfl, rfl⟩) | (go_at_call 16; refine (list_nil _ _).mono ?_; rintro e w6 ⟨rfl, rfl⟩) | (go_at_call 22; refine (count_nil _).mono ?_; rintro e w7 ⟨rfl, rfl⟩) | (go_at_call 23; refine (size_nil _).mono ?_; rintro e w8 ⟨rfl, rfl⟩) | (go_at_call 24; refine (HO.out _).mono ?_; rintro e w9 ⟨rfl, hb9⟩; have HB9 := hid_in (HB4.out.trans (hb9.mono HB4.out.size)); clear hb9) | (go_at_call 19; refine (clone_nil _).mono ?_; rintro e w10 ⟨rfl, rfl⟩) | (go_at_call 18; refine (encode_nil _).mono ?_; rintro e w11 ⟨rfl, rfl⟩))
      go_ret
      exact ⟨rfl, HB9.out⟩
end Go.Proofs.Ytglfeocfhlmloaa.Up
