/-
  The walk of UpperBytes.
-/
import Derived.Deep.CutRange
import Derived.Laws.CopyOwn
import Derived.Shelf.SlMaps.Clone
import Derived.Deep.RegionLaw
import Derived.Deep.DrawnRows
import Derived.Laws.Tables
import Derived.Test.YtglfeocfhlmloaaGreatY00
import Derived.Test.YtglfeocfhlmloaaGreatY01
import Derived.Test.YtglfeocfhlmloaaGreatY02
import Derived.Test.YtglfeocfhlmloaaGreatY03
import Derived.Test.YtglfeocfhlmloaaGreatY04
import Derived.Test.YtglfeocfhlmloaaGreatY05
import Derived.Test.YtglfeocfhlmloaaGreatY06
import Derived.Test.YtglfeocfhlmloaaGreatY07
import Derived.Test.YtglfeocfhlmloaaGreatY08
import Derived.Test.YtglfeocfhlmloaaGreatY09
import Derived.Test.YtglfeocfhlmloaaGreatY10
import Derived.Test.YtglfeocfhlmloaaGreatY11
import Derived.Test.YtglfeocfhlmloaaGreatY12
import Derived.Test.YtglfeocfhlmloaaGreatY13
import Derived.Test.YtglfeocfhlmloaaGreatY14
import Derived.Test.YtglfeocfhlmloaaGreatY15
import Derived.Test.YtglfeocfhlmloaaGreatY16
import Derived.Test.YtglfeocfhlmloaaGreatY17
import Derived.Test.YtglfeocfhlmloaaGreatY18
import Derived.Test.YtglfeocfhlmloaaGreatY19
import Derived.Test.YtglfeocfhlmloaaGreatY20
import Derived.Test.YtglfeocfhlmloaaGreatY21
import Derived.Test.YtglfeocfhlmloaaGreatY22
import Derived.Test.YtglfeocfhlmloaaGreatY23
import Derived.Test.YtglfeocfhlmloaaGreatY24
import Derived.Test.YtglfeocfhlmloaaGreatY25
import Derived.Test.YtglfeocfhlmloaaGreatY26
import Derived.Test.YtglfeocfhlmloaaGreatY27
import Derived.Test.YtglfeocfhlmloaaGreatY28
import Derived.Test.YtglfeocfhlmloaaGreatY29
import Derived.Test.YtglfeocfhlmloaaGreatY30
import Derived.Test.YtglfeocfhlmloaaGreatY31
import Derived.Test.YtglfeocfhlmloaaGreatY32
import Derived.Test.YtglfeocfhlmloaaGreatY33
import Derived.Test.YtglfeocfhlmloaaGreatY34
import Derived.Test.YtglfeocfhlmloaaGreatY35
import Derived.Test.YtglfeocfhlmloaaGreatY36
import Derived.Test.YtglfeocfhlmloaaGreatY37
import Derived.Test.YtglfeocfhlmloaaGreatY38
import Derived.Test.YtglfeocfhlmloaaGreatY39
import Derived.Test.YtglfeocfhlmloaaGreatY40
import Derived.Test.YtglfeocfhlmloaaGreatY41
import Derived.Test.YtglfeocfhlmloaaGreatY42
import Derived.Test.YtglfeocfhlmloaaGreatY43
import Derived.Test.YtglfeocfhlmloaaGreatY44
import Derived.Test.YtglfeocfhlmloaaGreatY45
import Derived.Test.YtglfeocfhlmloaaGreatY46
import Derived.Test.YtglfeocfhlmloaaGreatY47
import Derived.Test.YtglfeocfhlmloaaGreatY48
import Derived.Test.YtglfeocfhlmloaaGreatY49
import Derived.Test.YtglfeocfhlmloaaGreatY50
namespace Go.Proofs.YtglfeocfhlmloaaGreat.Up
open Go.RowKit
open Vp (Str B bl Val cmpL parseS showS withinS IsPath checkS)
open Nd (take_put Row wp_world post_Row grownBy_setCell below_of_grown Sl str)
/-- the program's Encode by the order of what is there -/
theorem enc_es {w : World} {g m : Nat} {N Z : Nat} {A es : List Ent} (h : FsA w g m (N : Int) (Z : Int) A) (hN : N ≤ 128) (hZ : Z ≤ 8192) (hT : TreeA A) (ho : OrdA A es) :
    Calls Tryz.prog 9 #[.pointer (some ⟨g, 0, none⟩)] w fun e w' => ∃ p cap b, e = .returned (.slice p (encA N Z es).length cap) ∧ Sl w' p (encA N Z es) cap b 0 ∧ Below w.heap.size w w' := by
  refine (enc_ent h hN hZ hT).mono ?_
  rintro e w' ⟨es', p, cap, b, ho', rfl, hs, _, hb⟩
  obtain rfl := ordA_one hT.nd ho' ho
  exact ⟨p, cap, b, rfl, hs, hb⟩
/-- bytes that mean none -/
theorem dec_no {w : World} {p : Option Addr} {bs : List Nat} {cap b off : Nat} (hs : Sl w p bs cap b off) (hno : p = none → bs.length = 0 ∧ cap = 0) (hl : bs.length ≤ 140737488355328) (hn : rdU bs = none) :
    Calls Tryz.prog 11 #[.slice p bs.length cap] w fun e w' => e = .returned (.tuple #[.pointer none, .int .i64 21]) ∧ Below w.heap.size w w' := by
  refine (decode_any hs hno hl).mono ?_
  rintro e w' ⟨⟨rfl, _⟩ | ⟨N, Z, A, es, g, m, h1, h2, h3, rfl, _⟩, hb⟩
  · exact ⟨rfl, hb⟩
  · obtain ⟨hT, hN, hZ⟩ := tree_read h1
    have h4 := rdU_enc hT h2 hN hZ
    rw [h3, hn] at h4
    cases h4
theorem rdec_no {w : World} {p : Option Addr} {bs : List Nat} {cap b off : Nat} (hs : Sl w p bs cap b off) (hn : rdU bs = none) :
    Calls Tryz.prog 12 #[.slice p bs.length cap] w fun e w' => e = .returned (.tuple #[.pointer none, .bool false]) ∧ Below w.heap.size w w' := by
  refine (rdecode_any hs).mono ?_
  rintro e w' ⟨⟨_, rfl⟩ | ⟨N, Z, es, r, h1, _⟩, hb⟩
  · exact ⟨rfl, hb⟩
  · rw [hn] at h1
    cases h1
theorem dec_yes {w : World} {p : Option Addr} {bs : List Nat} {cap b off N Z : Nat} {es : List Ent} (hs : Sl w p bs cap b off) (hno : p = none → bs.length = 0 ∧ cap = 0) (hl : bs.length ≤ 140737488355328) (hn : rdU bs = some (N, Z, es)) :
    Calls Tryz.prog 11 #[.slice p bs.length cap] w fun e w' => ∃ g m, e = .returned (.tuple #[.pointer (some ⟨g, 0, none⟩), .int .i64 0]) ∧ FsA w' g m (N : Int) (Z : Int) es ∧ Below w.heap.size w w' := by
  obtain ⟨k1, k2, k3, _, _⟩ := rdU_in hn
  refine (decode_any hs hno hl).mono ?_
  rintro e w' ⟨⟨rfl, h0⟩ | ⟨N', Z', A, es', g, m, h1, h2, h3, rfl, h5⟩, hb⟩
  · exact absurd k3 (h0 N Z es es k1 k2.ord)
  · rw [k1] at h1
    have h6 := Option.some.inj h1
    obtain rfl := (Prod.mk.inj h6).1
    obtain rfl := (Prod.mk.inj (Prod.mk.inj h6).2).1
    obtain rfl := (Prod.mk.inj (Prod.mk.inj h6).2).2
    exact ⟨g, m, rfl, h5, hb⟩
theorem rdec_yes {w : World} {p : Option Addr} {bs : List Nat} {cap b off N Z : Nat} {es : List Ent} (hs : Sl w p bs cap b off) (hn : rdU bs = some (N, Z, es)) :
    Calls Tryz.prog 12 #[.slice p bs.length cap] w fun e w' => ∃ r, e = .returned (.tuple #[.pointer (some ⟨r, 0, none⟩), .bool true]) ∧ RU w' r (N : Int) (Z : Int) es ∧ Below w.heap.size w w' := by
  refine (rdecode_any hs).mono ?_
  rintro e w' ⟨⟨h1, _⟩ | ⟨N', Z', es', r, h1, rfl, h2⟩, hb⟩
  · rw [hn] at h1
    cases h1
  · rw [hn] at h1
    have h6 := Option.some.inj h1
    obtain rfl := (Prod.mk.inj h6).1
    obtain rfl := (Prod.mk.inj (Prod.mk.inj h6).2).1
    obtain rfl := (Prod.mk.inj (Prod.mk.inj h6).2).2
    exact ⟨r, rfl, h2, hb⟩
set_option maxHeartbeats 16000000 in
set_option maxRecDepth 100000 in
theorem bytes_any (a : World) (v : Value) (ss : List Stp) (p2 : Option Addr) (bs : List Nat) (cap2 b2 off2 : Nat) (h : Stps a v ss) (hps : ∀ x ∈ ss, x.path.size ≤ 9223372036854775807) (hy : Sl a p2 bs cap2 b2 off2) (hno : p2 = none → bs.length = 0 ∧ cap2 = 0) :
    Calls Tryz.prog 3 #[v, .slice p2 bs.length cap2] a fun e w' => e = .returned (.bool true) ∧ Below a.heap.size a w' := by
  have HAW := hid_in (awake_any a)
  have HFI := hid_in (fun W (x : Below a.heap.size a W) => fits_any W v ss (h.below x))
  by_cases hbl : bs.length ≤ 60000
  · have r3 : ¬ 60000 < (bs.length : Int) := by omega
    have HMK := hid_in (fun W => new_ok 7 300 W (by unfold quotaOk; decide))
    have HMR := hid_in (fun W => rnew_ok 7 300 W (by unfold quotaOk; decide))
    have HPP := hid_in (fun (w4 : World) (g m r : Nat) (hF : FsA w4 g m ((7 : Nat) : Int) ((300 : Nat) : Int) []) (hR : RU w4 r ((7 : Nat) : Int) ((300 : Nat) : Int) []) (hb : Below a.heap.size a w4) (hm : a.heap.size ≤ m) (hr : a.heap.size ≤ r) => play_any a w4 g m r _ _ ⟨[], [], hF, TreeA.nil, ⟨List.Perm.refl _, List.Pairwise.nil⟩, hR, hb⟩ hm hr ss v h hps)
    obtain ⟨p1, c1, rfl, -, -⟩ := stps_at h
    generalize ss.length = M at *
    have HDN := hid_in (fun W (k : Below a.heap.size a W) (hn : rdU bs = none) => dec_no (hy.below k) hno (by omega) hn)
    have HRN := hid_in (fun W (k : Below a.heap.size a W) (hn : rdU bs = none) => rdec_no (hy.below k) hn)
    have HDY := hid_in (fun W (k : Below a.heap.size a W) N2 Z2 X2 (hn : rdU bs = some (N2, Z2, X2)) => dec_yes (hy.below k) hno (by omega) hn)
    have HRY := hid_in (fun W (k : Below a.heap.size a W) N2 Z2 X2 (hn : rdU bs = some (N2, Z2, X2)) => rdec_yes (hy.below k) hn)
    have HCB := hid_in (fun W (k : Below a.heap.size a W) => Nd.conv_sl (hy.below k))
    obtain ⟨SB, HSB⟩ : ∃ S, Hid (str bs = S) := ⟨_, hid_in rfl⟩
    rw [HSB.out] at HCB
    clear h hps hy hno hbl
    generalize bs.length = bl at *
    go_enter Tryz.func3, Tryz.ntmps3
    go_upto_region 3 with (first | (go_at_call 4; refine HAW.out.mono ?_; rintro e w1 ⟨rfl, hb1⟩; have HB1 := hid_in hb1; clear hb1))
    go_upto_region 5 with (first | (go_at_call 5; refine (HFI.out _ HB1.out).mono ?_; rintro e w2 ⟨⟨ft, rfl⟩, hb2⟩; have HB2 := hid_in (HB1.out.trans (hb2.mono HB1.out.size)); clear HFI hb2; rcases ft with _ | _))
    · go_wp2_with fail
      go_ret
      exact ⟨rfl, HB2.out⟩
    · clear HAW
      go_upto_region 7 with (first | (go_at_call 6; refine (HMK.out _).mono ?_; rintro e w3 ⟨g, m, rfl, ht3, hb3, hg3⟩; have HF3 : Hid (FsA w3 g m ((7 : Nat) : Int) ((300 : Nat) : Int) []) := hid_in ⟨[], ht3, rfl⟩; have HB3 := hid_in (HB2.out.trans (hb3.mono HB2.out.size)); have HM3 := hid_in (Nat.le_trans HB2.out.size hg3); clear ht3 hb3 hg3) | (go_at_call 7; refine (HMR.out _).mono ?_; rintro e w4 ⟨r, rfl, hr4, hb4, hg4⟩; have HR4 : Hid (RU w4 r ((7 : Nat) : Int) ((300 : Nat) : Int) []) := hid_in hr4; have HF4 := hid_in (HF3.out.below hb4); have HB4 := hid_in (HB3.out.trans (hb4.mono HB3.out.size)); have HG4 := hid_in (Nat.le_trans HB3.out.size hg4); clear hr4 hb4 hg4))
      have HPL := hid_in (HPP.out w4.drew g m r (HF4.out.below (Below.refl _ _).drew) (HR4.out.below (Below.refl _ _).drew) HB4.out.drew HM3.out HG4.out)
      clear HPP HMK HMR HB1 HB2 HB3 HF3 HF4 HR4 HB4
      go_cut [48] from 31 to 48 (fun vx W => vx = .bool false ∧ Hid (Below a.heap.size a W))
      case first =>
        refine wp_region_held_drew (S := fun _ => True) (by kernel_rfl) trivial (fun hHeld => ?_)
        refine take_put (i := 0) (d := 31) (v := ?_) rfl rfl (by kernel_rfl) (by kernel_rfl) (by kernel_rfl) (fun _ _ _ h => h) (Or.inl ⟨by kernel_rfl, ?_⟩) hHeld ?_
        rotate_left
        · (intro w hSw; (try dsimp only at hSw); go_simp; (try with_reducible rfl))
        simp only [Act.put, List.setIfInBounds_toArray, List.set_cons_zero, List.set_cons_succ]
        refine take_put (i := 1) (d := 32) (v := .bool false) rfl rfl (by kernel_rfl) (by kernel_rfl) (by kernel_rfl) (fun _ _ _ h => h) (Or.inl ⟨by kernel_rfl, fun w hSw => ?_⟩) hHeld ?_
        · (go_simp)
        simp only [Act.put, List.setIfInBounds_toArray, List.set_cons_zero, List.set_cons_succ]
        refine take_put (i := 2) (d := 33) (v := ?_) rfl rfl (by kernel_rfl) (by kernel_rfl) (by kernel_rfl) (fun _ _ _ h => h) (Or.inl ⟨by kernel_rfl, ?_⟩) hHeld ?_
        rotate_left
        · (intro w hSw; (try dsimp only at hSw); go_simp; (try with_reducible rfl))
        simp only [Act.put, List.setIfInBounds_toArray, List.set_cons_zero, List.set_cons_succ]
        refine take_put (i := 3) (d := 34) (v := ?_) rfl rfl (by kernel_rfl) (by kernel_rfl) (by kernel_rfl) (fun _ _ _ h => h) (Or.inl ⟨by kernel_rfl, ?_⟩) hHeld ?_
        rotate_left
        · (intro w hSw; (try dsimp only at hSw); go_simp; (try with_reducible rfl))
        simp only [Act.put, List.setIfInBounds_toArray, List.set_cons_zero, List.set_cons_succ]
        refine take_put (i := 4) (d := 35) (v := ?_) rfl rfl (by kernel_rfl) (by kernel_rfl) (by kernel_rfl) (fun _ _ _ h => h) (Or.inl ⟨by kernel_rfl, ?_⟩) hHeld ?_
        rotate_left
        · (intro w hSw; (try dsimp only at hSw); go_simp; (try with_reducible rfl))
        simp only [Act.put, List.setIfInBounds_toArray, List.set_cons_zero, List.set_cons_succ]
        refine take_put (i := 5) (d := 36) (v := ?_) rfl rfl (by kernel_rfl) (by kernel_rfl) (by kernel_rfl) (fun _ _ _ h => h) (Or.inl ⟨by kernel_rfl, ?_⟩) hHeld ?_
        rotate_left
        · (intro w hSw; (try dsimp only at hSw); go_simp; (try with_reducible rfl))
        simp only [Act.put, List.setIfInBounds_toArray, List.set_cons_zero, List.set_cons_succ]
        refine wpAnyH_ready (rs := [6]) (by kernel_rfl) (by simp) ?_
        refine AllReadyH.cons rfl (fun K hK => ?_) AllReadyH.nil
        rw [if_pos (by rfl)]
        go_simp
        refine (HPL.out).mono ?_
        rintro e w5 ⟨rfl, A, es, hF5, hT5, ho5, hR5, hb5⟩
        have HB5 := hid_in hb5
        have HR5 := hid_in hR5
        obtain ⟨Z1, HZ1⟩ : ∃ Z, Hid (encA 7 300 es = Z) := ⟨_, hid_in rfl⟩
        have HEN := hid_in (enc_es hF5 (by decide) (by decide) hT5 ho5)
        have HRE := hid_in (fun W (k : Below w5.heap.size w5 W) => renc_sl (HR5.out.below k) (by decide) (by decide) ⟨hT5.perm ho5.1, List.Perm.refl _, ho5.2⟩)
        rw [HZ1.out] at HEN HRE
        have HCV := hid_in (fun (W : World) (p : Option Addr) (cap b : Nat) (k : Sl W p Z1 cap b 0) => Nd.conv_sl k)
        obtain ⟨SZ, HSZ⟩ : ∃ S, Hid (str Z1 = S) := ⟨_, hid_in rfl⟩
        rw [HSZ.out] at HCV
        generalize hzl : Z1.length = z1 at *
        clear hzl hF5 hT5 ho5 hR5 hb5
        go_simp
        refine hK.out _ _ trivial (fun hHeld => ?_)
        clear hK K
        refine take_put (i := 7) (d := 38) (v := .bool false) rfl rfl (by kernel_rfl) (by kernel_rfl) (by kernel_rfl) (fun _ _ _ h => h) (Or.inl ⟨by kernel_rfl, fun w hSw => ?_⟩) hHeld ?_
        · (go_simp)
        simp only [Act.put, List.setIfInBounds_toArray, List.set_cons_zero, List.set_cons_succ]
        refine take_put (i := 8) (d := 39) (v := .bool false) rfl rfl (by kernel_rfl) (by kernel_rfl) (by kernel_rfl) (fun _ _ _ h => h) (Or.inl ⟨by kernel_rfl, fun w hSw => ?_⟩) hHeld ?_
        · (go_simp)
        simp only [Act.put, List.setIfInBounds_toArray, List.set_cons_zero, List.set_cons_succ]
        refine take_put (i := 9) (d := 40) (v := ?_) rfl rfl (by kernel_rfl) (by kernel_rfl) (by kernel_rfl) (fun _ _ _ h => h) (Or.inl ⟨by kernel_rfl, ?_⟩) hHeld ?_
        rotate_left
        · (intro w hSw; (try dsimp only at hSw); go_simp; (try with_reducible rfl))
        simp only [Act.put, List.setIfInBounds_toArray, List.set_cons_zero, List.set_cons_succ]
        refine take_put (i := 10) (d := 41) (v := ?_) rfl rfl (by kernel_rfl) (by kernel_rfl) (by kernel_rfl) (fun _ _ _ h => h) (Or.inl ⟨by kernel_rfl, ?_⟩) hHeld ?_
        rotate_left
        · (intro w hSw; (try dsimp only at hSw); go_simp; (try with_reducible rfl))
        simp only [Act.put, List.setIfInBounds_toArray, List.set_cons_zero, List.set_cons_succ]
        refine take_put (i := 13) (d := 44) (v := ?_) rfl rfl (by kernel_rfl) (by kernel_rfl) (by kernel_rfl) (fun _ _ _ h => h) (Or.inl ⟨by kernel_rfl, ?_⟩) hHeld ?_
        rotate_left
        · (intro w hSw; (try dsimp only at hSw); go_simp; (try with_reducible rfl))
        simp only [Act.put, List.setIfInBounds_toArray, List.set_cons_zero, List.set_cons_succ]
        refine wpAnyH_ready (rs := [11]) (by kernel_rfl) (by simp) ?_
        refine AllReadyH.cons rfl (fun K hK => ?_) AllReadyH.nil
        rw [if_pos (by rfl)]
        go_simp
        refine (HEN.out).mono ?_
        rintro e w6 ⟨p6, c6, b6, rfl, hs6, hb6⟩
        have HW6 := hid_in hb6
        have HB6 := hid_in (HB5.out.trans (hb6.mono HB5.out.size))
        have HS6 := hid_in hs6
        have cv6 := HCV.out _ _ _ _ hs6
        clear hs6 hb6
        go_simp
        refine hK.out _ _ trivial (fun hHeld => ?_)
        clear hK K
        refine wpAnyH_ready (rs := [12, 14]) (by kernel_rfl) (by simp) ?_
        refine AllReadyH.cons rfl (fun K hK => ?_) (AllReadyH.cons rfl (fun K hK => ?_) AllReadyH.nil)
        · rw [if_pos (by rfl)]
          go_simp
          refine hK.out _ _ trivial (fun hHeld => ?_)
          clear hK K
          refine wpAnyH_ready (rs := [14]) (by kernel_rfl) (by simp) ?_
          refine AllReadyH.cons rfl (fun K hK => ?_) AllReadyH.nil
          rw [if_pos (by rfl)]
          go_simp
          refine (HRE.out _ HW6.out).mono ?_
          rintro e w7 ⟨p7, c7, b7, rfl, hs7, hb7⟩
          have HB7 := hid_in (HB6.out.trans (hb7.mono HB6.out.size))
          have cv7 := HCV.out _ _ _ _ hs7
          have cv8 := HCV.out _ _ _ _ (HS6.out.below hb7)
          clear hs7 hb7
          go_simp
          refine hK.out _ _ trivial (fun hHeld => ?_)
          clear hK K
          refine wpAnyH_ready (rs := [15]) (by kernel_rfl) (by simp) ?_
          refine AllReadyH.cons rfl (fun K hK => ?_) AllReadyH.nil
          rw [if_pos (by rfl)]
          go_simp
          refine hK.out _ _ trivial (fun hHeld => ?_)
          clear hK K
          refine take_put (i := 16) (d := 47) (v := .bool false) rfl rfl (by kernel_rfl) (by kernel_rfl) (by kernel_rfl) (fun _ _ _ h => h) (Or.inl ⟨by kernel_rfl, fun w hSw => ?_⟩) hHeld ?_
          · (go_simp)
          simp only [Act.put, List.setIfInBounds_toArray, List.set_cons_zero, List.set_cons_succ]
          refine take_put (i := 17) (d := 48) (v := .bool false) rfl rfl (by kernel_rfl) (by kernel_rfl) (by kernel_rfl) (fun _ _ _ h => h) (Or.inl ⟨by kernel_rfl, fun w hSw => ?_⟩) hHeld ?_
          · (go_simp)
          simp only [Act.put, List.setIfInBounds_toArray, List.set_cons_zero, List.set_cons_succ]
          refine wpAnyH_done (by kernel_rfl) ?_ _
          go_wp2_with fail
          go_meet
          exact ⟨rfl, HB7.out⟩
        · rw [if_pos (by rfl)]
          go_simp
          refine (HRE.out _ HW6.out).mono ?_
          rintro e w7 ⟨p7, c7, b7, rfl, hs7, hb7⟩
          have HB7 := hid_in (HB6.out.trans (hb7.mono HB6.out.size))
          have cv7 := HCV.out _ _ _ _ hs7
          have cv8 := HCV.out _ _ _ _ (HS6.out.below hb7)
          clear hs7 hb7
          go_simp
          refine hK.out _ _ trivial (fun hHeld => ?_)
          clear hK K
          refine wpAnyH_ready (rs := [12, 15]) (by kernel_rfl) (by simp) ?_
          refine AllReadyH.cons rfl (fun K hK => ?_) (AllReadyH.cons rfl (fun K hK => ?_) AllReadyH.nil)
          · rw [if_pos (by rfl)]
            go_simp
            refine hK.out _ _ trivial (fun hHeld => ?_)
            clear hK K
            refine wpAnyH_ready (rs := [15]) (by kernel_rfl) (by simp) ?_
            refine AllReadyH.cons rfl (fun K hK => ?_) AllReadyH.nil
            rw [if_pos (by rfl)]
            go_simp
            refine hK.out _ _ trivial (fun hHeld => ?_)
            clear hK K
            refine take_put (i := 16) (d := 47) (v := .bool false) rfl rfl (by kernel_rfl) (by kernel_rfl) (by kernel_rfl) (fun _ _ _ h => h) (Or.inl ⟨by kernel_rfl, fun w hSw => ?_⟩) hHeld ?_
            · (go_simp)
            simp only [Act.put, List.setIfInBounds_toArray, List.set_cons_zero, List.set_cons_succ]
            refine take_put (i := 17) (d := 48) (v := .bool false) rfl rfl (by kernel_rfl) (by kernel_rfl) (by kernel_rfl) (fun _ _ _ h => h) (Or.inl ⟨by kernel_rfl, fun w hSw => ?_⟩) hHeld ?_
            · (go_simp)
            simp only [Act.put, List.setIfInBounds_toArray, List.set_cons_zero, List.set_cons_succ]
            refine wpAnyH_done (by kernel_rfl) ?_ _
            go_wp2_with fail
            go_meet
            exact ⟨rfl, HB7.out⟩
          · rw [if_pos (by rfl)]
            go_simp
            refine hK.out _ _ trivial (fun hHeld => ?_)
            clear hK K
            refine wpAnyH_ready (rs := [12]) (by kernel_rfl) (by simp) ?_
            refine AllReadyH.cons rfl (fun K hK => ?_) AllReadyH.nil
            rw [if_pos (by rfl)]
            go_simp
            refine hK.out _ _ trivial (fun hHeld => ?_)
            clear hK K
            refine take_put (i := 16) (d := 47) (v := .bool false) rfl rfl (by kernel_rfl) (by kernel_rfl) (by kernel_rfl) (fun _ _ _ h => h) (Or.inl ⟨by kernel_rfl, fun w hSw => ?_⟩) hHeld ?_
            · (go_simp)
            simp only [Act.put, List.setIfInBounds_toArray, List.set_cons_zero, List.set_cons_succ]
            refine take_put (i := 17) (d := 48) (v := .bool false) rfl rfl (by kernel_rfl) (by kernel_rfl) (by kernel_rfl) (fun _ _ _ h => h) (Or.inl ⟨by kernel_rfl, fun w hSw => ?_⟩) hHeld ?_
            · (go_simp)
            simp only [Act.put, List.setIfInBounds_toArray, List.set_cons_zero, List.set_cons_succ]
            refine wpAnyH_done (by kernel_rfl) ?_ _
            go_wp2_with fail
            go_meet
            exact ⟨rfl, HB7.out⟩
      case rest =>
        obtain ⟨rfl, HB8⟩ := hcut
        clear HPL
        cases hrd : rdU bs with
        | none =>
          have HN := hid_in hrd
          clear hrd
          go_upto_region 13 with (first | (go_at_call 11; refine (HDN.out _ HB8.out HN.out).mono ?_; rintro e w9 ⟨rfl, hb9⟩; have HB9 := hid_in (HB8.out.trans (hb9.mono HB8.out.size)); clear hb9) | (go_at_call 12; refine (HRN.out _ HB9.out HN.out).mono ?_; rintro e w10 ⟨rfl, hb10⟩; have HB10 := hid_in (HB9.out.trans (hb10.mono HB9.out.size)); clear hb10))
          go_quiet (fail)
          go_wp2_with fail
          go_ret
          exact ⟨rfl, Nd.below_drewN HB10.out _⟩
        | some q =>
          obtain ⟨N2, Z2, X2⟩ := q
          obtain ⟨-, hs2, he2, hN2, hZ2⟩ := rdU_in hrd
          have HS2 := hid_in hs2
          have HDY2 := hid_in (fun W k => HDY.out W k N2 Z2 X2 hrd)
          have HRY2 := hid_in (fun W k => HRY.out W k N2 Z2 X2 hrd)
          have HEN0 := hid_in (fun W g m (k : FsA W g m (N2 : Int) (Z2 : Int) X2) => enc_es k hN2 hZ2 hs2.tree hs2.ord)
          have HCV2 := hid_in (fun (W : World) (p : Option Addr) (cap b : Nat) (k : Sl W p (encA N2 Z2 X2) cap b 0) => Nd.conv_sl k)
          rw [he2] at HEN0 HCV2
          rw [HSB.out] at HCV2
          generalize bs.length = bl2 at *
          clear hrd hs2 he2 hN2 hZ2 HRY HDY HDN HRN
          go_upto_region 13 with (first | (go_at_call 11; refine (HDY2.out _ HB8.out).mono ?_; rintro e w8 ⟨u, m2, rfl, hf8, hb8⟩; have HF8 := hid_in hf8; have HB8b := hid_in (HB8.out.trans (hb8.mono HB8.out.size)); clear hf8 hb8) | (go_at_call 12; refine (HRY2.out _ HB8b.out).mono ?_; rintro e w9 ⟨r2, rfl, hr9, hb9⟩; have HF9 := hid_in (HF8.out.below hb9); have HR9 := hid_in hr9; have HB9 := hid_in (HB8b.out.trans (hb9.mono HB8b.out.size)); clear hr9 hb9))
          have HN9 : Hid (Below a.heap.size a w9.drew) := hid_in HB9.out.drew
          have HCP : Hid (∀ W, Below a.heap.size a W → (convert 23 9 (.slice p2 bl cap2)).run Tryz.prog W = .ok (.string SB) W) := hid_in (fun W k => HCB.out W k)
          have HEN2 := hid_in (fun W (k : Below w9.heap.size w9 W) => HEN0.out W u m2 (HF9.out.below k))
          clear HF8 HB8 HB8b HDY2 HRY2 HEN0
          refine wp_region_held_drew (S := fun W => (convert 23 9 (.slice p2 bl cap2)).run Tryz.prog W = .ok (.string SB) W) (by kernel_rfl) (HCP.out _ HN9.out) (fun hHeld => ?_)
          refine take_put (i := 0) (d := 77) (v := ?_) rfl rfl (by kernel_rfl) (by kernel_rfl) (by kernel_rfl) (fun _ _ _ h => h) (Or.inl ⟨by kernel_rfl, ?_⟩) hHeld ?_
          rotate_left
          · (intro w hSw; (try dsimp only at hSw); go_simp; (try with_reducible rfl))
          simp only [Act.put, List.setIfInBounds_toArray, List.set_cons_zero, List.set_cons_succ]
          refine take_put (i := 1) (d := 78) (v := .bool false) rfl rfl (by kernel_rfl) (by kernel_rfl) (by kernel_rfl) (fun _ _ _ h => h) (Or.inl ⟨by kernel_rfl, fun w hSw => ?_⟩) hHeld ?_
          · (go_simp)
          simp only [Act.put, List.setIfInBounds_toArray, List.set_cons_zero, List.set_cons_succ]
          refine take_put (i := 2) (d := 79) (v := ?_) rfl rfl (by kernel_rfl) (by kernel_rfl) (by kernel_rfl) (fun _ _ _ h => h) (Or.inl ⟨by kernel_rfl, ?_⟩) hHeld ?_
          rotate_left
          · (intro w hSw; (try dsimp only at hSw); go_simp; (try with_reducible rfl))
          simp only [Act.put, List.setIfInBounds_toArray, List.set_cons_zero, List.set_cons_succ]
          refine take_put (i := 3) (d := 80) (v := ?_) rfl rfl (by kernel_rfl) (by kernel_rfl) (by kernel_rfl) (fun _ _ _ h => h) (Or.inl ⟨by kernel_rfl, ?_⟩) hHeld ?_
          rotate_left
          · (intro w hSw; (try dsimp only at hSw); go_simp; (try with_reducible rfl))
          simp only [Act.put, List.setIfInBounds_toArray, List.set_cons_zero, List.set_cons_succ]
          refine take_put (i := 4) (d := 81) (v := ?_) rfl rfl (by kernel_rfl) (by kernel_rfl) (by kernel_rfl) (fun _ _ _ h => h) (Or.inl ⟨by kernel_rfl, ?_⟩) hHeld ?_
          rotate_left
          · (intro w hSw; (try dsimp only at hSw); go_simp; (try with_reducible rfl))
          simp only [Act.put, List.setIfInBounds_toArray, List.set_cons_zero, List.set_cons_succ]
          refine wpAnyH_ready (rs := [5]) (by kernel_rfl) (by simp) ?_
          refine AllReadyH.cons rfl (fun K hK => ?_) AllReadyH.nil
          rw [if_pos (by rfl)]
          go_simp
          refine (same_any (HF9.out.below (Below.refl _ _).drew) HS2.out.tree HS2.out.ord (HR9.out.below (Below.refl _ _).drew)).mono ?_
          rintro e w10 ⟨rfl, hb10⟩
          have HN10 := hid_in (HN9.out.trans (hb10.mono HN9.out.size))
          have HW10 := hid_in ((Below.refl _ _).drew.trans (hb10.mono (Below.refl w9.heap.size w9).drew.size))
          clear hb10
          go_simp
          refine hK.out _ _ (HCP.out _ HN10.out) (fun hHeld => ?_)
          clear hK K
          refine take_put (i := 6) (d := 83) (v := ?_) rfl rfl (by kernel_rfl) (by kernel_rfl) (by kernel_rfl) (fun _ _ _ h => h) (Or.inl ⟨by kernel_rfl, ?_⟩) hHeld ?_
          rotate_left
          · (intro w hSw; (try dsimp only at hSw); go_simp; (try with_reducible rfl))
          simp only [Act.put, List.setIfInBounds_toArray, List.set_cons_zero, List.set_cons_succ]
          refine take_put (i := 7) (d := 84) (v := ?_) rfl rfl (by kernel_rfl) (by kernel_rfl) (by kernel_rfl) (fun _ _ _ h => h) (Or.inl ⟨by kernel_rfl, ?_⟩) hHeld ?_
          rotate_left
          · (intro w hSw; (try dsimp only at hSw); go_simp; (try with_reducible rfl))
          simp only [Act.put, List.setIfInBounds_toArray, List.set_cons_zero, List.set_cons_succ]
          refine take_put (i := 10) (d := 87) (v := ?_) rfl rfl (by kernel_rfl) (by kernel_rfl) (by kernel_rfl) (fun _ _ _ h => h) (Or.inl ⟨by kernel_rfl, ?_⟩) hHeld ?_
          rotate_left
          · (intro w hSw; (try dsimp only at hSw); go_simp; (try with_reducible rfl))
          simp only [Act.put, List.setIfInBounds_toArray, List.set_cons_zero, List.set_cons_succ]
          refine take_put (i := 11) (d := 88) (v := .string SB) rfl rfl (by kernel_rfl) (by kernel_rfl) (by kernel_rfl) (fun _ _ _ h => h) (Or.inl ⟨by kernel_rfl, fun w hSw => ?_⟩) hHeld ?_
          · (go_simp)
          simp only [Act.put, List.setIfInBounds_toArray, List.set_cons_zero, List.set_cons_succ]
          refine wpAnyH_ready (rs := [8]) (by kernel_rfl) (by simp) ?_
          refine AllReadyH.cons rfl (fun K hK => ?_) AllReadyH.nil
          rw [if_pos (by rfl)]
          go_simp
          refine (HEN2.out _ HW10.out).mono ?_
          rintro e w12 ⟨p12, c12, b12, rfl, hs12, hb12⟩
          have HN12 := hid_in (HN10.out.trans (hb12.mono HN10.out.size))
          have cv12 := HCV2.out _ _ _ _ hs12
          clear hs12 hb12
          go_simp
          refine hK.out _ _ (HCP.out _ HN12.out) (fun hHeld => ?_)
          clear hK K
          refine wpAnyH_ready (rs := [9]) (by kernel_rfl) (by simp) ?_
          refine AllReadyH.cons rfl (fun K hK => ?_) AllReadyH.nil
          rw [if_pos (by rfl)]
          go_simp
          refine hK.out _ _ (HCP.out _ HN12.out) (fun hHeld => ?_)
          clear hK K
          refine take_put (i := 12) (d := 89) (v := .bool true) rfl rfl (by kernel_rfl) (by kernel_rfl) (by kernel_rfl) (fun _ _ _ h => h) (Or.inl ⟨by kernel_rfl, fun w hSw => ?_⟩) hHeld ?_
          · (go_simp)
          simp only [Act.put, List.setIfInBounds_toArray, List.set_cons_zero, List.set_cons_succ]
          refine take_put (i := 13) (d := 90) (v := .bool true) rfl rfl (by kernel_rfl) (by kernel_rfl) (by kernel_rfl) (fun _ _ _ h => h) (Or.inl ⟨by kernel_rfl, fun w hSw => ?_⟩) hHeld ?_
          · (go_simp)
          simp only [Act.put, List.setIfInBounds_toArray, List.set_cons_zero, List.set_cons_succ]
          refine take_put (i := 14) (d := 91) (v := .bool true) rfl rfl (by kernel_rfl) (by kernel_rfl) (by kernel_rfl) (fun _ _ _ h => h) (Or.inl ⟨by kernel_rfl, fun w hSw => ?_⟩) hHeld ?_
          · (go_simp)
          simp only [Act.put, List.setIfInBounds_toArray, List.set_cons_zero, List.set_cons_succ]
          refine take_put (i := 15) (d := 4) (v := ?_) rfl rfl (by kernel_rfl) (by kernel_rfl) (by kernel_rfl) (fun _ _ _ h => h) (Or.inl ⟨by kernel_rfl, ?_⟩) hHeld ?_
          rotate_left
          · (intro w hSw; (try dsimp only at hSw); go_simp; (try with_reducible rfl))
          simp only [Act.put, List.setIfInBounds_toArray, List.set_cons_zero, List.set_cons_succ]
          refine wpAnyH_done (by kernel_rfl) ?_ _
          go_wp2_with fail
          go_ret
          exact ⟨rfl, HN12.out⟩
  · have r3 : 60000 < (bs.length : Int) := by omega
    clear h hps hy hno hbl
    generalize bs.length = bl at *
    go_enter Tryz.func3, Tryz.ntmps3
    go_upto_region 3 with (first | (go_at_call 4; refine HAW.out.mono ?_; rintro e w1 ⟨rfl, hb1⟩; have HB1 := hid_in hb1; clear hb1))
    go_wp2_with (first | (go_at_call 5; refine (HFI.out _ HB1.out).mono ?_; rintro e w2 ⟨⟨ft, rfl⟩, hb2⟩; have HB2 := hid_in (HB1.out.trans (hb2.mono HB1.out.size)); clear HFI hb2; rcases ft with _ | _))
    all_goals (go_ret; exact ⟨rfl, HB2.out⟩)
end Go.Proofs.YtglfeocfhlmloaaGreat.Up
