/-
  awake of the statements of carry. Few; Digests of two lists of one digest. The reference's Sum: the loop of the count. The reference's Sum: the loop that lays four bytes into a word.
-/
import Derived.Lib.SlBytesConst
import Derived.Deep.CutRange
import Derived.Test.YtamaejlbojbbeaaGreatDoorQ00
import Derived.Test.YtamaejlbojbbeaaGreatDoorQ01
import Derived.Test.YtamaejlbojbbeaaGreatDoorQ02
import Derived.Test.YtamaejlbojbbeaaGreatDoorQ03
import Derived.Test.YtamaejlbojbbeaaGreatDoorQ04
import Derived.Test.YtamaejlbojbbeaaGreatDoorQ05
import Derived.Test.YtamaejlbojbbeaaGreatDoorQ06
import Derived.Test.YtamaejlbojbbeaaGreatDoorQ07
import Derived.Test.YtamaejlbojbbeaaGreatDoorQ08
import Derived.Test.YtamaejlbojbbeaaGreatDoorQ09
import Derived.Test.YtamaejlbojbbeaaGreatDoorQ10
import Derived.Test.YtamaejlbojbbeaaGreatDoorQ11
import Derived.Test.YtamaejlbojbbeaaGreatDoorQ12
import Derived.Test.YtamaejlbojbbeaaGreatDoorQ13
import Derived.Test.YtamaejlbojbbeaaGreatDoorQ14
import Derived.Test.YtamaejlbojbbeaaGreatDoorQ15
import Derived.Test.YtamaejlbojbbeaaGreatDoorQ16
import Derived.Test.YtamaejlbojbbeaaGreatDoorQ17
import Derived.Test.YtamaejlbojbbeaaGreatDoorQ18
import Derived.Test.YtamaejlbojbbeaaGreatDoorQ19
import Derived.Test.YtamaejlbojbbeaaGreatDoorQ20
import Derived.Test.YtamaejlbojbbeaaGreatDoorQ21
import Derived.Test.YtamaejlbojbbeaaGreatDoorQ22
import Derived.Test.YtamaejlbojbbeaaGreatDoorQ23
import Derived.Test.YtamaejlbojbbeaaGreatDoorQ24
import Derived.Test.YtamaejlbojbbeaaGreatDoorQ25
import Derived.Test.YtamaejlbojbbeaaGreatDoorQ26
import Derived.Test.YtamaejlbojbbeaaGreatDoorQ27
import Derived.Test.YtamaejlbojbbeaaGreatDoorQ28
import Derived.Test.YtamaejlbojbbeaaGreatDoorQASbK4
namespace Go.Proofs.YtamaejlbojbbeaaGreatDoor.Tr
open Go.RowKit
open Nd (take_put)
open Sb (hid_in Row Sl T5 BL u8v Tab wp_world grownBy_setCell below_of_grown info39 one_u8 splice_all St Kp needI layI cntI)
/-- where awake's loop stands -/
def AwI (B : Nat) (W0 : World) (c gs ms lm wm : Nat) (i : Nat) (W : World) : Prop := ∃ ov, Cs B W c gs ms lm wm ov (stM i) i 65536 (stU i) (stT i) (stL i) ∧ Below B W0 W
set_option maxHeartbeats 4000000 in
set_option maxRecDepth 100000 in
theorem awake8_any (w : World) (htab : Tab w) : Calls Tryz.prog 19 #[] w fun e w' => e = .returned (.bool true) ∧ Below w.heap.size w w' := by
  obtain ⟨V, HV⟩ : ∃ V, Hid (V = D3.map u8v) := ⟨_, hid_in rfl⟩
  have HVL : Hid (V.length = 32) := hid_in (by rw [HV.out, List.length_map]; exact Sb.sum_length _)
  have HV1 : Hid (∀ v ∈ V, v.oneCell' = true) := hid_in (by rw [HV.out]; exact one_u8 _)
  obtain ⟨Z, hz, hzl⟩ := Sb.zero39
  have HZL := hid_in hzl
  have HTAB := hid_in htab
  have HN1 := hid_in (Sb.bnew_any w 65536)
  clear htab hzl
  go_enter Tryz.func19, Tryz.ntmps19
  go_upto_region 2 with (first | (go_at_call 9; refine HN1.out.mono ?_; rintro e w1 ⟨rfl, hst1, hb1⟩; have HST1 := hid_in hst1; have HB1 := hid_in hb1; clear hst1 hb1))
  clear HN1
  have HST1' : Hid (St w1 (w.heap.size + 1) w.heap.size (fun _ => none) 0 65536 0) := hid_in (by have := HST1.out; rw [show max (65536 : Int) 0 = 65536 by decide] at this; exact this)
  have bA : Below w1.heap.size w1 (w1.alloc (.cells #[.string ⟨#[47, 102]⟩, .bool false, .string ⟨#[104, 105]⟩] 81)) := (Below.refl _ _).alloc (Nat.le_refl _) _
  have hfl : Fls (w1.alloc (.cells #[.string ⟨#[47, 102]⟩, .bool false, .string ⟨#[104, 105]⟩] 81)) (.slice (some ⟨w1.heap.size, 0, none⟩) 1 1) [hiF] := by
    refine ⟨_, 1, w1.heap.size, 0, rfl, by decide, by decide, fun _ => ⟨rfl, by simp⟩, fun i f hi => ?_⟩
    match i with
    | 0 =>
      simp only [List.getElem?_cons_zero, Option.some.injEq] at hi
      subst hi
      exact range_row (Row.new w1 [.string ⟨#[47, 102]⟩, .bool false, .string ⟨#[104, 105]⟩] 81)
    | i + 1 => simp at hi
  have HBU := hid_in (build_hi (HST1'.out.below bA) ((HTAB.out.below HB1.out HTAB.out.pos).below bA (HTAB.out.below HB1.out HTAB.out.pos).pos) _ hfl V HV)
  have HBA := hid_in bA
  clear bA hfl HST1
  go_upto_region 3 with (first | (go_at_call 11; refine HBU.out.mono ?_; rintro e w3 ⟨rfl, ⟨n1, u1, hst3⟩, hk3⟩; have HST3 := hid_in hst3; have HK3 := hid_in hk3; clear hst3 hk3) | (refine Sb.wpList_store_new rfl _ _ rfl Z V HZL HVL HV1 rfl rfl ?_; intro w4 hr4 hb4; have HR4 := hid_in hr4; have HB34 := hid_in hb4; clear hr4 hb4))
  clear HBU hz
  have hb04 : Below w.heap.size w w4 := by
    have s1 := HB1.out.size
    have sA := HBA.out.size
    have s3 := HK3.out.size
    refine ((HB1.out.trans (HBA.out.mono s1)).trans (HK3.out.below (by omega) (by omega) (Nat.le_refl _))).trans (HB34.out.mono (by omega))
  have HB04 := hid_in hb04
  have HST4 := hid_in (HST3.out.below HB34.out)
  have HTAB4 := hid_in (HTAB.out.below hb04 HTAB.out.pos)
  clear hb04 HST1' HST3 HK3 HBA HB1 HTAB
  have HN2 := hid_in (Sb.bnew_any w4.drew 65536)
  have HS4 : Hid (∀ W, Below w4.heap.size w4 W → W.rangeAt w3.heap.size 0 V) := hid_in (fun W hW => range_row (HR4.out.below hW HR4.out.lt))
  refine wp_region_held_drew (S := fun W' => W'.rangeAt w3.heap.size 0 V) (by kernel_rfl) (HS4.out _ (below_drew w4)) (fun hHeld => ?_)
  refine take_put (i := 1) (d := 20) (v := .agg V.toArray) rfl rfl (by kernel_rfl) (by kernel_rfl) (by kernel_rfl) (fun _ _ _ h => h) (yieldsIf_load_mid (by rfl) 30 _ rfl _ _ rfl V _ (fun w hSw => hSw) Tryz.underlying30 rfl (by rw [info39, HVL.out])) hHeld ?_
  simp only [Act.put, List.setIfInBounds_toArray, List.set_cons_zero, List.set_cons_succ]
  refine wpAnyH_ready (rs := [0]) (by kernel_rfl) (by simp) ?_
  refine AllReadyH.cons rfl (fun K hK => ?_) AllReadyH.nil
  rw [if_pos (by rfl)]
  go_simp
  refine HN2.out.mono ?_
  rintro e w5 ⟨rfl, hst5, hb5⟩
  have HST5 : Hid (St w5 (w4.heap.size + 1) w4.heap.size (fun _ => none) 0 65536 0) := hid_in (by have := hst5; rw [show max (65536 : Int) 0 = 65536 by decide] at this; exact this)
  have HB5 : Hid (Below w4.heap.size w4 w5) := hid_in ((below_drew w4).trans hb5)
  clear hst5 hb5
  have HNW := hid_in (new_lack (B := w4.heap.size) HST5.out (Nat.le_succ _) (Nat.le_refl _) D3 (Sb.sum_length _) V HV rfl)
  go_simp
  refine hK.out _ _ (HS4.out _ HB5.out) (fun hHeld => ?_)
  clear hK K
  refine wpAnyH_ready (rs := [2]) (by kernel_rfl) (by simp) ?_
  refine AllReadyH.cons rfl (fun K hK => ?_) AllReadyH.nil
  rw [if_pos (by rfl)]
  go_simp
  refine HNW.out.mono ?_
  rintro e w6 ⟨c, lm, wm, ov, rfl, hc6, hb6⟩
  have HC6 := hid_in hc6
  have HB6 : Hid (Below w4.heap.size w4 w6) := hid_in (HB5.out.trans hb6)
  clear hc6 hb6
  go_simp
  refine hK.out _ _ (HS4.out _ HB6.out) (fun hHeld => ?_)
  clear hK K
  refine take_put (i := 3) (d := 18) (v := ?_) rfl rfl (by kernel_rfl) (by kernel_rfl) (by kernel_rfl) (fun _ _ _ h => h) (Or.inl ⟨by kernel_rfl, ?_⟩) hHeld ?_
  rotate_left
  · (intro w hSw; (try dsimp only at hSw); go_simp; (try with_reducible rfl))
  simp only [Act.put, List.setIfInBounds_toArray, List.set_cons_zero, List.set_cons_succ]
  refine take_put (i := 4) (d := 22) (v := ?_) rfl rfl (by kernel_rfl) (by kernel_rfl) (by kernel_rfl) (fun _ _ _ h => h) (Or.inl ⟨by kernel_rfl, ?_⟩) hHeld ?_
  rotate_left
  · (intro w hSw; (try dsimp only at hSw); go_simp; (try with_reducible rfl))
  simp only [Act.put, List.setIfInBounds_toArray, List.set_cons_zero, List.set_cons_succ]
  refine take_put (i := 5) (d := 23) (v := ?_) rfl rfl (by kernel_rfl) (by kernel_rfl) (by kernel_rfl) (fun _ _ _ h => h) (Or.inl ⟨by kernel_rfl, ?_⟩) hHeld ?_
  rotate_left
  · (intro w hSw; (try dsimp only at hSw); go_simp; (try with_reducible rfl))
  simp only [Act.put, List.setIfInBounds_toArray, List.set_cons_zero, List.set_cons_succ]
  refine take_put (i := 6) (d := 4) (v := ?_) rfl rfl (by kernel_rfl) (by kernel_rfl) (by kernel_rfl) (fun _ _ _ h => h) (Or.inl ⟨by kernel_rfl, ?_⟩) hHeld ?_
  rotate_left
  · (intro w hSw; (try dsimp only at hSw); go_simp; (try with_reducible rfl))
  simp only [Act.put, List.setIfInBounds_toArray, List.set_cons_zero, List.set_cons_succ]
  refine take_put (i := 7) (d := 5) (v := ?_) rfl rfl (by kernel_rfl) (by kernel_rfl) (by kernel_rfl) (fun _ _ _ h => h) (Or.inl ⟨by kernel_rfl, ?_⟩) hHeld ?_
  rotate_left
  · (intro w hSw; (try dsimp only at hSw); go_simp; (try with_reducible rfl))
  simp only [Act.put, List.setIfInBounds_toArray, List.set_cons_zero, List.set_cons_succ]
  refine wpAnyH_done (by kernel_rfl) ?_ _
  clear HN2 HNW HS4 HST5
  obtain ⟨B, HBe⟩ : ∃ B, Hid (B = w4.heap.size) := ⟨_, hid_in rfl⟩
  have HC0 : Hid (Cs B w6 c (w4.heap.size + 1) w4.heap.size lm wm ov (stM 0) 0 65536 (stU 0) (stT 0) (stL 0)) := hid_in (by rw [HBe.out]; exact HC6.out)
  have HCD : Hid (Cs w4.heap.size w6 c (w4.heap.size + 1) w4.heap.size lm wm ov (fun _ => none) 0 65536 0 [(D3, 3)] [(D3, 3)]) := HC6
  have HDN := hid_in (done_no HCD.out)
  have b67 : Below w6.heap.size w6 (w6.alloc (.cells #[.int .u8 120] 5 (1, 2))) := (Below.refl _ _).alloc (Nat.le_refl _) _
  have hsl7 : Sl (w6.alloc (.cells #[.int .u8 120] 5 (1, 2))) (some ⟨w6.heap.size, 0, none⟩) [120] 1 w6.heap.size 0 := by
    refine ⟨by simp, by simp, by decide, fun _ => rfl, fun j hj => ?_⟩
    match j, hj with
    | 0, _ => rw [cell_of_row _ _ _ _ _ _ (heap_alloc_new w6 _)]; rfl
  have HTAB6 := hid_in (HTAB4.out.below HB6.out HTAB4.out.pos)
  have HOF := hid_in (offer_foreign (HCD.out.cw.below b67) (HTAB6.out.below b67 HTAB6.out.pos) [120] (some ⟨w6.heap.size, 0, none⟩) w6.heap.size 0 1 hsl7 (by decide) (wantL_none hi_dist.2.2.2))
  simp only [List.length_cons, List.length_nil, Nat.zero_add] at HOF
  have HB67 := hid_in b67
  have hcv : (convert 51 51 (Value.slice (some ⟨w6.heap.size, 0, none⟩) 1 1)).run Tryz.prog (w6.alloc (.cells #[.int .u8 120] 5)) = .ok (Value.slice (some ⟨w6.heap.size, 0, none⟩) 1 1) (w6.alloc (.cells #[.int .u8 120] 5 (1, 2))) := Lib.run_convert_bytes_const w6 51 5 #[.int .u8 120] 1 1 Tryz.underlying51 Tryz.underlying5
  clear b67 hsl7 HCD HC6
  go_upto_region 7 with (first | (go_at_call 35; refine HDN.out.mono ?_; rintro e wd ⟨rfl, hwd⟩; subst wd) | (go_at_call 27; refine HOF.out.mono ?_; rintro e w8 ⟨rfl, hb8⟩; have HB8 : Hid (Below w6.heap.size w6 w8) := hid_in (HB67.out.trans (hb8.mono HB67.out.size)); clear hb8))
  clear HDN HOF HB67 hcv
  have HI0 : Hid (AwI B w4 c (w4.heap.size + 1) w4.heap.size lm wm 0 w8) := hid_in ⟨ov, HC0.out.below HB8.out, by rw [HBe.out]; exact HB6.out.trans (HB8.out.mono HB6.out.size)⟩
  have HGT : Hid (∀ W, Below B w4 W → ∀ (x : List Nat × Int) (bs : List Nat) (nd : Nd.Nd) (i : Nat), HiStep i x bs nd → ∀ (U : List Value), Hid (U = x.1.map u8v) → Calls Tryz.prog 50 #[.pointer (some ⟨w.heap.size + 1, 0, none⟩), .agg U.toArray] W fun e w' => ∃ p cap b, e = .returned (.tuple #[.slice p bs.length cap, .int .i64 0]) ∧ Sl w' p bs cap b 0 ∧ Below W.heap.size W w') := hid_in (fun W hW x bs nd i hs U hU => by
    rw [HBe.out] at hW
    exact Sb.Get_ok (HST4.out.below hW) (HTAB4.out.below hW HTAB4.out.pos) x.1 hs.len U hU bs hs.have_ hs.sum (by have := hs.short; omega))
  have HTB : Hid (∀ W, Below B w4 W → Tab W) := hid_in (fun W hW => by rw [HBe.out] at hW; exact HTAB4.out.below hW HTAB4.out.pos)
  have HB0 : Hid (w.heap.size ≤ B) := hid_in (by rw [HBe.out]; exact HB04.out.size)
  clear HC0 HB8 HB6 HB5 HTAB6 HTAB4 HST4 HBe HR4 HB34
  generalize w4.heap.size = g4 at *
  go_loopw [6] (fun vi W => ∃ i : Nat, i ≤ 3 ∧ vi = .int .i64 (i : Int) ∧ Hid (AwI B w4 c (g4 + 1) g4 lm wm i W)) (fun vi _ => 3 - (intOf vi).toNat)
  case atStart => exact ⟨0, by omega, rfl, HI0⟩
  case round =>
    obtain ⟨i, hi, rfl, hI⟩ := hrel
    by_cases hlt : i < 3
    · obtain ⟨x, bs, nd, hs⟩ := hi_step i hlt
      obtain ⟨ov1, hc, hbw⟩ := hI.out
      rw [hs.t] at hc
      obtain ⟨U, HU⟩ : ∃ U, Hid (U = x.1.map u8v) := ⟨_, hid_in rfl⟩
      have HUL : Hid (U.length = 32) := hid_in (by rw [HU.out, List.length_map]; exact hs.len)
      have HDN := hid_in (done_no hc)
      have HWN := hid_in (want_one hc U HU)
      have HG := hid_in (fun W (hW : Below wr.heap.size wr W) => HGT.out W (hbw.trans (hW.mono hc.size)) x bs nd i hs U HU)
      have HOF := hid_in (fun W (hW : Below wr.heap.size wr W) p b cap (hsl : Sl W p bs cap b 0) => offer_ok (hc.below hW) (HTB.out W (hbw.trans (hW.mono hc.size))) bs nd hs.sum hs.mean hs.kind hs.k3 p b 0 cap hsl (fun hp => by have := hsl.at_ hs.pos; rw [hp] at this; cases this) hs.short hs.u0 hs.uq (by decide) hs.none hs.full hs.kids)
      rw [← hs.m, ← hs.u, ← hs.l', ← hs.t'] at HOF
      have HBW := hid_in hbw
      have HCZ := hid_in hc.size
      have HIL := hid_in hlt
      obtain ⟨bn, Hbn⟩ : ∃ bn, Hid (bs.length = bn) := ⟨_, hid_in rfl⟩
      rw [Hbn.out] at HG HOF
      have h9 : (i : Int) < 9 := by omega
      clear hs hc hbw hlt hi HGT hI
      go_upto_region 12 with (first | (go_at_call 35; refine HDN.out.mono ?_; rintro e wd ⟨rfl, hwd⟩; subst wd) | (go_at_call 33; refine HWN.out.mono ?_; rintro e w9 ⟨b9, c9, rfl, hown9, hb9⟩; have HB9 := hid_in hb9; have HRG9 : Hid (w9.rangeAt b9 0 U) := hid_in (fun j v hv => by have := hown9.cells (g := b9) rfl j v hv; rwa [Addr.add_lit] at this); clear hown9 hb9))
      clear HDN HWN
      go_upto_region 13 with (first | (refine wpList_load_mid rfl 30 _ rfl b9 _ rfl U _ HRG9.out Tryz.underlying30 rfl (by rw [info39, HUL.out]) ?_) | (go_at_call 50; refine (HG.out _ HB9.out).mono ?_; rintro e w10 ⟨p10, c10, b10, rfl, hsl10, hb10⟩; have HSL10 := hid_in hsl10; have HB10 := hid_in (HB9.out.trans (hb10.mono HB9.out.size)); clear hsl10 hb10))
      clear HG HRG9
      go_wp2_with (first | (go_at_call 27; refine (HOF.out _ HB10.out _ _ _ HSL10.out).mono ?_; rintro e w11 ⟨rfl, ov2, hc11, hb11⟩; have HC11 := hid_in hc11; have HB11 := hid_in hb11; clear hc11 hb11))
      go_roundw
      case rel =>
        refine ⟨i + 1, by have := HIL.out; omega, by go_num, ?_⟩
        exact ⟨ov2, HC11.out, (HBW.out.trans (HB10.out.mono HCZ.out)).trans HB11.out⟩
      case measure => have := HIL.out; simp [intOf]; omega
    · obtain rfl : i = 3 := by omega
      obtain ⟨ov1, hc, hbw⟩ := hI.out
      have HDN := hid_in (done_yes (show Cs B wr c (g4 + 1) g4 lm wm ov1 (stM 3) 3 65536 (stU 3) [] (stL 3) from hc))
      have HBW := hid_in hbw
      clear hc hbw hI hi hlt
      go_wp2_with (first | (go_at_call 35; refine HDN.out.mono ?_; rintro e wd ⟨rfl, hwd⟩; subst wd))
      go_ret
      exact ⟨rfl, HB04.out.trans (HBW.out.mono HB0.out)⟩
end Go.Proofs.YtamaejlbojbbeaaGreatDoor.Tr
namespace Go.Proofs.YtamaejlbojbbeaaGreatDoor.Tr
open Go.RowKit
open Nd (take_put)
open Sb (hid_in Row Sl T5 BL u8v Tab wp_world grownBy_setCell below_of_grown info39 one_u8 splice_all St Kp needI layI cntI)
set_option maxHeartbeats 2000000 in
set_option maxRecDepth 100000 in
theorem digests_one (d : List Nat) (hd : d.length = 32) (D : List Value) (HD : Hid (D = d.map u8v)) (a b c1 c2 : Nat) (w : World) (ha : w.rangeAt a 0 D) (hb : w.rangeAt b 0 D) :
    Calls Tryz.prog 32 #[.slice (some ⟨a, 0, none⟩) 1 c1, .slice (some ⟨b, 0, none⟩) 1 c2] w fun e w' => e = .returned (.bool true) ∧ Below w.heap.size w w' := by
  have HDL : Hid (D.length = 32) := hid_in (by rw [HD.out, List.length_map]; exact hd)
  have heq := fun W => Sb.neq39 d d hd hd D D HD HD true (by simp) W
  have HK : Hid (w.drew.rangeAt a 0 D ∧ w.drew.rangeAt b 0 D) := hid_in ⟨ha, hb⟩
  clear ha hb hd
  go_enter Tryz.func32, Tryz.ntmps32
  go_wp2_with fail
  refine wp_loop_rounds 2 ?_
  rw [rounds_succ]
  go_upto_region 6 with fail
  refine wp_region_held_drew (S := fun W' => W'.rangeAt a 0 D ∧ W'.rangeAt b 0 D) (by kernel_rfl) HK.out (fun hHeld => ?_)
  refine take_put (i := 0) (d := 17) (v := ?_) rfl rfl (by kernel_rfl) (by kernel_rfl) (by kernel_rfl) (fun _ _ _ h => h) (Or.inl ⟨by kernel_rfl, ?_⟩) hHeld ?_
  rotate_left
  · (intro w hSw; (try dsimp only at hSw); go_simp; (try with_reducible rfl))
  simp only [Act.put, List.setIfInBounds_toArray, List.set_cons_zero, List.set_cons_succ]
  refine take_put (i := 1) (d := 18) (v := ?_) rfl rfl (by kernel_rfl) (by kernel_rfl) (by kernel_rfl) (fun _ _ _ h => h) (Or.inl ⟨by kernel_rfl, ?_⟩) hHeld ?_
  rotate_left
  · (intro w hSw; (try dsimp only at hSw); go_simp; (try with_reducible rfl))
  simp only [Act.put, List.setIfInBounds_toArray, List.set_cons_zero, List.set_cons_succ]
  refine take_put (i := 2) (d := 19) (v := ?_) rfl rfl (by kernel_rfl) (by kernel_rfl) (by kernel_rfl) (fun _ _ _ h => h) (Or.inl ⟨by kernel_rfl, ?_⟩) hHeld ?_
  rotate_left
  · (intro w hSw; (try dsimp only at hSw); go_simp; (try with_reducible rfl))
  simp only [Act.put, List.setIfInBounds_toArray, List.set_cons_zero, List.set_cons_succ]
  refine take_put (i := 3) (d := 20) (v := .agg D.toArray) rfl rfl (by kernel_rfl) (by kernel_rfl) (by kernel_rfl) (fun _ _ _ h => h) (yieldsIf_load_mid (by rfl) 30 _ rfl _ _ rfl D _ (fun w hSw => hSw.1) Tryz.underlying30 rfl (by rw [info39, HDL.out])) hHeld ?_
  simp only [Act.put, List.setIfInBounds_toArray, List.set_cons_zero, List.set_cons_succ]
  refine take_put (i := 4) (d := 21) (v := ?_) rfl rfl (by kernel_rfl) (by kernel_rfl) (by kernel_rfl) (fun _ _ _ h => h) (Or.inl ⟨by kernel_rfl, ?_⟩) hHeld ?_
  rotate_left
  · (intro w hSw; (try dsimp only at hSw); go_simp; (try with_reducible rfl))
  simp only [Act.put, List.setIfInBounds_toArray, List.set_cons_zero, List.set_cons_succ]
  refine take_put (i := 5) (d := 22) (v := ?_) rfl rfl (by kernel_rfl) (by kernel_rfl) (by kernel_rfl) (fun _ _ _ h => h) (Or.inl ⟨by kernel_rfl, ?_⟩) hHeld ?_
  rotate_left
  · (intro w hSw; (try dsimp only at hSw); go_simp; (try with_reducible rfl))
  simp only [Act.put, List.setIfInBounds_toArray, List.set_cons_zero, List.set_cons_succ]
  refine take_put (i := 6) (d := 23) (v := ?_) rfl rfl (by kernel_rfl) (by kernel_rfl) (by kernel_rfl) (fun _ _ _ h => h) (Or.inl ⟨by kernel_rfl, ?_⟩) hHeld ?_
  rotate_left
  · (intro w hSw; (try dsimp only at hSw); go_simp; (try with_reducible rfl))
  simp only [Act.put, List.setIfInBounds_toArray, List.set_cons_zero, List.set_cons_succ]
  refine take_put (i := 7) (d := 24) (v := .agg D.toArray) rfl rfl (by kernel_rfl) (by kernel_rfl) (by kernel_rfl) (fun _ _ _ h => h) (yieldsIf_load_mid (by rfl) 30 _ rfl _ _ rfl D _ (fun w hSw => hSw.2) Tryz.underlying30 rfl (by rw [info39, HDL.out])) hHeld ?_
  simp only [Act.put, List.setIfInBounds_toArray, List.set_cons_zero, List.set_cons_succ]
  refine take_put (i := 8) (d := 25) (v := .bool false) rfl rfl (by kernel_rfl) (by kernel_rfl) (by kernel_rfl) (fun _ _ _ h => h) (Or.inl ⟨by kernel_rfl, fun w hSw => ?_⟩) hHeld ?_
  · (go_simp)
  simp only [Act.put, List.setIfInBounds_toArray, List.set_cons_zero, List.set_cons_succ]
  refine wpAnyH_done (by kernel_rfl) ?_ _
  go_wp2_with fail
  rw [rounds_succ]
  go_wp2
  go_ret
  exact ⟨rfl, below_drew w⟩
set_option maxHeartbeats 2000000 in
set_option maxRecDepth 100000 in
theorem few_any (w : World) (v : Value) (fs : List Fil) (h : Fls w v fs) (lb : Nat) (hc : w.cell? ⟨lb, 0, none⟩ = some v) :
    Calls Tryz.prog 8 #[.slice (some ⟨lb, 0, none⟩) 1 1] w fun e w' => (∃ t, e = .returned (.bool t)) ∧ w' = w := by
  obtain ⟨p, cap, b, o, rfl, h1, h2, h3, h4⟩ := h
  have HC : Hid (∀ (j : Nat), j < fs.length → ∃ s : ByteArray, p = some ⟨b, o, none⟩ ∧ w.cell? ⟨b, o + j * 3 + 2, none⟩ = some (.string s)) := hid_in (fun j hj => by
    refine ⟨fs[j].data, (h3 (by intro e; rw [e] at hj; simp at hj)).1, ?_⟩
    exact h4 j fs[j] (List.getElem?_eq_getElem hj) 2 _ rfl)
  have HN : Hid (fs.length ≤ 9223372036854775807) := hid_in (by omega)
  generalize fs.length = N at *
  clear h1 h2 h3 h4
  go_enter Tryz.func8, Tryz.ntmps8
  go_wp2_with fail
  refine wp_loop_rounds 2 ?_
  rw [rounds_succ]
  go_upto_region 6 with fail
  go_loopw [5, 3] (fun vj vs W => W = w ∧ ∃ (j : Nat) (s : Int), j ≤ N ∧ vj = .int .i64 (j : Int) ∧ vs = .int .i64 s) (fun vj _ _ => N - (intOf vj).toNat)
  case atStart => exact ⟨rfl, 0, 0, by omega, rfl, rfl⟩
  case round =>
    obtain ⟨rfl, j, s, hj, rfl, rfl⟩ := hrel
    by_cases hlt : j < N
    · obtain ⟨str, rfl, hcell⟩ := HC.out j hlt
      have hN : (N : Int) ≤ 9223372036854775807 := by have := HN.out; omega
      have HJ := hid_in hj
      have HL := hid_in hlt
      have hlt2 : (j : Int) < (N : Int) := by omega
      clear hj hlt
      go_wp2
      go_roundw
      case rel =>
        exact ⟨trivial, j + 1, _, by have := HL.out; omega, by go_num, rfl⟩
      case measure => have := HL.out; simp [intOf]; omega
    · obtain rfl : j = N := by omega
      clear hj hlt
      go_wp2_with fail
      rw [rounds_succ]
      go_wp2
      go_ret
      exact ⟨⟨_, rfl⟩, rfl⟩
end Go.Proofs.YtamaejlbojbbeaaGreatDoor.Tr
namespace Go.Proofs.YtamaejlbojbbeaaGreatDoor.Sb
open Go.RowKit
attribute [local go_sem] noPanic_exit noPanic_normal
set_option maxHeartbeats 1000000 in
set_option maxRecDepth 1000000 in
theorem rloop2 (bs : List Nat) (z : Nat) (hz : Hid (z = (119 - bs.length % 64) % 64)) (B : Nat) (v0 : Value) (a0 w : World) (c0 c1 c2 c6 c7 c8 c9 c10 c11 c12 c13 c14 c15 c16 c17 c18 c19 c20 c21 c22 c23 c24 c25 c26 c27 c28 c29 c30 c31 c32 c33 c34 c35 c36 c37 c38 c39 c40 c41 c42 c43 c44 c45 c46 c47 c48 c49 c50 c51 c52 c53 c54 c55 c56 c57 c58 c59 c60 c61 c62 c63 c64 c65 c66 c67 c68 c69 c70 c71 c72 c73 c74 c75 c76 c77 c78 c79 c80 c81 c82 c83 c84 c85 c86 c87 c88 c89 c90 c91 c92 c93 c94 c95 c96 c97 c98 c99 c100 c101 c102 c103 c104 c105 c106 c107 c108 c109 c110 c111 c112 c113 c114 c115 c116 c117 c118 c119 c120 c121 c122 c123 c124 c125 c126 c127 c128 c129 c130 c131 c132 c133 c134 c135 c136 c137 c138 c139 c140 c141 c142 c143 c144 c145 c146 c147 c148 c149 c150 c151 c152 c153 c154 c155 c156 c157 c158 c159 c160 c161 c162 c163 c164 c165 c166 c167 c168 c169 c170 c171 c172 c173 c174 c175 c176 c177 c178 c179 c180 c181 c182 c183 c184 c185 c186 c187 c188 c189 c190 c191 c192 c193 c194 c195 c196 c197 c198 c199 c200 c201 c202 c203 c204 c205 c206 c207 c208 c209 c210 c211 c212 c213 c214 c215 c216 c217 c218 c219 c220 c221 c222 c223 c224 c225 c226 c227 c228 c229 c230 c231 c232 c233 c234 c235 c236 c237 c238 : Value) (Q : Exit → Act → World → Prop)
    (hlen : bs.length ≤ 140737488351232) (hown : w.ownsRow B 5 1 v0 (bs.length + (1 + z)) ((bs ++ (Sha.ending bs.length).take (1 + z)).map u8v)) (hbel : Below B a0 w) (hBs : B ≤ w.heap.size)
    (hexit : ∀ (v3 v5 v40 v41 v42 v43 v44 v45 v46 v47 v48 v49 v50 v51 v52 v53 : Value) (w' : World), w'.ownsRow B 5 1 v3 (bs.length + (1 + z + 8)) ((bs ++ Sha.ending bs.length).map u8v) ∧ Below B a0 w' ∧ B ≤ w'.heap.size → Q (.exit 2) ⟨List.toArray (c0 :: c1 :: c2 :: v3 :: .int .u64 ((bs.length : Int) * 8) :: v5 :: c6 :: c7 :: c8 :: c9 :: c10 :: c11 :: c12 :: c13 :: c14 :: c15 :: c16 :: c17 :: c18 :: c19 :: c20 :: c21 :: c22 :: c23 :: c24 :: c25 :: c26 :: c27 :: c28 :: c29 :: c30 :: c31 :: c32 :: c33 :: c34 :: c35 :: c36 :: c37 :: c38 :: c39 :: v40 :: v41 :: v42 :: v43 :: v44 :: v45 :: v46 :: v47 :: v48 :: v49 :: v50 :: v51 :: v52 :: v53 :: c54 :: c55 :: c56 :: c57 :: c58 :: c59 :: c60 :: c61 :: c62 :: c63 :: c64 :: c65 :: c66 :: c67 :: c68 :: c69 :: c70 :: c71 :: c72 :: c73 :: c74 :: c75 :: c76 :: c77 :: c78 :: c79 :: c80 :: c81 :: c82 :: c83 :: c84 :: c85 :: c86 :: c87 :: c88 :: c89 :: c90 :: c91 :: c92 :: c93 :: c94 :: c95 :: c96 :: c97 :: c98 :: c99 :: c100 :: c101 :: c102 :: c103 :: c104 :: c105 :: c106 :: c107 :: c108 :: c109 :: c110 :: c111 :: c112 :: c113 :: c114 :: c115 :: c116 :: c117 :: c118 :: c119 :: c120 :: c121 :: c122 :: c123 :: c124 :: c125 :: c126 :: c127 :: c128 :: c129 :: c130 :: c131 :: c132 :: c133 :: c134 :: c135 :: c136 :: c137 :: c138 :: c139 :: c140 :: c141 :: c142 :: c143 :: c144 :: c145 :: c146 :: c147 :: c148 :: c149 :: c150 :: c151 :: c152 :: c153 :: c154 :: c155 :: c156 :: c157 :: c158 :: c159 :: c160 :: c161 :: c162 :: c163 :: c164 :: c165 :: c166 :: c167 :: c168 :: c169 :: c170 :: c171 :: c172 :: c173 :: c174 :: c175 :: c176 :: c177 :: c178 :: c179 :: c180 :: c181 :: c182 :: c183 :: c184 :: c185 :: c186 :: c187 :: c188 :: c189 :: c190 :: c191 :: c192 :: c193 :: c194 :: c195 :: c196 :: c197 :: c198 :: c199 :: c200 :: c201 :: c202 :: c203 :: c204 :: c205 :: c206 :: c207 :: c208 :: c209 :: c210 :: c211 :: c212 :: c213 :: c214 :: c215 :: c216 :: c217 :: c218 :: c219 :: c220 :: c221 :: c222 :: c223 :: c224 :: c225 :: c226 :: c227 :: c228 :: c229 :: c230 :: c231 :: c232 :: c233 :: c234 :: c235 :: c236 :: c237 :: c238 :: []), []⟩ w') :
    Code.wp Tryz.prog (.loop ((loopsIn (Tryz.f34.body.getD .skip)).getD 1 .skip)) Q ⟨List.toArray (c0 :: c1 :: c2 :: v0 :: .int .u64 ((bs.length : Int) * 8) :: .int .i64 0 :: c6 :: c7 :: c8 :: c9 :: c10 :: c11 :: c12 :: c13 :: c14 :: c15 :: c16 :: c17 :: c18 :: c19 :: c20 :: c21 :: c22 :: c23 :: c24 :: c25 :: c26 :: c27 :: c28 :: c29 :: c30 :: c31 :: c32 :: c33 :: c34 :: c35 :: c36 :: c37 :: c38 :: c39 :: c40 :: c41 :: c42 :: c43 :: c44 :: c45 :: c46 :: c47 :: c48 :: c49 :: c50 :: c51 :: c52 :: c53 :: c54 :: c55 :: c56 :: c57 :: c58 :: c59 :: c60 :: c61 :: c62 :: c63 :: c64 :: c65 :: c66 :: c67 :: c68 :: c69 :: c70 :: c71 :: c72 :: c73 :: c74 :: c75 :: c76 :: c77 :: c78 :: c79 :: c80 :: c81 :: c82 :: c83 :: c84 :: c85 :: c86 :: c87 :: c88 :: c89 :: c90 :: c91 :: c92 :: c93 :: c94 :: c95 :: c96 :: c97 :: c98 :: c99 :: c100 :: c101 :: c102 :: c103 :: c104 :: c105 :: c106 :: c107 :: c108 :: c109 :: c110 :: c111 :: c112 :: c113 :: c114 :: c115 :: c116 :: c117 :: c118 :: c119 :: c120 :: c121 :: c122 :: c123 :: c124 :: c125 :: c126 :: c127 :: c128 :: c129 :: c130 :: c131 :: c132 :: c133 :: c134 :: c135 :: c136 :: c137 :: c138 :: c139 :: c140 :: c141 :: c142 :: c143 :: c144 :: c145 :: c146 :: c147 :: c148 :: c149 :: c150 :: c151 :: c152 :: c153 :: c154 :: c155 :: c156 :: c157 :: c158 :: c159 :: c160 :: c161 :: c162 :: c163 :: c164 :: c165 :: c166 :: c167 :: c168 :: c169 :: c170 :: c171 :: c172 :: c173 :: c174 :: c175 :: c176 :: c177 :: c178 :: c179 :: c180 :: c181 :: c182 :: c183 :: c184 :: c185 :: c186 :: c187 :: c188 :: c189 :: c190 :: c191 :: c192 :: c193 :: c194 :: c195 :: c196 :: c197 :: c198 :: c199 :: c200 :: c201 :: c202 :: c203 :: c204 :: c205 :: c206 :: c207 :: c208 :: c209 :: c210 :: c211 :: c212 :: c213 :: c214 :: c215 :: c216 :: c217 :: c218 :: c219 :: c220 :: c221 :: c222 :: c223 :: c224 :: c225 :: c226 :: c227 :: c228 :: c229 :: c230 :: c231 :: c232 :: c233 :: c234 :: c235 :: c236 :: c237 :: c238 :: []), []⟩ w := by
  conv => arg 2; arg 1; whnf
  refine Code.wp_mono (noPanic_of Q) ?_
  obtain ⟨i5i, hi5, he5⟩ := Option.map_eq_some_iff.1 i5
  simp only [Prod.mk.injEq] at he5
  obtain ⟨e1, e2, e3⟩ := he5
  have HI5 : Hid (Tryz.prog.info? 5 = some i5i) := hi5
  have HE1 : Hid (i5i.size = 1) := e1
  have HE2 : Hid (i5i.bytes = 1) := e2
  have HE3 : Hid (i5i.zero = some (.int .u8 0)) := e3
  clear hi5 e1 e2 e3
  go_loopw [3, 5] (fun v vi w' => ∃ i : Nat, i ≤ 8 ∧ vi = .int .i64 (i : Int) ∧ w'.ownsRow B 5 1 v (bs.length + (1 + z + i)) ((bs ++ (Sha.ending bs.length).take (1 + z + i)).map u8v) ∧ Below B a0 w' ∧ B ≤ w'.heap.size) (fun _ vi _ => 8 - (intOf vi).toNat)
  case atStart => exact ⟨0, by omega, rfl, hown, hbel, hBs⟩
  case round =>
    clear hown hbel hBs
    obtain ⟨i, hi, rfl, hown, hbel, hBs⟩ := hrel
    obtain ⟨g, cap, rfl, _, _⟩ := hown.form (by omega)
    obtain ⟨N, hN⟩ : ∃ N, N = bs.length + (1 + z + i) := ⟨_, rfl⟩
    obtain ⟨L, hL⟩ : ∃ L, L = bs.length := ⟨_, rfl⟩
    have HN : Hid (N = bs.length + (1 + z + i)) := hN
    have HL : Hid (L = bs.length) := hL
    have HZ := hz.out
    have HOWN : Hid (wr.ownsRow B 5 1 (.slice (some ⟨g, 0, none⟩) N cap) N ((bs ++ (Sha.ending bs.length).take (1 + z + i)).map u8v)) := by rw [hN]; exact hown
    have HBEL : Hid (Below B a0 wr) := hbel
    rw [← hN, ← hL]
    clear hown hbel
    by_cases hlt : i < 8
    · have k2 : N + 1 ≤ 140737488355328 := by omega
      have k3 : L ≤ 140737488351232 := by omega
      have HT : Hid ((Sha.ending bs.length).take (1 + z + i + 1) = (Sha.ending bs.length).take (1 + z + i) ++ [L * 8 / 2 ^ (56 - 8 * i) % 256]) := by
        show _ = _
        rw [ending_take_succ _ _ (by rw [ending_length]; omega), HZ, ending_count _ _ hlt, hL]
      clear hexit hN HZ hlen hL
      go_wp2_with (at_builtin; refine wpList_append_one rfl _ _ 51 rfl B 5 i5i (.int .u8 0) Tryz.underlying51 HI5.out HE3.out HE1.out HE2.out rfl _ _ _ rfl HOWN.out 5 _ rfl rfl k2 hBs ?_; intro v1 w1 hown1 hb1 hs1)
      go_roundw
      case rel =>
        go_light
        obtain rfl := HL.out
        have e0 : (bs.length : Int) * 8 / 2 ^ (56 - 8 * i) % 256 = ((bs.length * 8 / 2 ^ (56 - 8 * i) % 256 : Nat) : Int) := by simp
        rw [e0] at hown1
        refine ⟨i + 1, by omega, by go_num, ?_, hb1 _ HBEL.out, hs1⟩
        have e := HN.out
        rw [show 1 + z + (i + 1) = 1 + z + i + 1 by omega, HT.out, ← List.append_assoc, List.map_append, show bs.length + (1 + z + i + 1) = N + 1 by omega]
        exact hown1
      case measure => simp [intOf]; omega
    · have HI : Hid (i = 8) := by show i = 8; omega
      clear hN HZ hlen
      go_wp2
      obtain rfl := HL.out
      refine hexit _ _ _ _ _ _ _ _ _ _ _ _ _ _ _ _ _ ⟨?_, HBEL.out, hBs⟩
      have h := HOWN.out
      rw [HI.out, List.take_of_length_le (by rw [ending_length, ← hz.out]; omega)] at h
      have e := HN.out
      rw [HI.out] at e
      rw [← e]
      exact h
end Go.Proofs.YtamaejlbojbbeaaGreatDoor.Sb
namespace Go.Proofs.YtamaejlbojbbeaaGreatDoor.Sb
open Go.RowKit
attribute [local go_sem] noPanic_exit noPanic_normal
set_option maxHeartbeats 1000000 in
set_option maxRecDepth 1000000 in
theorem rloop5 (bl : List Nat) (hby : ∀ x ∈ bl, x < 256) (g off L C wb at_ t : Nat) (cs : List Nat) (w : World) (c0 c1 c2 c4 c5 c6 c11 c12 c13 c14 c15 c16 c17 c18 c19 c20 c21 c22 c23 c24 c25 c26 c27 c28 c29 c30 c31 c32 c33 c34 c35 c36 c37 c38 c39 c40 c41 c42 c43 c44 c45 c46 c47 c48 c49 c50 c51 c52 c53 c54 c55 c56 c57 c58 c59 c60 c61 c62 c63 c64 c65 c66 c67 c68 c69 c70 c71 c72 c73 c74 c75 c76 c77 c78 c79 c80 c81 c82 c83 c84 c85 c86 c87 c88 c89 c90 c91 c92 c93 c94 c95 c96 c97 c98 c99 c100 c101 c102 c103 c104 c105 c106 c107 c108 c109 c110 c111 c112 c113 c114 c115 c116 c117 c118 c119 c120 c121 c122 c123 c124 c125 c126 c127 c128 c129 c130 c131 c132 c133 c134 c135 c136 c137 c138 c139 c140 c141 c142 c143 c144 c145 c146 c147 c148 c149 c150 c151 c152 c153 c154 c155 c156 c157 c158 c159 c160 c161 c162 c163 c164 c165 c166 c167 c168 c169 c170 c171 c172 c173 c174 c175 c176 c177 c178 c179 c180 c181 c182 c183 c184 c185 c186 c187 c188 c189 c190 c191 c192 c193 c194 c195 c196 c197 c198 c199 c200 c201 c202 c203 c204 c205 c206 c207 c208 c209 c210 c211 c212 c213 c214 c215 c216 c217 c218 c219 c220 c221 c222 c223 c224 c225 c226 c227 c228 c229 c230 c231 c232 c233 c234 c235 c236 c237 c238 : Value) (Q : Exit → Act → World → Prop)
    (ht : t < 16) (hne : wb ≠ g) (hat : at_ + 64 ≤ L) (hL : L ≤ 281474976710656) (hc : cs.length = 64) (hrow : Row w wb (cs.map u32v) 157) (h0 : cs.getD t 0 = 0) (hsrc : ∀ j, j < 64 → w.cell? ⟨g, off + (at_ + j), none⟩ = some (u8v (bl.getD j 0)))
    (hexit : ∀ (v10 v69 v70 v71 v72 v73 v74 v75 v76 v77 v78 v79 v80 v81 v82 v83 v84 v85 v86 v87 v88 v89 : Value) (w' : World), Row w' wb ((cs.set t (Sha.word0 bl t)).map u32v) 157 ∧ w.grownBy w' (some wb) ∧ w'.heap.size = w.heap.size → Q (.exit 8) ⟨List.toArray (c0 :: c1 :: c2 :: .slice (some ⟨g, off, none⟩) L C :: c4 :: c5 :: c6 :: .pointer (some ⟨wb, 0, none⟩) :: .int .i64 (at_ : Int) :: .int .i64 (t : Int) :: v10 :: c11 :: c12 :: c13 :: c14 :: c15 :: c16 :: c17 :: c18 :: c19 :: c20 :: c21 :: c22 :: c23 :: c24 :: c25 :: c26 :: c27 :: c28 :: c29 :: c30 :: c31 :: c32 :: c33 :: c34 :: c35 :: c36 :: c37 :: c38 :: c39 :: c40 :: c41 :: c42 :: c43 :: c44 :: c45 :: c46 :: c47 :: c48 :: c49 :: c50 :: c51 :: c52 :: c53 :: c54 :: c55 :: c56 :: c57 :: c58 :: c59 :: c60 :: c61 :: c62 :: c63 :: c64 :: c65 :: c66 :: c67 :: c68 :: v69 :: v70 :: v71 :: v72 :: v73 :: v74 :: v75 :: v76 :: v77 :: v78 :: v79 :: v80 :: v81 :: v82 :: v83 :: v84 :: v85 :: v86 :: v87 :: v88 :: v89 :: c90 :: c91 :: c92 :: c93 :: c94 :: c95 :: c96 :: c97 :: c98 :: c99 :: c100 :: c101 :: c102 :: c103 :: c104 :: c105 :: c106 :: c107 :: c108 :: c109 :: c110 :: c111 :: c112 :: c113 :: c114 :: c115 :: c116 :: c117 :: c118 :: c119 :: c120 :: c121 :: c122 :: c123 :: c124 :: c125 :: c126 :: c127 :: c128 :: c129 :: c130 :: c131 :: c132 :: c133 :: c134 :: c135 :: c136 :: c137 :: c138 :: c139 :: c140 :: c141 :: c142 :: c143 :: c144 :: c145 :: c146 :: c147 :: c148 :: c149 :: c150 :: c151 :: c152 :: c153 :: c154 :: c155 :: c156 :: c157 :: c158 :: c159 :: c160 :: c161 :: c162 :: c163 :: c164 :: c165 :: c166 :: c167 :: c168 :: c169 :: c170 :: c171 :: c172 :: c173 :: c174 :: c175 :: c176 :: c177 :: c178 :: c179 :: c180 :: c181 :: c182 :: c183 :: c184 :: c185 :: c186 :: c187 :: c188 :: c189 :: c190 :: c191 :: c192 :: c193 :: c194 :: c195 :: c196 :: c197 :: c198 :: c199 :: c200 :: c201 :: c202 :: c203 :: c204 :: c205 :: c206 :: c207 :: c208 :: c209 :: c210 :: c211 :: c212 :: c213 :: c214 :: c215 :: c216 :: c217 :: c218 :: c219 :: c220 :: c221 :: c222 :: c223 :: c224 :: c225 :: c226 :: c227 :: c228 :: c229 :: c230 :: c231 :: c232 :: c233 :: c234 :: c235 :: c236 :: c237 :: c238 :: []), []⟩ w') :
    Code.wp Tryz.prog (.loop ((loopsIn ((loopsIn ((loopsIn (Tryz.f34.body.getD .skip)).getD 2 .skip)).getD 0 .skip)).getD 0 .skip)) Q ⟨List.toArray (c0 :: c1 :: c2 :: .slice (some ⟨g, off, none⟩) L C :: c4 :: c5 :: c6 :: .pointer (some ⟨wb, 0, none⟩) :: .int .i64 (at_ : Int) :: .int .i64 (t : Int) :: .int .i64 0 :: c11 :: c12 :: c13 :: c14 :: c15 :: c16 :: c17 :: c18 :: c19 :: c20 :: c21 :: c22 :: c23 :: c24 :: c25 :: c26 :: c27 :: c28 :: c29 :: c30 :: c31 :: c32 :: c33 :: c34 :: c35 :: c36 :: c37 :: c38 :: c39 :: c40 :: c41 :: c42 :: c43 :: c44 :: c45 :: c46 :: c47 :: c48 :: c49 :: c50 :: c51 :: c52 :: c53 :: c54 :: c55 :: c56 :: c57 :: c58 :: c59 :: c60 :: c61 :: c62 :: c63 :: c64 :: c65 :: c66 :: c67 :: c68 :: c69 :: c70 :: c71 :: c72 :: c73 :: c74 :: c75 :: c76 :: c77 :: c78 :: c79 :: c80 :: c81 :: c82 :: c83 :: c84 :: c85 :: c86 :: c87 :: c88 :: c89 :: c90 :: c91 :: c92 :: c93 :: c94 :: c95 :: c96 :: c97 :: c98 :: c99 :: c100 :: c101 :: c102 :: c103 :: c104 :: c105 :: c106 :: c107 :: c108 :: c109 :: c110 :: c111 :: c112 :: c113 :: c114 :: c115 :: c116 :: c117 :: c118 :: c119 :: c120 :: c121 :: c122 :: c123 :: c124 :: c125 :: c126 :: c127 :: c128 :: c129 :: c130 :: c131 :: c132 :: c133 :: c134 :: c135 :: c136 :: c137 :: c138 :: c139 :: c140 :: c141 :: c142 :: c143 :: c144 :: c145 :: c146 :: c147 :: c148 :: c149 :: c150 :: c151 :: c152 :: c153 :: c154 :: c155 :: c156 :: c157 :: c158 :: c159 :: c160 :: c161 :: c162 :: c163 :: c164 :: c165 :: c166 :: c167 :: c168 :: c169 :: c170 :: c171 :: c172 :: c173 :: c174 :: c175 :: c176 :: c177 :: c178 :: c179 :: c180 :: c181 :: c182 :: c183 :: c184 :: c185 :: c186 :: c187 :: c188 :: c189 :: c190 :: c191 :: c192 :: c193 :: c194 :: c195 :: c196 :: c197 :: c198 :: c199 :: c200 :: c201 :: c202 :: c203 :: c204 :: c205 :: c206 :: c207 :: c208 :: c209 :: c210 :: c211 :: c212 :: c213 :: c214 :: c215 :: c216 :: c217 :: c218 :: c219 :: c220 :: c221 :: c222 :: c223 :: c224 :: c225 :: c226 :: c227 :: c228 :: c229 :: c230 :: c231 :: c232 :: c233 :: c234 :: c235 :: c236 :: c237 :: c238 :: []), []⟩ w := by
  conv => arg 2; arg 1; whnf
  refine Code.wp_mono (noPanic_of Q) ?_
  go_loopw [10] (fun v w' => ∃ k : Nat, k ≤ 4 ∧ v = .int .i64 (k : Int) ∧ Row w' wb ((cs.set t (pw bl t k)).map u32v) 157 ∧ w.grownBy w' (some wb) ∧ w'.heap.size = w.heap.size) (fun v _ => 4 - (intOf v).toNat)
  case atStart =>
    refine ⟨0, by omega, rfl, ?_, grownBy_refl _ _, rfl⟩
    have e : cs.set t (pw bl t 0) = cs := by
      refine List.ext_getElem? fun j => ?_
      rw [List.getElem?_set]
      split
      · rename_i hj
        subst hj
        rw [if_pos (by omega), pw, ← h0]
        simp [show t < cs.length by omega]
      · rfl
    rw [e]; exact hrow
  case round =>
    obtain ⟨k, hk, rfl, hr, hg, hs⟩ := hrel
    have HG : Hid (w.grownBy wr (some wb)) := hg
    have HS : Hid (wr.heap.size = w.heap.size) := hs
    by_cases hlt : k < 4
    · have c1 : wr.cell? ⟨wb, t, none⟩ = some (.int .u32 ((pw bl t k : Nat) : Int)) := by
        rw [hr.cellMap t (by simp; omega)]; simp [show t < cs.length by omega, u32v]
      have f1 := hr.frozen t
      have c2 : wr.cell? ⟨g, off + (at_ + 4 * t + k), none⟩ = some (.int .u8 ((bl.getD (4 * t + k) 0 : Nat) : Int)) := by
        rw [Nat.add_assoc at_]
        exact hg.cell (hsrc (4 * t + k) (by omega)) (by simp; omega)
      have b1 := pw_lt bl hby t k hlt
      have b2 : bl.getD (4 * t + k) 0 < 256 := getD_lt hby _
      have HP : Hid (pw bl t (k + 1) = pw bl t k * 256 + bl.getD (4 * t + k) 0) := rfl
      generalize bl.getD (4 * t + k) 0 = y at c2 b2 HP
      generalize hx : pw bl t k = x at c1 b1 HP hr
      clear hexit hsrc h0 hg hs hx hrow
      go_wp2
      go_region
      go_wp2
      go_roundw
      case rel =>
        go_light
        rw [pw_form x y b1 b2, ← HP.out]
        refine ⟨k + 1, by omega, by go_num, ?_, ?_, ?_⟩
        · have := hr.set_same t (u32v (pw bl t (k + 1)))
          rw [← List.map_set, List.set_set] at this
          exact this.drew
        · exact grownBy_trans (grownBy_trans HG.out (grownBy_setCell wr ⟨wb, t, none⟩ _)) (grownBy_drew _ _)
        · simpa [World.setCell] using HS.out
      case measure => simp [intOf]; omega
    · have HK : Hid (k = 4) := by show k = 4; omega
      go_wp2
      rw [HK.out, pw_all] at hr
      exact hexit _ _ _ _ _ _ _ _ _ _ _ _ _ _ _ _ _ _ _ _ _ _ _ ⟨hr, HG.out, HS.out⟩
end Go.Proofs.YtamaejlbojbbeaaGreatDoor.Sb
