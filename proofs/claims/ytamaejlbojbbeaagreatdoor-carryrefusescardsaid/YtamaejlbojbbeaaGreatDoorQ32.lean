/-
  CarryRefuses: the walk. What comes in: the table, files, a slice of bytes.
-/
import Derived.Deep.CutRange
import Derived.Test.YtamaejlbojbbeaaGreatDoorCards
import Derived.Test.YtamaejlbojbbeaaGreatDoorTie
import Derived.WalkKit
import Derived.ProofKit
import Derived.OpenShut
import Derived.ShutString
import Derived.ChangeOld
import Derived.Deep.DeepHandedRow
import Derived.Deep.Slices
import Derived.Lib.LaidTab
import Derived.SizedLaws
import Derived.Test.YtamaejlbojbbeaaGreatDoorQ00
import Derived.Test.YtamaejlbojbbeaaGreatDoorQ01
import Derived.Test.YtamaejlbojbbeaaGreatDoorQ02
import Derived.Test.YtamaejlbojbbeaaGreatDoorQ03
import Derived.Test.YtamaejlbojbbeaaGreatDoorQ04
import Derived.Test.YtamaejlbojbbeaaGreatDoorQ05
import Derived.Test.YtamaejlbojbbeaaGreatDoorQ06
import Derived.Test.YtamaejlbojbbeaaGreatDoorQ07
import Derived.Test.YtamaejlbojbbeaaGreatDoorQ08
import Derived.Test.YtamaejlbojbbeaaGreatDoorQ09
import Derived.Test.YtamaejlbojbbeaaGreatDoorQ10
import Derived.Test.YtamaejlbojbbeaaGreatDoorQ11
import Derived.Test.YtamaejlbojbbeaaGreatDoorQ12
import Derived.Test.YtamaejlbojbbeaaGreatDoorQ13
import Derived.Test.YtamaejlbojbbeaaGreatDoorQ14
import Derived.Test.YtamaejlbojbbeaaGreatDoorQ15
import Derived.Test.YtamaejlbojbbeaaGreatDoorQ16
import Derived.Test.YtamaejlbojbbeaaGreatDoorQ17
import Derived.Test.YtamaejlbojbbeaaGreatDoorQ18
import Derived.Test.YtamaejlbojbbeaaGreatDoorQ19
import Derived.Test.YtamaejlbojbbeaaGreatDoorQ20
import Derived.Test.YtamaejlbojbbeaaGreatDoorQ21
import Derived.Test.YtamaejlbojbbeaaGreatDoorQ22
import Derived.Test.YtamaejlbojbbeaaGreatDoorQ23
import Derived.Test.YtamaejlbojbbeaaGreatDoorQ24
import Derived.Test.YtamaejlbojbbeaaGreatDoorQ25
import Derived.Test.YtamaejlbojbbeaaGreatDoorQ26
import Derived.Test.YtamaejlbojbbeaaGreatDoorQ27
import Derived.Test.YtamaejlbojbbeaaGreatDoorQ28
import Derived.Test.YtamaejlbojbbeaaGreatDoorQ29
import Derived.Test.YtamaejlbojbbeaaGreatDoorQ30
import Derived.Test.YtamaejlbojbbeaaGreatDoorQ31
import Derived.Test.YtamaejlbojbbeaaGreatDoorQASbK4
namespace Go.Proofs.YtamaejlbojbbeaaGreatDoor.Tr
open Go.RowKit
open Nd (take_put)
open Sb (hid_in Row Sl T5 BL u8v Tab wp_world grownBy_setCell below_of_grown info39 one_u8 splice_all St Kp needI layI cntI)
theorem build_two {w : World} {gs ms : Nat} {q : Int} (h : St w gs ms (fun _ => none) 0 q 0) (htab : Tab w) (hq0 : 0 ≤ q) (hq : q ≤ 9223372036854775807) (fs : List Fil) (v : Value) (hfs : Fls w v fs) (hn : fs.length ≤ 50000) (hp : ∀ f ∈ fs, f.path.size ≤ 9223372036854775807) :
    Calls Tryz.prog 11 #[.pointer (some ⟨gs, 0, none⟩), v] w fun e w' => ∃ (d : List Nat) (V : List Value) (k : Int), e = .returned (.tuple #[.agg V.toArray, .int .i64 k]) ∧ V = d.map u8v ∧ d.length = 32 ∧ Kp gs ms w w' := by
  refine (build_any h htab (by decide) hq0 hq fs v hfs hn hp).mono ?_
  rintro e w' ⟨V, k, rfl, ⟨_, hb, rfl, _⟩ | ⟨_, _, sp, sp', _, _, _, rfl, _, _, hk⟩⟩
  · exact ⟨_, _, k, rfl, rfl, by simp, Kp.of_below hb⟩
  · exact ⟨_, _, k, rfl, rfl, walkT_sum (Nat.lt_succ_self _), hk⟩
theorem own_range {w : World} {lo b cap : Nat} {D : List Value} (h : w.ownsRow lo 30 32 (.slice (some ⟨b, 0, none⟩) 1 cap) 1 D) : w.rangeAt b 0 D ∧ b < w.heap.size := by
  refine ⟨fun j v hv => ?_, (h.lt b rfl).2⟩
  have := h.cells (g := b) rfl j v hv
  rwa [Addr.add_lit] at this
set_option maxHeartbeats 8000000 in
set_option maxRecDepth 100000 in
theorem refuses_any (w : World) (htab : Tab w) (fs : List Fil) (v : Value) (hfs : Fls w v fs) (hps : ∀ f ∈ fs, f.path.size ≤ 9223372036854775807) (bs : List Nat) (p : Option Addr) (b off cap : Nat) (hs : Sl w p bs cap b off) (hpn : p = none → bs.length = 0 ∧ cap = 0) (hl : bs.length ≤ 140737488351232) :
    Calls Tryz.prog 6 #[v, .slice p bs.length cap] w fun e w' => e = .returned (.bool true) ∧ Below w.heap.size w w' := by
  obtain ⟨Z, hz, hzl⟩ := Sb.zero39
  have HZL := hid_in hzl
  have HAW := hid_in (awake8_any w htab)
  have HTAB := hid_in htab
  have HFS := hid_in hfs
  have HPS := hid_in hps
  have HSL := hid_in hs
  have HPN := hid_in hpn
  have HL := hid_in hl
  obtain ⟨N, HN⟩ : ∃ N, Hid (fs.length = N) := ⟨_, hid_in rfl⟩
  obtain ⟨pv, pcap, hvf⟩ : ∃ pv pcap, v = .slice pv N pcap := by
    obtain ⟨p1, c1, b1, o1, e, _⟩ := hfs
    exact ⟨p1, c1, by rw [e, HN.out]⟩
  have HVF := hid_in hvf
  rw [hvf]
  obtain ⟨U, HU⟩ : ∃ U, Hid (U = (Sb.Sha.sum bs).map u8v) := ⟨_, hid_in rfl⟩
  have HSM := hid_in (fun W (hW : Below w.heap.size w W) => Sb.rsum_any bs hs.lt p b off cap W hl hpn hs.at_ (hs.below hW).src)
  rw [← HU.out] at HSM
  have HOF := hid_in (fun W (hW : Below w.heap.size w W) c wm v0 v1 v3 v4 T (hcw : Cw W c wm v0 v1 v3 v4 T) (hn : wantL T (Sb.Sha.sum bs) 3 = []) => offer_foreign hcw (htab.below hW htab.pos) bs p b off cap (hs.below hW) (by omega) hn)
  obtain ⟨bn, Hbn⟩ : ∃ bn, Hid (bs.length = bn) := ⟨_, hid_in rfl⟩
  rw [Hbn.out] at HSM HOF ⊢
  clear htab hfs hps hs hpn hl hvf hzl
  go_enter Tryz.func6, Tryz.ntmps6
  go_upto_region 3 with (first | (go_at_call 19; refine HAW.out.mono ?_; rintro e w1 ⟨rfl, hb1⟩; have HB1 := hid_in hb1; clear hb1))
  clear HAW
  have b2 : Below w1.heap.size w1 (w1.alloc (.cells #[.slice pv N pcap] 22)) := (Below.refl _ _).alloc (Nat.le_refl _) _
  have hf2 : Fls (w1.alloc (.cells #[.slice pv N pcap] 22)) (.slice pv N pcap) fs := by have h9 := (HFS.out.below HB1.out).below b2; rw [HVF.out] at h9; exact h9
  have HFW := hid_in (few_any (w1.alloc (.cells #[.slice pv N pcap] 22)) (.slice pv N pcap) fs hf2 w1.heap.size ((Row.new w1 [.slice pv N pcap] 22).cell 0))
  have HB2 := hid_in (HB1.out.trans (b2.mono HB1.out.size))
  clear b2 hf2
  by_cases hN : (150 : Int) < (N : Int)
  · go_wp2_with (first | (go_at_call 8; refine HFW.out.mono ?_; rintro e wf ⟨⟨t, rfl⟩, hwf⟩; subst wf))
    all_goals
      go_ret
      exact ⟨rfl, HB2.out⟩
  have HNL : Hid (N ≤ 150) := hid_in (by omega)
  go_upto_region 5 with (first | (go_at_call 8; refine HFW.out.mono ?_; rintro e wf ⟨⟨t, rfl⟩, hwf⟩; subst wf))
  any_goals (go_ret; exact ⟨rfl, HB2.out⟩)
  clear HFW hN
  obtain ⟨w2, HW2⟩ : ∃ w2, Hid (w1.alloc (.cells #[.slice pv N pcap] 22) = w2) := ⟨_, hid_in rfl⟩
  rw [HW2.out] at HB2
  refine wp_world HW2.out ?_
  clear HW2
  have HN3 := hid_in (Sb.bnew_any w2 16777216)
  go_upto_region 6 with (first | (go_at_call 9; refine HN3.out.mono ?_; rintro e w3 ⟨rfl, hst3, hb3⟩; have HST3 : Hid (St w3 (w2.heap.size + 1) w2.heap.size (fun _ => none) 0 16777216 0) := hid_in (by have := hst3; rw [show max (16777216 : Int) 0 = 16777216 by decide] at this; exact this); have HB23 := hid_in hb3; have HB3 := hid_in (HB2.out.trans (hb3.mono HB2.out.size)); clear hst3 hb3))
  clear HN3
  have HBU := hid_in (build_two HST3.out (HTAB.out.below HB3.out HTAB.out.pos) (by decide) (by decide) fs v (HFS.out.below HB3.out) (by have := HNL.out; rw [HN.out]; omega) HPS.out)
  rw [HVF.out] at HBU
  go_upto_region 7 with (first | (go_at_call 11; refine HBU.out.mono ?_; rintro e w4 ⟨d, V, k, rfl, hV, hd, hk4⟩; have HV := hid_in hV; have HD := hid_in hd; have HVL : Hid (V.length = 32) := hid_in (by rw [hV, List.length_map]; exact hd); have HV1 : Hid (∀ v ∈ V, v.oneCell' = true) := hid_in (by rw [hV]; exact one_u8 _); have HB4 : Hid (Below w.heap.size w w4) := hid_in (HB3.out.trans (hk4.below HB3.out.size (Nat.le_succ_of_le HB2.out.size) HB2.out.size)); clear hV hd hk4) | (refine Sb.wpList_store_new rfl _ _ rfl Z V HZL HVL HV1 rfl rfl ?_; intro w5 hr5 hb5; have HR5 := hid_in hr5; have HB5 := hid_in (HB4.out.trans (hb5.mono HB4.out.size)); clear hr5 hb5))
  clear HBU HST3 hz
  by_cases hk : k = 0
  rotate_left
  · have hke : (k != 0) = true := by simpa using hk
    clear hk
    go_wp2
    go_ret
    exact ⟨rfl, HB5.out⟩
  subst hk
  have HN6 := hid_in (Sb.bnew_any w5 16777216)
  go_upto_region 10 with (first | (go_at_call 9; refine HN6.out.mono ?_; rintro e w6 ⟨rfl, hst6, hb6⟩; have HST6 : Hid (St w6 (w5.heap.size + 1) w5.heap.size (fun _ => none) 0 16777216 0) := hid_in (by have := hst6; rw [show max (16777216 : Int) 0 = 16777216 by decide] at this; exact this); have HB56 := hid_in hb6; clear hst6 hb6))
  clear HN6
  have hr6 := HR5.out.below HB56.out HR5.out.lt
  have HNW := hid_in (new_lack (B := w5.heap.size) HST6.out (Nat.le_succ _) (Nat.le_refl _) d HD.out V HV rfl)
  go_upto_region 11 with (first | (refine Sb.wpList_load_Row rfl 30 _ rfl w4.heap.size rfl 30 _ hr6 _ Tryz.underlying30 rfl 32 info39 HVL.out ?_) | (go_at_call 23; refine HNW.out.mono ?_; rintro e w7 ⟨c, lm, wm, ov, rfl, hc7, hb7⟩; have HC7 := hid_in hc7; have HB57 := hid_in (HB56.out.trans hb7); clear hc7 hb7))
  clear HNW hr6 HST6
  have HWN := hid_in (want_one HC7.out V HV)
  go_upto_region 12 with (first | (go_at_call 33; refine HWN.out.mono ?_; rintro e w8 ⟨b8, c8, rfl, hown8, hb8⟩; have HRG8 := hid_in (own_range hown8); have HC8 := hid_in (HC7.out.below hb8); have HB58 := hid_in (HB57.out.trans (hb8.mono HB57.out.size)); clear hown8 hb8))
  clear HWN HC7 HB57
  have HB8 : Hid (Below w.heap.size w w8) := hid_in (HB5.out.trans (HB58.out.mono HB5.out.size))
  have HR8 : Hid (Row w8 w4.heap.size V 30) := hid_in (HR5.out.below HB58.out HR5.out.lt)
  have HS8 : Hid (∀ W, Below w8.heap.size w8 W → W.rangeAt w4.heap.size 0 V) := hid_in (fun W hW => range_row (HR8.out.below hW HR8.out.lt))
  have HNN := hid_in (fun W => new_nil V 3 W)
  have HRN := hid_in (fun W => reach_nil V 3 W)
  clear HR5 HB58 HB56 HB23
  by_cases hsd : Sb.Sha.sum bs = d
  · have heq := fun W => Sb.neq39 (Sb.Sha.sum bs) d (Sb.sum_length _) HD.out U V HU HV true (decide_eq_true hsd) W
    clear hsd
    refine wp_region_held_drew (S := fun W' => W'.rangeAt w4.heap.size 0 V) (by kernel_rfl) (HS8.out _ (below_drew w8)) (fun hHeld => ?_)
    refine take_put (i := 0) (d := 46) (v := ?_) rfl rfl (by kernel_rfl) (by kernel_rfl) (by kernel_rfl) (fun _ _ _ h => h) (Or.inl ⟨by kernel_rfl, ?_⟩) hHeld ?_
    rotate_left
    · (intro w hSw; (try dsimp only at hSw); go_simp; (try with_reducible rfl))
    simp only [Act.put, List.setIfInBounds_toArray, List.set_cons_zero, List.set_cons_succ]
    refine take_put (i := 2) (d := 48) (v := .agg V.toArray) rfl rfl (by kernel_rfl) (by kernel_rfl) (by kernel_rfl) (fun _ _ _ h => h) (yieldsIf_load_mid (by rfl) 30 _ rfl _ _ rfl V _ (fun w hSw => hSw) Tryz.underlying30 rfl (by rw [info39, HVL.out])) hHeld ?_
    simp only [Act.put, List.setIfInBounds_toArray, List.set_cons_zero, List.set_cons_succ]
    refine wpAnyH_ready (rs := [1]) (by kernel_rfl) (by simp) ?_
    refine AllReadyH.cons rfl (fun K hK => ?_) AllReadyH.nil
    rw [if_pos (by rfl)]
    go_simp
    refine (HSM.out _ (HB8.out.trans ((below_drew w8).mono HB8.out.size))).mono ?_
    rintro e w9 ⟨rfl, hb9⟩
    have HB9 : Hid (Below w8.heap.size w8 w9) := hid_in ((below_drew w8).trans hb9)
    clear hb9
    go_simp
    refine hK.out _ _ (HS8.out _ HB9.out) (fun hHeld => ?_)
    clear hK K
    refine take_put (i := 3) (d := 49) (v := .bool false) rfl rfl (by kernel_rfl) (by kernel_rfl) (by kernel_rfl) (fun _ _ _ h => h) (Or.inl ⟨by kernel_rfl, fun w hSw => ?_⟩) hHeld ?_
    · (go_simp)
    simp only [Act.put, List.setIfInBounds_toArray, List.set_cons_zero, List.set_cons_succ]
    refine take_put (i := 4) (d := 50) (v := ?_) rfl rfl (by kernel_rfl) (by kernel_rfl) (by kernel_rfl) (fun _ _ _ h => h) (Or.inl ⟨by kernel_rfl, ?_⟩) hHeld ?_
    rotate_left
    · (intro w hSw; (try dsimp only at hSw); go_simp; (try with_reducible rfl))
    simp only [Act.put, List.setIfInBounds_toArray, List.set_cons_zero, List.set_cons_succ]
    refine take_put (i := 5) (d := 51) (v := undef) rfl rfl (by kernel_rfl) (by kernel_rfl) (by kernel_rfl) (fun _ _ _ h => h) (Or.inr ⟨by kernel_rfl, rfl⟩) hHeld ?_
    simp only [Act.put, List.setIfInBounds_toArray, List.set_cons_zero, List.set_cons_succ]
    refine take_put (i := 6) (d := 52) (v := undef) rfl rfl (by kernel_rfl) (by kernel_rfl) (by kernel_rfl) (fun _ _ _ h => h) (Or.inr ⟨by kernel_rfl, rfl⟩) hHeld ?_
    simp only [Act.put, List.setIfInBounds_toArray, List.set_cons_zero, List.set_cons_succ]
    refine take_put (i := 7) (d := 53) (v := undef) rfl rfl (by kernel_rfl) (by kernel_rfl) (by kernel_rfl) (fun _ _ _ h => h) (Or.inr ⟨by kernel_rfl, rfl⟩) hHeld ?_
    simp only [Act.put, List.setIfInBounds_toArray, List.set_cons_zero, List.set_cons_succ]
    refine take_put (i := 8) (d := 54) (v := undef) rfl rfl (by kernel_rfl) (by kernel_rfl) (by kernel_rfl) (fun _ _ _ h => h) (Or.inr ⟨by kernel_rfl, rfl⟩) hHeld ?_
    simp only [Act.put, List.setIfInBounds_toArray, List.set_cons_zero, List.set_cons_succ]
    refine take_put (i := 9) (d := 55) (v := undef) rfl rfl (by kernel_rfl) (by kernel_rfl) (by kernel_rfl) (fun _ _ _ h => h) (Or.inr ⟨by kernel_rfl, rfl⟩) hHeld ?_
    simp only [Act.put, List.setIfInBounds_toArray, List.set_cons_zero, List.set_cons_succ]
    refine take_put (i := 10) (d := 56) (v := undef) rfl rfl (by kernel_rfl) (by kernel_rfl) (by kernel_rfl) (fun _ _ _ h => h) (Or.inr ⟨by kernel_rfl, rfl⟩) hHeld ?_
    simp only [Act.put, List.setIfInBounds_toArray, List.set_cons_zero, List.set_cons_succ]
    refine take_put (i := 11) (d := 57) (v := undef) rfl rfl (by kernel_rfl) (by kernel_rfl) (by kernel_rfl) (fun _ _ _ h => h) (Or.inr ⟨by kernel_rfl, rfl⟩) hHeld ?_
    simp only [Act.put, List.setIfInBounds_toArray, List.set_cons_zero, List.set_cons_succ]
    refine take_put (i := 12) (d := 58) (v := undef) rfl rfl (by kernel_rfl) (by kernel_rfl) (by kernel_rfl) (fun _ _ _ h => h) (Or.inr ⟨by kernel_rfl, rfl⟩) hHeld ?_
    simp only [Act.put, List.setIfInBounds_toArray, List.set_cons_zero, List.set_cons_succ]
    refine take_put (i := 13) (d := 59) (v := undef) rfl rfl (by kernel_rfl) (by kernel_rfl) (by kernel_rfl) (fun _ _ _ h => h) (Or.inr ⟨by kernel_rfl, rfl⟩) hHeld ?_
    simp only [Act.put, List.setIfInBounds_toArray, List.set_cons_zero, List.set_cons_succ]
    refine take_put (i := 14) (d := 60) (v := undef) rfl rfl (by kernel_rfl) (by kernel_rfl) (by kernel_rfl) (fun _ _ _ h => h) (Or.inr ⟨by kernel_rfl, rfl⟩) hHeld ?_
    simp only [Act.put, List.setIfInBounds_toArray, List.set_cons_zero, List.set_cons_succ]
    refine take_put (i := 15) (d := 61) (v := undef) rfl rfl (by kernel_rfl) (by kernel_rfl) (by kernel_rfl) (fun _ _ _ h => h) (Or.inr ⟨by kernel_rfl, rfl⟩) hHeld ?_
    simp only [Act.put, List.setIfInBounds_toArray, List.set_cons_zero, List.set_cons_succ]
    refine take_put (i := 16) (d := 62) (v := undef) rfl rfl (by kernel_rfl) (by kernel_rfl) (by kernel_rfl) (fun _ _ _ h => h) (Or.inr ⟨by kernel_rfl, rfl⟩) hHeld ?_
    simp only [Act.put, List.setIfInBounds_toArray, List.set_cons_zero, List.set_cons_succ]
    refine take_put (i := 17) (d := 63) (v := undef) rfl rfl (by kernel_rfl) (by kernel_rfl) (by kernel_rfl) (fun _ _ _ h => h) (Or.inr ⟨by kernel_rfl, rfl⟩) hHeld ?_
    simp only [Act.put, List.setIfInBounds_toArray, List.set_cons_zero, List.set_cons_succ]
    refine take_put (i := 18) (d := 64) (v := undef) rfl rfl (by kernel_rfl) (by kernel_rfl) (by kernel_rfl) (fun _ _ _ h => h) (Or.inr ⟨by kernel_rfl, rfl⟩) hHeld ?_
    simp only [Act.put, List.setIfInBounds_toArray, List.set_cons_zero, List.set_cons_succ]
    refine take_put (i := 19) (d := 65) (v := undef) rfl rfl (by kernel_rfl) (by kernel_rfl) (by kernel_rfl) (fun _ _ _ h => h) (Or.inr ⟨by kernel_rfl, rfl⟩) hHeld ?_
    simp only [Act.put, List.setIfInBounds_toArray, List.set_cons_zero, List.set_cons_succ]
    refine take_put (i := 20) (d := 66) (v := undef) rfl rfl (by kernel_rfl) (by kernel_rfl) (by kernel_rfl) (fun _ _ _ h => h) (Or.inr ⟨by kernel_rfl, rfl⟩) hHeld ?_
    simp only [Act.put, List.setIfInBounds_toArray, List.set_cons_zero, List.set_cons_succ]
    refine take_put (i := 21) (d := 67) (v := ?_) rfl rfl (by kernel_rfl) (by kernel_rfl) (by kernel_rfl) (fun _ _ _ h => h) (Or.inl ⟨by kernel_rfl, ?_⟩) hHeld ?_
    rotate_left
    · (intro w hSw; (try dsimp only at hSw); go_simp; (try with_reducible rfl))
    simp only [Act.put, List.setIfInBounds_toArray, List.set_cons_zero, List.set_cons_succ]
    refine wpAnyH_done (by kernel_rfl) ?_ _
    clear heq
    go_upto_region 15 with fail
    have hr12 := HR8.out.below HB9.out HR8.out.lt
    go_upto_region 16 with (first | (refine Sb.wpList_load_Row rfl 30 _ rfl w4.heap.size rfl 30 _ hr12 _ Tryz.underlying30 rfl 32 info39 HVL.out ?_) | (go_at_call 23; refine (HNN.out _).mono ?_; rintro e w13 ⟨rfl, hw13⟩; have HB13 : Hid (Below w8.heap.size w8 w13) := hid_in (by rw [hw13]; exact HB9.out.alloc HB9.out.size _); clear hw13))
    have hr13 := HR8.out.below HB13.out HR8.out.lt
    go_upto_region 17 with (first | (refine Sb.wpList_load_Row rfl 30 _ rfl w4.heap.size rfl 30 _ hr13 _ Tryz.underlying30 rfl 32 info39 HVL.out ?_) | (go_at_call 30; refine (HRN.out _).mono ?_; rintro e w14 ⟨rfl, hb14⟩; have HB14 : Hid (Below w8.heap.size w8 w14) := hid_in (HB13.out.trans (hb14.mono HB13.out.size)); clear hb14))
    go_wp2_with (first | (go_at_call 33; refine (want_nil 9 _).mono ?_; rintro e wx ⟨rfl, hwx⟩; subst wx) | (go_at_call 27; refine (offer_nil p bn cap _).mono ?_; rintro e wx ⟨rfl, hwx⟩; subst wx) | (go_at_call 35; refine (done_nil _).mono ?_; rintro e wx ⟨rfl, hwx⟩; subst wx) | (go_at_call 36; refine (foul_nil _).mono ?_; rintro e wx ⟨rfl, hwx⟩; subst wx))
    go_ret
    exact ⟨rfl, HB8.out.trans (HB14.out.mono HB8.out.size)⟩
  · have heq := fun W => Sb.neq39 (Sb.Sha.sum bs) d (Sb.sum_length _) HD.out U V HU HV false (decide_eq_false hsd) W
    have HWL := hid_in (wantL_none (x := (d, 3)) hsd)
    clear hsd
    refine wp_region_held_drew (S := fun W' => W'.rangeAt w4.heap.size 0 V) (by kernel_rfl) (HS8.out _ (below_drew w8)) (fun hHeld => ?_)
    refine take_put (i := 0) (d := 46) (v := ?_) rfl rfl (by kernel_rfl) (by kernel_rfl) (by kernel_rfl) (fun _ _ _ h => h) (Or.inl ⟨by kernel_rfl, ?_⟩) hHeld ?_
    rotate_left
    · (intro w hSw; (try dsimp only at hSw); go_simp; (try with_reducible rfl))
    simp only [Act.put, List.setIfInBounds_toArray, List.set_cons_zero, List.set_cons_succ]
    refine take_put (i := 2) (d := 48) (v := .agg V.toArray) rfl rfl (by kernel_rfl) (by kernel_rfl) (by kernel_rfl) (fun _ _ _ h => h) (yieldsIf_load_mid (by rfl) 30 _ rfl _ _ rfl V _ (fun w hSw => hSw) Tryz.underlying30 rfl (by rw [info39, HVL.out])) hHeld ?_
    simp only [Act.put, List.setIfInBounds_toArray, List.set_cons_zero, List.set_cons_succ]
    refine wpAnyH_ready (rs := [1]) (by kernel_rfl) (by simp) ?_
    refine AllReadyH.cons rfl (fun K hK => ?_) AllReadyH.nil
    rw [if_pos (by rfl)]
    go_simp
    refine (HSM.out _ (HB8.out.trans ((below_drew w8).mono HB8.out.size))).mono ?_
    rintro e w9 ⟨rfl, hb9⟩
    have HB9 : Hid (Below w8.heap.size w8 w9) := hid_in ((below_drew w8).trans hb9)
    clear hb9
    go_simp
    refine hK.out _ _ (HS8.out _ HB9.out) (fun hHeld => ?_)
    clear hK K
    refine take_put (i := 3) (d := 49) (v := .bool true) rfl rfl (by kernel_rfl) (by kernel_rfl) (by kernel_rfl) (fun _ _ _ h => h) (Or.inl ⟨by kernel_rfl, fun w hSw => ?_⟩) hHeld ?_
    · (go_simp)
    simp only [Act.put, List.setIfInBounds_toArray, List.set_cons_zero, List.set_cons_succ]
    refine take_put (i := 4) (d := 50) (v := ?_) rfl rfl (by kernel_rfl) (by kernel_rfl) (by kernel_rfl) (fun _ _ _ h => h) (Or.inl ⟨by kernel_rfl, ?_⟩) hHeld ?_
    rotate_left
    · (intro w hSw; (try dsimp only at hSw); go_simp; (try with_reducible rfl))
    simp only [Act.put, List.setIfInBounds_toArray, List.set_cons_zero, List.set_cons_succ]
    refine take_put (i := 5) (d := 51) (v := ?_) rfl rfl (by kernel_rfl) (by kernel_rfl) (by kernel_rfl) (fun _ _ _ h => h) (Or.inl ⟨by kernel_rfl, ?_⟩) hHeld ?_
    rotate_left
    · (intro w hSw; (try dsimp only at hSw); go_simp; (try with_reducible rfl))
    simp only [Act.put, List.setIfInBounds_toArray, List.set_cons_zero, List.set_cons_succ]
    refine take_put (i := 6) (d := 52) (v := ?_) rfl rfl (by kernel_rfl) (by kernel_rfl) (by kernel_rfl) (fun _ _ _ h => h) (Or.inl ⟨by kernel_rfl, ?_⟩) hHeld ?_
    rotate_left
    · (intro w hSw; (try dsimp only at hSw); go_simp; (try with_reducible rfl))
    simp only [Act.put, List.setIfInBounds_toArray, List.set_cons_zero, List.set_cons_succ]
    refine wpAnyH_ready (rs := [7]) (by kernel_rfl) (by simp) ?_
    refine AllReadyH.cons rfl (fun K hK => ?_) AllReadyH.nil
    rw [if_pos (by rfl)]
    go_simp
    refine (HOF.out _ (HB8.out.trans (HB9.out.mono HB8.out.size)) _ _ _ _ _ _ _ (HC8.out.below HB9.out).cw HWL.out).mono ?_
    rintro e w10 ⟨rfl, hb10⟩
    have HB10 : Hid (Below w8.heap.size w8 w10) := hid_in (HB9.out.trans (hb10.mono HB9.out.size))
    clear hb10
    go_simp
    refine hK.out _ _ (HS8.out _ HB10.out) (fun hHeld => ?_)
    clear hK K
    refine take_put (i := 8) (d := 54) (v := ?_) rfl rfl (by kernel_rfl) (by kernel_rfl) (by kernel_rfl) (fun _ _ _ h => h) (Or.inl ⟨by kernel_rfl, ?_⟩) hHeld ?_
    rotate_left
    · (intro w hSw; (try dsimp only at hSw); go_simp; (try with_reducible rfl))
    simp only [Act.put, List.setIfInBounds_toArray, List.set_cons_zero, List.set_cons_succ]
    refine take_put (i := 9) (d := 55) (v := ?_) rfl rfl (by kernel_rfl) (by kernel_rfl) (by kernel_rfl) (fun _ _ _ h => h) (Or.inl ⟨by kernel_rfl, ?_⟩) hHeld ?_
    rotate_left
    · (intro w hSw; (try dsimp only at hSw); go_simp; (try with_reducible rfl))
    simp only [Act.put, List.setIfInBounds_toArray, List.set_cons_zero, List.set_cons_succ]
    refine take_put (i := 10) (d := 56) (v := ?_) rfl rfl (by kernel_rfl) (by kernel_rfl) (by kernel_rfl) (fun _ _ _ h => h) (Or.inl ⟨by kernel_rfl, ?_⟩) hHeld ?_
    rotate_left
    · (intro w hSw; (try dsimp only at hSw); go_simp; (try with_reducible rfl))
    simp only [Act.put, List.setIfInBounds_toArray, List.set_cons_zero, List.set_cons_succ]
    refine wpAnyH_ready (rs := [11]) (by kernel_rfl) (by simp) ?_
    refine AllReadyH.cons rfl (fun K hK => ?_) AllReadyH.nil
    rw [if_pos (by rfl)]
    go_simp
    refine (Sb.count_any (HC8.out.below HB10.out).st).mono ?_
    rintro e wx ⟨rfl, hwx⟩
    subst wx
    go_simp
    refine hK.out _ _ (HS8.out _ HB10.out) (fun hHeld => ?_)
    clear hK K
    refine take_put (i := 12) (d := 58) (v := ?_) rfl rfl (by kernel_rfl) (by kernel_rfl) (by kernel_rfl) (fun _ _ _ h => h) (Or.inl ⟨by kernel_rfl, ?_⟩) hHeld ?_
    rotate_left
    · (intro w hSw; (try dsimp only at hSw); go_simp; (try with_reducible rfl))
    simp only [Act.put, List.setIfInBounds_toArray, List.set_cons_zero, List.set_cons_succ]
    refine take_put (i := 13) (d := 59) (v := ?_) rfl rfl (by kernel_rfl) (by kernel_rfl) (by kernel_rfl) (fun _ _ _ h => h) (Or.inl ⟨by kernel_rfl, ?_⟩) hHeld ?_
    rotate_left
    · (intro w hSw; (try dsimp only at hSw); go_simp; (try with_reducible rfl))
    simp only [Act.put, List.setIfInBounds_toArray, List.set_cons_zero, List.set_cons_succ]
    refine take_put (i := 14) (d := 60) (v := ?_) rfl rfl (by kernel_rfl) (by kernel_rfl) (by kernel_rfl) (fun _ _ _ h => h) (Or.inl ⟨by kernel_rfl, ?_⟩) hHeld ?_
    rotate_left
    · (intro w hSw; (try dsimp only at hSw); go_simp; (try with_reducible rfl))
    simp only [Act.put, List.setIfInBounds_toArray, List.set_cons_zero, List.set_cons_succ]
    refine take_put (i := 15) (d := 61) (v := ?_) rfl rfl (by kernel_rfl) (by kernel_rfl) (by kernel_rfl) (fun _ _ _ h => h) (Or.inl ⟨by kernel_rfl, ?_⟩) hHeld ?_
    rotate_left
    · (intro w hSw; (try dsimp only at hSw); go_simp; (try with_reducible rfl))
    simp only [Act.put, List.setIfInBounds_toArray, List.set_cons_zero, List.set_cons_succ]
    refine take_put (i := 17) (d := 63) (v := ?_) rfl rfl (by kernel_rfl) (by kernel_rfl) (by kernel_rfl) (fun _ _ _ h => h) (Or.inl ⟨by kernel_rfl, ?_⟩) hHeld ?_
    rotate_left
    · (intro w hSw; (try dsimp only at hSw); go_simp; (try with_reducible rfl))
    simp only [Act.put, List.setIfInBounds_toArray, List.set_cons_zero, List.set_cons_succ]
    refine wpAnyH_ready (rs := [16]) (by kernel_rfl) (by simp) ?_
    refine AllReadyH.cons rfl (fun K hK => ?_) AllReadyH.nil
    rw [if_pos (by rfl)]
    go_simp
    refine (want_one (HC8.out.below HB10.out) V HV).mono ?_
    rintro e w11 ⟨b11, c11, rfl, hown11, hb11⟩
    have HRG11 := hid_in (own_range hown11)
    have HB11 : Hid (Below w8.heap.size w8 w11) := hid_in (HB10.out.trans (hb11.mono HB10.out.size))
    clear hown11 hb11
    go_simp
    refine hK.out _ _ (HS8.out _ HB11.out) (fun hHeld => ?_)
    clear hK K
    refine wpAnyH_ready (rs := [18]) (by kernel_rfl) (by simp) ?_
    refine AllReadyH.cons rfl (fun K hK => ?_) AllReadyH.nil
    rw [if_pos (by rfl)]
    go_simp
    refine (digests_one d HD.out V HV b11 b8 c11 c8 _ HRG11.out.1 (Nd.rangeAt_below HRG8.out.1 HB11.out HRG8.out.2)).mono ?_
    rintro e w12 ⟨rfl, hb12⟩
    have HB12 : Hid (Below w8.heap.size w8 w12) := hid_in (HB11.out.trans (hb12.mono HB11.out.size))
    clear hb12
    go_simp
    refine hK.out _ _ (HS8.out _ HB12.out) (fun hHeld => ?_)
    clear hK K
    refine take_put (i := 19) (d := 65) (v := ?_) rfl rfl (by kernel_rfl) (by kernel_rfl) (by kernel_rfl) (fun _ _ _ h => h) (Or.inl ⟨by kernel_rfl, ?_⟩) hHeld ?_
    rotate_left
    · (intro w hSw; (try dsimp only at hSw); go_simp; (try with_reducible rfl))
    simp only [Act.put, List.setIfInBounds_toArray, List.set_cons_zero, List.set_cons_succ]
    refine take_put (i := 20) (d := 66) (v := ?_) rfl rfl (by kernel_rfl) (by kernel_rfl) (by kernel_rfl) (fun _ _ _ h => h) (Or.inl ⟨by kernel_rfl, ?_⟩) hHeld ?_
    rotate_left
    · (intro w hSw; (try dsimp only at hSw); go_simp; (try with_reducible rfl))
    simp only [Act.put, List.setIfInBounds_toArray, List.set_cons_zero, List.set_cons_succ]
    refine take_put (i := 21) (d := 67) (v := ?_) rfl rfl (by kernel_rfl) (by kernel_rfl) (by kernel_rfl) (fun _ _ _ h => h) (Or.inl ⟨by kernel_rfl, ?_⟩) hHeld ?_
    rotate_left
    · (intro w hSw; (try dsimp only at hSw); go_simp; (try with_reducible rfl))
    simp only [Act.put, List.setIfInBounds_toArray, List.set_cons_zero, List.set_cons_succ]
    refine wpAnyH_done (by kernel_rfl) ?_ _
    clear heq
    go_upto_region 15 with fail
    have hr12 := HR8.out.below HB12.out HR8.out.lt
    go_upto_region 16 with (first | (refine Sb.wpList_load_Row rfl 30 _ rfl w4.heap.size rfl 30 _ hr12 _ Tryz.underlying30 rfl 32 info39 HVL.out ?_) | (go_at_call 23; refine (HNN.out _).mono ?_; rintro e w13 ⟨rfl, hw13⟩; have HB13 : Hid (Below w8.heap.size w8 w13) := hid_in (by rw [hw13]; exact HB12.out.alloc HB12.out.size _); clear hw13))
    have hr13 := HR8.out.below HB13.out HR8.out.lt
    go_upto_region 17 with (first | (refine Sb.wpList_load_Row rfl 30 _ rfl w4.heap.size rfl 30 _ hr13 _ Tryz.underlying30 rfl 32 info39 HVL.out ?_) | (go_at_call 30; refine (HRN.out _).mono ?_; rintro e w14 ⟨rfl, hb14⟩; have HB14 : Hid (Below w8.heap.size w8 w14) := hid_in (HB13.out.trans (hb14.mono HB13.out.size)); clear hb14))
    go_wp2_with (first | (go_at_call 33; refine (want_nil 9 _).mono ?_; rintro e wx ⟨rfl, hwx⟩; subst wx) | (go_at_call 27; refine (offer_nil p bn cap _).mono ?_; rintro e wx ⟨rfl, hwx⟩; subst wx) | (go_at_call 35; refine (done_nil _).mono ?_; rintro e wx ⟨rfl, hwx⟩; subst wx) | (go_at_call 36; refine (foul_nil _).mono ?_; rintro e wx ⟨rfl, hwx⟩; subst wx))
    go_ret
    exact ⟨rfl, HB8.out.trans (HB14.out.mono HB8.out.size)⟩
end Go.Proofs.YtamaejlbojbbeaaGreatDoor.Tr
namespace Go.Proofs.YtamaejlbojbbeaaGreatDoor.Tr
open Go.ChangeShapes Go.WideShapes Go.ChangeAt Go.RowKit Go.Deep
open Sb (Sl Tab u8v u32v Sha.K)
theorem own : ownKnob Tryz.prog.godebug = none := by kernel_rfl
theorem laidOut : laidOutB Tryz.prog = true := by kernel_rfl
theorem gTab : Tryz.prog.globalNamed "veneer/sha.constants" = some 0 := by kernel_rfl
theorem gTabType : (Tryz.prog.globals[0]?).map (·.type) = some 157 := by kernel_rfl
theorem cells157 : Tryz.prog.cellsOf 157 = 64 := by kernel_rfl
theorem cells155 : Tryz.prog.cellsOf 155 = 1 := by kernel_rfl
theorem table {W : World} (h : laidMetH Tryz.prog [("veneer/sha.constants", Rows.laid_veneer_sha_constants)] W) : Lib.TabIs Tryz.prog W "veneer/sha.constants" .u32 (Sb.Sha.K.map fun (n : Nat) => (n : Int)) :=
  Lib.tabIs_of_head (rest := []) gTab gTabType Tryz.underlying157 Tryz.underlying155 cells155 cells157 h
theorem tab_of {W : World} (h : laidMetH Tryz.prog [("veneer/sha.constants", Rows.laid_veneer_sha_constants)] W) : Tab W := fun t ht => by
  have hl : t < (Sb.Sha.K.map fun (n : Nat) => (n : Int)).length := by rw [List.length_map]; exact ht
  rw [(table h).cell gTab t hl]
  have hk : t < Sb.Sha.K.length := ht
  simp [u32v, hk]
/-- what is told of a slice of bytes that came in -/
def IsRow (w : World) (a : Option Addr) (len cap : Nat) (zs : List Int) : Prop :=
  (a = none ∧ len = 0 ∧ cap = 0 ∧ zs = []) ∨
  ∃ x, a = some x ∧ len ≤ cap ∧ cap ≤ maxLen ∧ zs.length = cap ∧ (∀ i, i < zs.length → w.cell? (x.add i) = some (.int .u8 (zs.getD i 0))) ∧ ∀ n ∈ zs, (Lit.int .u8 n).wf = true
theorem sl_of {w : World} {a : Option Addr} {len cap : Nat} {zs : List Int} (h : IsRow w a len cap zs) : ∃ bs b off, bs.length = len ∧ Sl w a bs cap b off := by
  rcases h with ⟨rfl, rfl, rfl, rfl⟩ | ⟨x, rfl, h1, h2, h3, h4, h5⟩
  · exact ⟨[], 0, 0, rfl, ⟨by simp, by simp, by omega, fun h => by simp at h, fun j hj => by simp at hj⟩⟩
  · have h2' : cap ≤ 9223372036854775807 := by unfold maxLen at h2; omega
    have hl : ((zs.take len).map Int.toNat).length = len := by simp; omega
    have hb : ∀ y ∈ (zs.take len).map Int.toNat, y < 256 := by
      intro y hy
      simp only [List.mem_map] at hy
      obtain ⟨n, hn, rfl⟩ := hy
      have := bounds_u8 (h5 n (List.mem_of_mem_take hn))
      omega
    by_cases hp : 0 < zs.length
    · obtain ⟨b, off, rfl, hc⟩ := ints_at h4 hp
      refine ⟨_, b, off, hl, ⟨hb, by omega, h2', fun _ => rfl, fun j hj => ?_⟩⟩
      rw [hl] at hj
      rw [hc j (by omega)]
      have hz : j < zs.length := by omega
      have hbd := bounds_u8 (h5 zs[j] (List.getElem_mem hz))
      have e : (((zs.take len).map Int.toNat).getD j 0 : Nat) = (zs.getD j 0).toNat := by
        simp [hj, hz]
      unfold u8v
      rw [e]
      simp [hz]
      omega
    · refine ⟨_, 0, 0, hl, ⟨hb, by omega, h2', fun h => by omega, fun j hj => by omega⟩⟩
theorem slice_in {H : Type} {enc : TypeId × Value → H} {W : World} {a : Option Addr} {len cap : Nat} {d : DataW H} {p : List MemPlace} (h : DataW.Trod enc Tryz.prog W 0 (fun _ => true) true 51 (.slice a len cap) d p) : ∃ bs b off, bs.length = len ∧ Sl W a bs cap b off := by
  obtain ⟨fuel, hf⟩ := h
  rcases open_ints Tryz.underlying51 Tryz.underlying5 (by kernel_rfl) hf with ⟨hcs, _⟩ | ⟨x, l, c, zs, hcs, _, hl, hm, hz, _, hcell, hwz⟩
  · simp [Value.cells] at hcs
    obtain ⟨rfl, rfl, rfl⟩ := hcs
    exact sl_of (zs := []) (.inl ⟨rfl, rfl, rfl, rfl⟩)
  · simp [Value.cells] at hcs
    obtain ⟨rfl, rfl, rfl⟩ := hcs
    exact sl_of (.inr ⟨_, rfl, hl, hm, by simpa using hz, hcell, hwz⟩)
theorem bytes5 : Tryz.prog.bytesOf 5 = 1 := by kernel_rfl
theorem slice_in2 {H : Type} {enc : TypeId × Value → H} {W : World} {a : Option Addr} {len cap : Nat} {d : DataW H} {p : List MemPlace} (h : DataW.Trod enc Tryz.prog W 0 (fun _ => true) true 51 (.slice a len cap) d p) :
    (a = none → len = 0 ∧ cap = 0) ∧ ((d = .nil ∧ len = 0) ∨ ∃ es sp, d = .slice es sp ∧ es.length = len) := by
  obtain ⟨fuel, hf⟩ := h
  rcases open_ints Tryz.underlying51 Tryz.underlying5 (by kernel_rfl) hf with ⟨hcs, hx⟩ | ⟨x, l, c, zs, hcs, _, hl, hm, hz, hx, hcell, hwz⟩
  · simp [Value.cells] at hcs
    obtain ⟨rfl, rfl, rfl⟩ := hcs
    simp only [Prod.mk.injEq] at hx
    exact ⟨fun _ => ⟨rfl, rfl⟩, .inl ⟨hx.1, rfl⟩⟩
  · simp [Value.cells] at hcs
    obtain ⟨rfl, rfl, rfl⟩ := hcs
    simp only [Prod.mk.injEq] at hx
    refine ⟨fun h => (by cases h), .inr ⟨_, _, hx.1, ?_⟩⟩
    simp at hz
    simp [lits, hz]
    omega
theorem slice_reach {H : Type} {enc : TypeId × Value → H} {W : World} {a : Option Addr} {len cap : Nat} {d : DataW H} {p : List MemPlace} (h : DataW.Trod enc Tryz.prog W 0 (fun _ => true) true 51 (.slice a len cap) d p)
    {ts : List TypeId} {ds : List (DataW H)} (hsz : (DataW.weightsEach Tryz.prog ts ds).all (· ≤ reachBytes) = true) (j : Nat) (ht : ts[j]? = some 51) (hd : ds[j]? = some d) : len ≤ 140737488351232 := by
  obtain ⟨_, ⟨_, rfl⟩ | ⟨es, sp, rfl, rfl⟩⟩ := slice_in2 h
  · omega
  · have := sized_slice hsz ht hd Tryz.underlying51
    rw [bytes5] at this
    unfold reachBytes at this
    omega
theorem cells9 : Tryz.prog.cellsOf 9 = 1 := by kernel_rfl
theorem cells4 : Tryz.prog.cellsOf 4 = 1 := by kernel_rfl
theorem cells81 : Tryz.prog.cellsOf 81 = 3 := by kernel_rfl
set_option maxRecDepth 100000 in
theorem file_in {H : Type} {enc : TypeId × Value → H} {W : World} {fuel : Nat} {a : Addr} {cs : List Value} {d : DataW H} {p : List MemPlace} (hc : W.cells? 0 a 3 = some cs) (h : DataW.trod enc Tryz.prog W 0 (fun _ => true) true fuel 81 cs = some (d, p)) :
    ∃ f : Fil, W.cell? (a.add 0) = some (.string f.path) ∧ W.cell? (a.add 1) = some (.bool f.dir) ∧ W.cell? (a.add 2) = some (.string f.data) ∧ f.path.size ≤ 9223372036854775807 := by
  obtain ⟨_, hlen, hcell⟩ := World.cells?_some hc
  obtain ⟨xs, k, _, hxy, _, hxl, hf⟩ := DataW.trod_struct Tryz.underlying81 h
  have hxl' : xs.length = 3 := hxl
  match xs, hxl', cs, hlen with
  | [y0, y1, y2], _, [v0, v1, v2], _ =>
    have g0 := hf 0 _ rfl
    have g1 := hf 1 _ rfl
    have g2 := hf 2 _ rfl
    obtain ⟨P, e0, x0, hs⟩ := DataW.trod_string Tryz.underlying9 g0
    obtain ⟨b, e1, x1⟩ := DataW.trod_bool Tryz.underlying4 g1
    obtain ⟨D, e2, x2, _⟩ := DataW.trod_string Tryz.underlying9 g2
    simp [cells9, cells4] at e0 e1 e2
    subst e0 e1 e2
    refine ⟨⟨P, b, D⟩, ?_, ?_, ?_, ?_⟩
    · simpa using hcell 0 (by omega)
    · simpa using hcell 1 (by omega)
    · simpa using hcell 2 (by omega)
    · unfold maxLen at hs; omega
theorem files_in {H : Type} {enc : TypeId × Value → H} {W : World} {a : Option Addr} {len cap : Nat} {d : DataW H} {p : List MemPlace} (h : DataW.Trod enc Tryz.prog W 0 (fun _ => true) true 22 (.slice a len cap) d p) :
    ∃ fs : List Fil, Fls W (.slice a len cap) fs ∧ ∀ f ∈ fs, f.path.size ≤ 9223372036854775807 := by
  obtain ⟨fuel, hf⟩ := h
  rcases open_slice Tryz.underlying22 hf with ⟨hcs, hx⟩ | ⟨x, l, c, m, n, D, Pl, hcs, _, hl, hm, hmm, hx, hr⟩
  · simp [Value.cells] at hcs
    obtain ⟨rfl, rfl, rfl⟩ := hcs
    exact ⟨[], ⟨none, 0, 0, 0, rfl, by simp, by omega, fun h => absurd rfl h, fun i f hi => by simp at hi⟩, fun f hf => by cases hf⟩
  · simp [Value.cells] at hcs
    obtain ⟨rfl, rfl, rfl⟩ := hcs
    simp only [if_true] at hmm
    subst hmm
    rw [cells81] at hr
    have each : ∀ r, r < len → ∃ f : Fil, W.cell? ((x.add (r * 3)).add 0) = some (.string f.path) ∧ W.cell? ((x.add (r * 3)).add 1) = some (.bool f.dir) ∧ W.cell? ((x.add (r * 3)).add 2) = some (.string f.data) ∧ f.path.size ≤ 9223372036854775807 := by
      intro r hlt
      obtain ⟨cs', h1, h2⟩ := hr r (by omega)
      exact file_in h1 h2
    haveI : Inhabited Fil := ⟨hiF⟩
    obtain ⟨y, hy⟩ := choose_lt each
    have hcap : m ≤ 9223372036854775807 := by unfold maxLen at hm; omega
    obtain ⟨b, o, hpx⟩ : ∃ b o, 0 < len → x = ⟨b, o, none⟩ ∧ b < W.heap.size := by
      by_cases h0 : 0 < len
      · have hc := (hy 0 h0).1
        obtain ⟨b', o', sp⟩ := x
        have hspot : sp = none := by simpa [Addr.add] using World.cell?_spot hc
        subst hspot
        rw [Addr.add_mid, Addr.add_mid] at hc
        exact ⟨b', o', fun _ => ⟨rfl, World.block_lt_of_cell? W _ hc⟩⟩
      · exact ⟨0, 0, fun h => absurd h h0⟩
    refine ⟨(List.range len).map y, ⟨some x, m, b, o, by simp, by simpa using hl, hcap, fun h => ?_, fun j f hj => ?_⟩, fun f hf => ?_⟩
    · have h0 : 0 < len := by
        rcases Nat.eq_zero_or_pos len with h1 | h1
        · subst h1; exact absurd rfl h
        · exact h1
      exact ⟨by rw [(hpx h0).1], (hpx h0).2⟩
    · have hi : j < len := by have := (List.getElem?_eq_some_iff.1 hj).1; simpa using this
      simp [hi] at hj
      subst hj
      obtain ⟨h0, h1, h2, _⟩ := hy j hi
      rw [(hpx (by omega)).1, Addr.add_mid, Addr.add_mid] at h0 h1 h2
      intro i v hv
      match i with
      | 0 => simp [Fil.cells] at hv; subst hv; simpa using h0
      | 1 => simp [Fil.cells] at hv; subst hv; exact h1
      | 2 => simp [Fil.cells] at hv; subst hv; exact h2
      | i + 3 => simp [Fil.cells] at hv
    · obtain ⟨r, hr2, rfl⟩ := List.mem_map.1 hf
      exact (hy r (by simpa using hr2)).2.2.2
/-- a world for the witness: the table (block 0) holds what its initialiser lays -/
def laidOn (w : World) : World :=
  { w with heap := w.heap.modify 0 fun
      | .cells _ t frozen => .cells (Sb.Sha.K.map u32v).toArray t frozen
      | o => o }
end Go.Proofs.YtamaejlbojbbeaaGreatDoor.Tr
