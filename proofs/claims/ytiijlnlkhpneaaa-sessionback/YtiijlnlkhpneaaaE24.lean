/-
  The walk of SessionBack.
-/
import Derived.Deep.CutRange
import Derived.OwnWalk
import Derived.Laws.Tables
import Derived.Laws.CopyOwn
import Derived.Deep.RegionLaw
import Derived.Deep.DrawnRows
import Derived.Test.YtiijlnlkhpneaaaE00
import Derived.Test.YtiijlnlkhpneaaaE01
import Derived.Test.YtiijlnlkhpneaaaE02
import Derived.Test.YtiijlnlkhpneaaaE03
import Derived.Test.YtiijlnlkhpneaaaE04
import Derived.Test.YtiijlnlkhpneaaaE05
import Derived.Test.YtiijlnlkhpneaaaE06
import Derived.Test.YtiijlnlkhpneaaaE07
import Derived.Test.YtiijlnlkhpneaaaE08
import Derived.Test.YtiijlnlkhpneaaaE09
import Derived.Test.YtiijlnlkhpneaaaE10
import Derived.Test.YtiijlnlkhpneaaaE11
import Derived.Test.YtiijlnlkhpneaaaE12
import Derived.Test.YtiijlnlkhpneaaaE13
import Derived.Test.YtiijlnlkhpneaaaE14
import Derived.Test.YtiijlnlkhpneaaaE15
import Derived.Test.YtiijlnlkhpneaaaE16
import Derived.Test.YtiijlnlkhpneaaaE17
import Derived.Test.YtiijlnlkhpneaaaE18
import Derived.Test.YtiijlnlkhpneaaaE19
import Derived.Test.YtiijlnlkhpneaaaE20
import Derived.Test.YtiijlnlkhpneaaaE21
import Derived.Test.YtiijlnlkhpneaaaE22
import Derived.Test.YtiijlnlkhpneaaaE23
namespace Go.Proofs.Ytiijlnlkhpneaaa.Se
open Go.RowKit
open Nd (take_put Row wp_world post_Row grownBy_setCell below_of_grown grownBy_trans grown_of_below grownBy_refl i64r Sl str)
theorem ps_new2 {a w3 w4 : World} {g : Nat} {room : Int} (hb : Below a.heap.size a w3) (ht : Tab w3 g room noTab) (hw : w3.alloc (.cells #[.int .i64 room, .slice none 0 0] 32) = w4) : PS w4 a w3.heap.size g w3.heap.size room noTab noTab w4 := by
  have hr : Row w4 w3.heap.size [.int .i64 room, .slice none 0 0] 32 := by
    rw [← hw]
    exact Row.new w3 [.int .i64 room, .slice none 0 0] 32
  have hb4 : Below w3.heap.size w3 w4 := by
    rw [← hw]
    exact (Below.refl _ _).alloc (Nat.le_refl _) _
  exact ⟨ht.below hb4 ht.lt, ⟨⟨_, hr, SO.nil _ _⟩, Nat.le_refl _⟩, hb.trans (hb4.mono hb.size), Oth2.refl _ _ _, Nat.le_refl _⟩
theorem bn_new {a w16 w17 : World} {g u c : Nat} {room : Int} {T T2 : List Seat} (h : BM a g u c room T T2 w16) (hw : w16.alloc (.cells #[.int .i64 room, .slice none 0 0] 32) = w17) : BN a c w16.heap.size w16.heap.size room T noTab w17 := by
  have hr : Row w17 w16.heap.size [.int .i64 room, .slice none 0 0] 32 := by
    rw [← hw]
    exact Row.new w16 [.int .i64 room, .slice none 0 0] 32
  have hb : Below w16.heap.size w16 w17 := by
    rw [← hw]
    exact (Below.refl _ _).alloc (Nat.le_refl _) _
  exact ⟨h.fc.below hb h.fc.lt, ⟨⟨_, hr, SO.nil _ _⟩, Nat.le_refl _⟩, h.bel.trans (hb.mono h.bel.size), h.bel.size⟩
/-- behind the last loop -/
def BE (a w : World) (c B p : Nat) (room : Int) (T : List Seat) (W : World) : Prop := BN a c B p room T T W ∧ Below w.heap.size w W
theorem BE.below {a w : World} {c B p : Nat} {room : Int} {T : List Seat} {W W' : World} (h : BE a w c B p room T W) (hb : Below W.heap.size W W') : BE a w c B p room T W' := ⟨h.1.below hb, h.2.trans (hb.mono h.2.size)⟩
set_option maxHeartbeats 16000000 in
set_option maxRecDepth 100000 in
theorem back_any (room : Int) (a : World) (v v2 : Value) (ss mm : List Act1) (h : Acts a v ss) (hk : Acts a v2 mm) (hs : ∀ x ∈ ss, i64r x.at_) (hm : ∀ x ∈ mm, i64r x.at_) :
    Calls Try.prog 7 #[.int .i64 room, v, v2] a fun e w' => e = .returned (.bool true) ∧ Below a.heap.size a w' := by
  have HAW := hid_in (awake_any a)
  have HFI := hid_in (fun W (x : Below a.heap.size a W) => fits_any W v ss (h.below x))
  have HFM := hid_in (fun W (x : Below a.heap.size a W) => fits_any W v2 mm (hk.below x))
  by_cases hro : roomOk room
  · obtain ⟨rm, rfl⟩ := Int.eq_ofNat_of_zero_le hro.1
    have r1 : ¬ (rm : Int) < 0 := by have := hro.1; omega
    have r2 : ¬ 8192 < (rm : Int) := by have := hro.2; omega
    have HMK := hid_in (fun W => make_ok rm W hro)
    have H0 := hid_in hro.1
    have H9 : Hid (rm ≤ 8192) := hid_in (by have := hro.2; omega)
    have HK1 := hid_in (Ok.play H0.out (ss.take 200) (ok_no H0.out) (fun x hx => hs x (List.mem_of_mem_take hx)))
    have HPP := hid_in (fun (w3 w4 : World) (g : Nat) (hb : Below a.heap.size a w3) (ht : Tab w3 g rm noTab) (hg : a.heap.size ≤ g) (hw : w3.alloc (.cells #[.int .i64 rm, .slice none 0 0] 32) = w4) => play_any (ps_new2 hb ht hw) right_no H0.out hg ht.lt ss v h)
    obtain ⟨T1, HT1⟩ : ∃ T1, Hid (playT rm noTab (ss.take 200) = T1) := ⟨_, hid_in rfl⟩
    rw [HT1.out] at HK1 HPP
    have HK2 := hid_in (Ok.play H0.out (mm.take 200) HK1.out (fun x hx => hm x (List.mem_of_mem_take hx)))
    have HPQ := hid_in (fun (w : World) (B g r : Nat) (hp : PS w a B g r rm T1 T1 w) (hg : a.heap.size ≤ g) (hgB : g < B) => play_any hp HK1.out.right H0.out hg hgB mm v2 hk)
    obtain ⟨T2, HT2⟩ : ∃ T2, Hid (playT rm T1 (mm.take 200) = T2) := ⟨_, hid_in rfl⟩
    rw [HT2.out] at HK2 HPQ
    obtain ⟨p1, c1, rfl, hl1, hat⟩ := h.at_
    obtain ⟨p2, c2, rfl, hl2, -⟩ := hk.at_
    have HAT := hid_in hat
    have hM : (ss.length : Int) ≤ 9223372036854775807 := by omega
    generalize hn : ss.length = M at *
    generalize mm.length = M2 at *
    have HNN := hid_in hn
    obtain ⟨K, HK⟩ : ∃ K, Hid (K = min M 200) := ⟨_, hid_in rfl⟩
    have HKT : Hid (ss.take K = ss.take 200) := hid_in (by
      rw [HK.out, ← HNN.out]
      rcases Nat.le_total ss.length 200 with h1 | h1
      · rw [Nat.min_eq_left h1, List.take_length, List.take_of_length_le h1]
      · rw [Nat.min_eq_right h1])
    -- Encode and Decode, by letters
    obtain ⟨Z1, HZ1⟩ : ∃ Z, Hid (encT (rm : Int) (T1.filter seated) = Z) := ⟨_, hid_in rfl⟩
    obtain ⟨Z2, HZ2⟩ : ∃ Z, Hid (encT (rm : Int) (T2.filter seated) = Z) := ⟨_, hid_in rfl⟩
    have HEN1 := hid_in (fun W g (k : Tab W g (rm : Int) T1) => enc_sl k HK1.out H9.out)
    have HEN2 := hid_in (fun W g (k : Tab W g (rm : Int) T2) => enc_sl k HK2.out H9.out)
    have HDE := hid_in (fun (W : World) (p : Option Addr) (cap b : Nat) (k : Sl W p (encT (rm : Int) (T1.filter seated)) cap b 0) (hno : p = none → (encT (rm : Int) (T1.filter seated)).length = 0 ∧ cap = 0) => dec_enc HK1.out H9.out k hno)
    rw [HZ1.out] at HEN1 HDE
    rw [HZ2.out] at HEN2
    have HCV := hid_in (fun (W : World) (p : Option Addr) (cap b : Nat) (k : Sl W p Z2 cap b 0) => Nd.conv_sl k)
    obtain ⟨SZ, HSZ⟩ : ∃ S, Hid (str Z2 = S) := ⟨_, hid_in rfl⟩
    rw [HSZ.out] at HCV
    obtain ⟨z1, HZL1⟩ : ∃ z, Hid (Z1.length = z) := ⟨_, hid_in rfl⟩
    obtain ⟨z2, HZL2⟩ : ∃ z, Hid (Z2.length = z) := ⟨_, hid_in rfl⟩
    rw [HZL1.out] at HEN1 HDE
    rw [HZL2.out] at HEN2 HCV
    clear h hk hs hm hro hat hl1 hl2 hn
    go_enter Try.func7, Try.ntmps7
    go_upto_region 3 with (first | (go_at_call 8; refine HAW.out.mono ?_; rintro e w1 ⟨rfl, hb1⟩; have HB1 := hid_in hb1; clear hb1))
    go_upto_region 5 with (first | (go_at_call 9; refine (HFI.out _ HB1.out).mono ?_; rintro e w2 ⟨⟨ft, rfl⟩, rfl⟩; clear HFI; rcases ft with _ | _) | (go_at_call 9; refine (HFM.out _ HB1.out).mono ?_; rintro e w2 ⟨⟨fm, rfl⟩, rfl⟩; clear HFM; rcases fm with _ | _))
    · go_wp2_with fail
      go_ret
      exact ⟨rfl, HB1.out⟩
    · go_wp2_with fail
      go_ret
      exact ⟨rfl, HB1.out⟩
    · clear HAW
      go_upto_region 7 with (first | (go_at_call 10; refine (HMK.out _).mono ?_; rintro e w3 ⟨g, rfl, ht3, hb3, hg3⟩; have HT3 := hid_in ht3; have HB3 := hid_in (HB1.out.trans (hb3.mono HB1.out.size)); have HG3 := hid_in (Nat.le_trans HB1.out.size hg3); clear ht3 hb3 hg3))
      obtain ⟨w4, HW4⟩ : ∃ w4, Hid (w3.alloc (.cells #[.int .i64 rm, .slice none 0 0] 32) = w4) := ⟨_, hid_in rfl⟩
      have HPL := hid_in (HPP.out w3 w4 g HB3.out HT3.out HG3.out HW4.out)
      have HGL := hid_in HT3.out.lt
      refine wp_world HW4.out ?_
      generalize w3.heap.size = r at *
      obtain ⟨B1, HBB⟩ : ∃ B, Hid (r = B) := ⟨_, hid_in rfl⟩
      have HPL0 : Hid (Calls Try.prog 11 #[.pointer (some ⟨g, 0, none⟩), .pointer (some ⟨r, 0, none⟩), .slice p1 M c1] w4 fun e w' => e = .returned (.bool true) ∧ PS w4 a B1 g r rm T1 T1 w') := hid_in (by rw [← HBB.out]; exact HPL.out)
      have HGB : Hid (g < B1) := hid_in (by rw [← HBB.out]; exact HGL.out)
      clear HPL HW4 HPP HMK HB3 HT3 HB1 HBB HGL
      go_upto_region 9 with (first | (go_at_call 11; refine HPL0.out.mono ?_; rintro e w5 ⟨rfl, hp5⟩; have HP5 := hid_in hp5; clear hp5))
      go_upto_region 12 with (first | (go_at_call 18; refine (HEN1.out _ _ HP5.out.tab).mono ?_; rintro e w6 ⟨p6, c6, b6, rfl, hs6, hno6, hb6⟩; have HS6 := hid_in hs6; have HNO6 := hid_in hno6; have HB6 := hid_in hb6; clear hs6 hno6 hb6) | (go_at_call 20; refine (HDE.out _ _ _ _ HS6.out HNO6.out).mono ?_; rintro e w7 ⟨u, rfl, ht7, hu7, hb7⟩; have HT7 := hid_in ht7; have HU7 := hid_in (Nat.le_trans HB6.out.size hu7); have HB7 := hid_in (HB6.out.trans (hb7.mono HB6.out.size)); clear ht7 hu7 hb7))
      have HTG7 := hid_in (HP5.out.tab.below HB7.out HP5.out.tab.lt)
      have HUL := hid_in HT7.out.lt
      go_upto_region 14 with (first | (go_at_call 22; refine (clone_any HTG7.out).mono ?_; rintro e w8 ⟨c, rfl, ht8, hb8, hc8⟩; have HT8 := hid_in ht8; have HC8 := hid_in (Nat.lt_of_lt_of_le HUL.out hc8); have HU8 := hid_in (HT7.out.below hb8 HUL.out); have HB8 := hid_in (HB7.out.trans (hb8.mono HB7.out.size)); have HR8 := hid_in (HP5.out.rt.below HB8.out); clear ht8 hb8 hc8) | (go_at_call 23; refine (rclone_any HR8.out (by have := filter_le8 HK1.out.right; omega)).mono ?_; rintro e w9 ⟨q, rfl, hq9, hb9⟩; have HQ9 := hid_in hq9; have HB9 := hid_in hb9; clear hq9 hb9))
      have HBX := hid_in (HB8.out.trans (HB9.out.mono HB8.out.size))
      have HBK : Hid (BK a B1 g r u c w8.heap.size q rm T1 w9) := hid_in ⟨HP5.out.tab.below HBX.out HP5.out.tab.lt, HP5.out.rt.below HBX.out, HU8.out.below HB9.out HU8.out.lt, HT8.out.below HB9.out HT8.out.lt, HQ9.out, HP5.out.bel.trans (HBX.out.mono HP5.out.bel.size), HG3.out, HGB.out, fun b e => Nat.lt_of_lt_of_le (HP5.out.rt.row_lt (by rw [← rowOf_below HBX.out HP5.out.rt.lt]; exact e)) HU7.out, Nat.lt_of_lt_of_le HP5.out.tab.lt HU7.out, Nat.lt_of_lt_of_le HP5.out.rt.lt HU7.out, HC8.out, HT8.out.lt⟩
      generalize w8.heap.size = B2 at *
      clear HP5 HS6 HNO6 HB6 HB7 HT7 HU7 HTG7 HUL HT8 HC8 HU8 HB8 HR8 HQ9 HB9 HBX HEN1 HDE HPL0
      have HBK9 := hid_in (HBK.out.below (Below.refl _ _).drew)
      have HPL1 := hid_in (HPQ.out _ B1 g r HBK9.out.ps1 HG3.out HGB.out)
      have HPL2 := hid_in (fun W (k : BL a g u c B2 q rm T1 T2 W) => HPQ.out W B2 u q k.ps k.au (Nat.lt_trans k.uc k.cB))
      clear HPQ HBK
      go_cut [98] from 70 to 98 (fun vx W => vx = .bool false ∧ Hid (BM a g u c rm T1 T2 W))
      case first =>
        refine wp_region_held_drew (S := fun _ => True) (by kernel_rfl) trivial (fun hHeld => ?_)
        refine take_put (i := 0) (d := 70) (v := ?_) rfl rfl (by kernel_rfl) (by kernel_rfl) (by kernel_rfl) (fun _ _ _ h => h) (Or.inl ⟨by kernel_rfl, ?_⟩) hHeld ?_
        rotate_left
        · (intro w hSw; (try dsimp only at hSw); go_simp; (try with_reducible rfl))
        simp only [Act.put, List.setIfInBounds_toArray, List.set_cons_zero, List.set_cons_succ]
        refine take_put (i := 1) (d := 71) (v := ?_) rfl rfl (by kernel_rfl) (by kernel_rfl) (by kernel_rfl) (fun _ _ _ h => h) (Or.inl ⟨by kernel_rfl, ?_⟩) hHeld ?_
        rotate_left
        · (intro w hSw; (try dsimp only at hSw); go_simp; (try with_reducible rfl))
        simp only [Act.put, List.setIfInBounds_toArray, List.set_cons_zero, List.set_cons_succ]
        refine take_put (i := 2) (d := 72) (v := ?_) rfl rfl (by kernel_rfl) (by kernel_rfl) (by kernel_rfl) (fun _ _ _ h => h) (Or.inl ⟨by kernel_rfl, ?_⟩) hHeld ?_
        rotate_left
        · (intro w hSw; (try dsimp only at hSw); go_simp; (try with_reducible rfl))
        simp only [Act.put, List.setIfInBounds_toArray, List.set_cons_zero, List.set_cons_succ]
        refine wpAnyH_ready (rs := [3]) (by kernel_rfl) (by simp) ?_
        refine AllReadyH.cons rfl (fun K hK => ?_) AllReadyH.nil
        rw [if_pos (by rfl)]
        go_simp
        refine (HPL1.out).mono ?_
        rintro e w10 ⟨rfl, hp10⟩
        have HL10 := hid_in (HBK9.out.play hp10)
        clear hp10
        go_simp
        refine hK.out _ _ trivial (fun hHeld => ?_)
        clear hK K
        refine take_put (i := 4) (d := 74) (v := .bool false) rfl rfl (by kernel_rfl) (by kernel_rfl) (by kernel_rfl) (fun _ _ _ h => h) (Or.inl ⟨by kernel_rfl, fun w hSw => ?_⟩) hHeld ?_
        · (go_simp)
        simp only [Act.put, List.setIfInBounds_toArray, List.set_cons_zero, List.set_cons_succ]
        refine take_put (i := 5) (d := 75) (v := ?_) rfl rfl (by kernel_rfl) (by kernel_rfl) (by kernel_rfl) (fun _ _ _ h => h) (Or.inl ⟨by kernel_rfl, ?_⟩) hHeld ?_
        rotate_left
        · (intro w hSw; (try dsimp only at hSw); go_simp; (try with_reducible rfl))
        simp only [Act.put, List.setIfInBounds_toArray, List.set_cons_zero, List.set_cons_succ]
        refine take_put (i := 6) (d := 76) (v := ?_) rfl rfl (by kernel_rfl) (by kernel_rfl) (by kernel_rfl) (fun _ _ _ h => h) (Or.inl ⟨by kernel_rfl, ?_⟩) hHeld ?_
        rotate_left
        · (intro w hSw; (try dsimp only at hSw); go_simp; (try with_reducible rfl))
        simp only [Act.put, List.setIfInBounds_toArray, List.set_cons_zero, List.set_cons_succ]
        refine take_put (i := 7) (d := 77) (v := ?_) rfl rfl (by kernel_rfl) (by kernel_rfl) (by kernel_rfl) (fun _ _ _ h => h) (Or.inl ⟨by kernel_rfl, ?_⟩) hHeld ?_
        rotate_left
        · (intro w hSw; (try dsimp only at hSw); go_simp; (try with_reducible rfl))
        simp only [Act.put, List.setIfInBounds_toArray, List.set_cons_zero, List.set_cons_succ]
        refine take_put (i := 8) (d := 78) (v := ?_) rfl rfl (by kernel_rfl) (by kernel_rfl) (by kernel_rfl) (fun _ _ _ h => h) (Or.inl ⟨by kernel_rfl, ?_⟩) hHeld ?_
        rotate_left
        · (intro w hSw; (try dsimp only at hSw); go_simp; (try with_reducible rfl))
        simp only [Act.put, List.setIfInBounds_toArray, List.set_cons_zero, List.set_cons_succ]
        refine wpAnyH_ready (rs := [9]) (by kernel_rfl) (by simp) ?_
        refine AllReadyH.cons rfl (fun K hK => ?_) AllReadyH.nil
        rw [if_pos (by rfl)]
        go_simp
        refine (HPL2.out _ HL10.out).mono ?_
        rintro e w11 ⟨rfl, hp11⟩
        have HM11 := hid_in (HL10.out.play hp11)
        clear hp11
        go_simp
        refine hK.out _ _ trivial (fun hHeld => ?_)
        clear hK K
        refine take_put (i := 10) (d := 80) (v := .bool false) rfl rfl (by kernel_rfl) (by kernel_rfl) (by kernel_rfl) (fun _ _ _ h => h) (Or.inl ⟨by kernel_rfl, fun w hSw => ?_⟩) hHeld ?_
        · (go_simp)
        simp only [Act.put, List.setIfInBounds_toArray, List.set_cons_zero, List.set_cons_succ]
        refine take_put (i := 11) (d := 81) (v := .bool false) rfl rfl (by kernel_rfl) (by kernel_rfl) (by kernel_rfl) (fun _ _ _ h => h) (Or.inl ⟨by kernel_rfl, fun w hSw => ?_⟩) hHeld ?_
        · (go_simp)
        simp only [Act.put, List.setIfInBounds_toArray, List.set_cons_zero, List.set_cons_succ]
        refine take_put (i := 12) (d := 82) (v := ?_) rfl rfl (by kernel_rfl) (by kernel_rfl) (by kernel_rfl) (fun _ _ _ h => h) (Or.inl ⟨by kernel_rfl, ?_⟩) hHeld ?_
        rotate_left
        · (intro w hSw; (try dsimp only at hSw); go_simp; (try with_reducible rfl))
        simp only [Act.put, List.setIfInBounds_toArray, List.set_cons_zero, List.set_cons_succ]
        refine take_put (i := 13) (d := 83) (v := ?_) rfl rfl (by kernel_rfl) (by kernel_rfl) (by kernel_rfl) (fun _ _ _ h => h) (Or.inl ⟨by kernel_rfl, ?_⟩) hHeld ?_
        rotate_left
        · (intro w hSw; (try dsimp only at hSw); go_simp; (try with_reducible rfl))
        simp only [Act.put, List.setIfInBounds_toArray, List.set_cons_zero, List.set_cons_succ]
        refine take_put (i := 15) (d := 85) (v := ?_) rfl rfl (by kernel_rfl) (by kernel_rfl) (by kernel_rfl) (fun _ _ _ h => h) (Or.inl ⟨by kernel_rfl, ?_⟩) hHeld ?_
        rotate_left
        · (intro w hSw; (try dsimp only at hSw); go_simp; (try with_reducible rfl))
        simp only [Act.put, List.setIfInBounds_toArray, List.set_cons_zero, List.set_cons_succ]
        refine wpAnyH_ready (rs := [14]) (by kernel_rfl) (by simp) ?_
        refine AllReadyH.cons rfl (fun K hK => ?_) AllReadyH.nil
        rw [if_pos (by rfl)]
        go_simp
        refine (list_any HM11.out.ft).mono ?_
        rintro e w12 ⟨v12, rfl, hso12, hb12⟩
        have HM12 := hid_in (HM11.out.below hb12)
        have HS12 := hid_in hso12
        clear hso12 hb12
        go_simp
        refine hK.out _ _ trivial (fun hHeld => ?_)
        clear hK K
        refine wpAnyH_ready (rs := [16]) (by kernel_rfl) (by simp) ?_
        refine AllReadyH.cons rfl (fun K hK => ?_) AllReadyH.nil
        rw [if_pos (by rfl)]
        go_simp
        refine (list_any HM12.out.fu).mono ?_
        rintro e w13 ⟨v13, rfl, hso13, hb13⟩
        have HM13 := hid_in (HM12.out.below hb13)
        have HS13 := hid_in hso13
        have HS12b := hid_in (HS12.out.below hb13)
        clear hso13 hb13
        go_simp
        refine hK.out _ _ trivial (fun hHeld => ?_)
        clear hK K
        refine wpAnyH_ready (rs := [17]) (by kernel_rfl) (by simp) ?_
        refine AllReadyH.cons rfl (fun K hK => ?_) AllReadyH.nil
        rw [if_pos (by rfl)]
        go_simp
        refine (seats_yes HS12b.out.sls HS13.out.sls).mono ?_
        rintro e w14 ⟨rfl, hb14⟩
        have HM14 := hid_in (HM13.out.below hb14)
        clear hb14
        go_simp
        refine hK.out _ _ trivial (fun hHeld => ?_)
        clear hK K
        refine take_put (i := 18) (d := 88) (v := .bool false) rfl rfl (by kernel_rfl) (by kernel_rfl) (by kernel_rfl) (fun _ _ _ h => h) (Or.inl ⟨by kernel_rfl, fun w hSw => ?_⟩) hHeld ?_
        · (go_simp)
        simp only [Act.put, List.setIfInBounds_toArray, List.set_cons_zero, List.set_cons_succ]
        refine take_put (i := 19) (d := 89) (v := .bool false) rfl rfl (by kernel_rfl) (by kernel_rfl) (by kernel_rfl) (fun _ _ _ h => h) (Or.inl ⟨by kernel_rfl, fun w hSw => ?_⟩) hHeld ?_
        · (go_simp)
        simp only [Act.put, List.setIfInBounds_toArray, List.set_cons_zero, List.set_cons_succ]
        refine take_put (i := 20) (d := 90) (v := ?_) rfl rfl (by kernel_rfl) (by kernel_rfl) (by kernel_rfl) (fun _ _ _ h => h) (Or.inl ⟨by kernel_rfl, ?_⟩) hHeld ?_
        rotate_left
        · (intro w hSw; (try dsimp only at hSw); go_simp; (try with_reducible rfl))
        simp only [Act.put, List.setIfInBounds_toArray, List.set_cons_zero, List.set_cons_succ]
        refine take_put (i := 21) (d := 91) (v := ?_) rfl rfl (by kernel_rfl) (by kernel_rfl) (by kernel_rfl) (fun _ _ _ h => h) (Or.inl ⟨by kernel_rfl, ?_⟩) hHeld ?_
        rotate_left
        · (intro w hSw; (try dsimp only at hSw); go_simp; (try with_reducible rfl))
        simp only [Act.put, List.setIfInBounds_toArray, List.set_cons_zero, List.set_cons_succ]
        refine take_put (i := 24) (d := 94) (v := ?_) rfl rfl (by kernel_rfl) (by kernel_rfl) (by kernel_rfl) (fun _ _ _ h => h) (Or.inl ⟨by kernel_rfl, ?_⟩) hHeld ?_
        rotate_left
        · (intro w hSw; (try dsimp only at hSw); go_simp; (try with_reducible rfl))
        simp only [Act.put, List.setIfInBounds_toArray, List.set_cons_zero, List.set_cons_succ]
        refine wpAnyH_ready (rs := [22]) (by kernel_rfl) (by simp) ?_
        refine AllReadyH.cons rfl (fun K hK => ?_) AllReadyH.nil
        rw [if_pos (by rfl)]
        go_simp
        refine (HEN2.out _ _ HM14.out.ft).mono ?_
        rintro e w15 ⟨p15, c15, b15, rfl, hs15, -, hb15⟩
        have HM15 := hid_in (HM14.out.below hb15)
        have HS15 := hid_in hs15
        have cv15 := HCV.out _ _ _ _ hs15
        clear hs15 hb15
        go_simp
        refine hK.out _ _ trivial (fun hHeld => ?_)
        clear hK K
        refine wpAnyH_ready (rs := [23, 25]) (by kernel_rfl) (by simp) ?_
        refine AllReadyH.cons rfl (fun K hK => ?_) (AllReadyH.cons rfl (fun K hK => ?_) AllReadyH.nil)
        · rw [if_pos (by rfl)]
          go_simp
          refine hK.out _ _ trivial (fun hHeld => ?_)
          clear hK K
          refine wpAnyH_ready (rs := [25]) (by kernel_rfl) (by simp) ?_
          refine AllReadyH.cons rfl (fun K hK => ?_) AllReadyH.nil
          rw [if_pos (by rfl)]
          go_simp
          refine (HEN2.out _ _ HM15.out.fu).mono ?_
          rintro e w16 ⟨p16, c16, b16, rfl, hs16, -, hb16⟩
          have HM16 := hid_in (HM15.out.below hb16)
          have cv16 := HCV.out _ _ _ _ hs16
          have cv17 := HCV.out _ _ _ _ (HS15.out.below hb16)
          clear hs16 hb16
          go_simp
          refine hK.out _ _ trivial (fun hHeld => ?_)
          clear hK K
          refine wpAnyH_ready (rs := [26]) (by kernel_rfl) (by simp) ?_
          refine AllReadyH.cons rfl (fun K hK => ?_) AllReadyH.nil
          rw [if_pos (by rfl)]
          go_simp
          refine hK.out _ _ trivial (fun hHeld => ?_)
          clear hK K
          refine take_put (i := 27) (d := 97) (v := .bool false) rfl rfl (by kernel_rfl) (by kernel_rfl) (by kernel_rfl) (fun _ _ _ h => h) (Or.inl ⟨by kernel_rfl, fun w hSw => ?_⟩) hHeld ?_
          · (go_simp)
          simp only [Act.put, List.setIfInBounds_toArray, List.set_cons_zero, List.set_cons_succ]
          refine take_put (i := 28) (d := 98) (v := .bool false) rfl rfl (by kernel_rfl) (by kernel_rfl) (by kernel_rfl) (fun _ _ _ h => h) (Or.inl ⟨by kernel_rfl, fun w hSw => ?_⟩) hHeld ?_
          · (go_simp)
          simp only [Act.put, List.setIfInBounds_toArray, List.set_cons_zero, List.set_cons_succ]
          refine wpAnyH_done (by kernel_rfl) ?_ _
          go_wp2_with fail
          go_meet
          exact ⟨rfl, HM16.out⟩
        · rw [if_pos (by rfl)]
          go_simp
          refine (HEN2.out _ _ HM15.out.fu).mono ?_
          rintro e w16 ⟨p16, c16, b16, rfl, hs16, -, hb16⟩
          have HM16 := hid_in (HM15.out.below hb16)
          have cv16 := HCV.out _ _ _ _ hs16
          have cv17 := HCV.out _ _ _ _ (HS15.out.below hb16)
          clear hs16 hb16
          go_simp
          refine hK.out _ _ trivial (fun hHeld => ?_)
          clear hK K
          refine wpAnyH_ready (rs := [23, 26]) (by kernel_rfl) (by simp) ?_
          refine AllReadyH.cons rfl (fun K hK => ?_) (AllReadyH.cons rfl (fun K hK => ?_) AllReadyH.nil)
          · rw [if_pos (by rfl)]
            go_simp
            refine hK.out _ _ trivial (fun hHeld => ?_)
            clear hK K
            refine wpAnyH_ready (rs := [26]) (by kernel_rfl) (by simp) ?_
            refine AllReadyH.cons rfl (fun K hK => ?_) AllReadyH.nil
            rw [if_pos (by rfl)]
            go_simp
            refine hK.out _ _ trivial (fun hHeld => ?_)
            clear hK K
            refine take_put (i := 27) (d := 97) (v := .bool false) rfl rfl (by kernel_rfl) (by kernel_rfl) (by kernel_rfl) (fun _ _ _ h => h) (Or.inl ⟨by kernel_rfl, fun w hSw => ?_⟩) hHeld ?_
            · (go_simp)
            simp only [Act.put, List.setIfInBounds_toArray, List.set_cons_zero, List.set_cons_succ]
            refine take_put (i := 28) (d := 98) (v := .bool false) rfl rfl (by kernel_rfl) (by kernel_rfl) (by kernel_rfl) (fun _ _ _ h => h) (Or.inl ⟨by kernel_rfl, fun w hSw => ?_⟩) hHeld ?_
            · (go_simp)
            simp only [Act.put, List.setIfInBounds_toArray, List.set_cons_zero, List.set_cons_succ]
            refine wpAnyH_done (by kernel_rfl) ?_ _
            go_wp2_with fail
            go_meet
            exact ⟨rfl, HM16.out⟩
          · rw [if_pos (by rfl)]
            go_simp
            refine hK.out _ _ trivial (fun hHeld => ?_)
            clear hK K
            refine wpAnyH_ready (rs := [23]) (by kernel_rfl) (by simp) ?_
            refine AllReadyH.cons rfl (fun K hK => ?_) AllReadyH.nil
            rw [if_pos (by rfl)]
            go_simp
            refine hK.out _ _ trivial (fun hHeld => ?_)
            clear hK K
            refine take_put (i := 27) (d := 97) (v := .bool false) rfl rfl (by kernel_rfl) (by kernel_rfl) (by kernel_rfl) (fun _ _ _ h => h) (Or.inl ⟨by kernel_rfl, fun w hSw => ?_⟩) hHeld ?_
            · (go_simp)
            simp only [Act.put, List.setIfInBounds_toArray, List.set_cons_zero, List.set_cons_succ]
            refine take_put (i := 28) (d := 98) (v := .bool false) rfl rfl (by kernel_rfl) (by kernel_rfl) (by kernel_rfl) (fun _ _ _ h => h) (Or.inl ⟨by kernel_rfl, fun w hSw => ?_⟩) hHeld ?_
            · (go_simp)
            simp only [Act.put, List.setIfInBounds_toArray, List.set_cons_zero, List.set_cons_succ]
            refine wpAnyH_done (by kernel_rfl) ?_ _
            go_wp2_with fail
            go_meet
            exact ⟨rfl, HM16.out⟩
      case rest =>
        obtain ⟨rfl, HM16⟩ := hcut
        clear HPL1 HPL2 HBK9 HEN2 HCV
        go_upto_region 17 with fail
        obtain ⟨w17, HW17⟩ : ∃ w17, Hid (wc.alloc (.cells #[.int .i64 rm, .slice none 0 0] 32) = w17) := ⟨_, hid_in rfl⟩
        have HN17 := hid_in (bn_new HM16.out HW17.out)
        refine wp_world HW17.out ?_
        generalize wc.heap.size = p at *
        obtain ⟨B, HBB⟩ : ∃ B, Hid (p = B) := ⟨_, hid_in rfl⟩
        have HN0 : Hid (BN a c B p rm T1 noTab w17) := hid_in (by rw [← HBB.out]; exact HN17.out)
        clear HN17 HM16 HW17 HBB
        go_wp2_with fail
        go_loopw [15] (fun vi W => ∃ i : Nat, i ≤ K ∧ vi = .int .i64 (i : Int) ∧ Hid (BN a c B p rm T1 (playT rm noTab (ss.take i)) W)) (fun vi _ => K - (intOf vi).toNat)
        case atStart => exact ⟨0, by omega, rfl, HN0.out⟩
        case round =>
          clear HN0
          obtain ⟨i, hi, rfl, hst⟩ := hrel
          by_cases hlt : i < K
          · have hj1 : (i : Int) < (M : Int) := by have := HK.out; omega
            have hj2 : (i : Int) < 200 := by have := HK.out; omega
            have hj3 : ¬ (i : Int) < 0 := by omega
            have hj4 : 0 ≤ (i : Int) := by omega
            have HLT := hid_in hlt
            have hlo : i < ss.length := by rw [HNN.out]; have := HK.out; omega
            obtain ⟨b, o, rfl, hcs⟩ := HAT.out (by intro e; rw [e] at hlo; simp at hlo)
            have HCS := hid_in (fun W (k : Below a.heap.size a W) => hcs W k i _ (List.getElem?_eq_getElem hlo))
            have HSN := hid_in (play_snoc (room := (rm : Int)) (T := noTab) (List.getElem?_eq_getElem hlo))
            have HRT := hid_in (playT_right H0.out (ss.take i) right_no)
            obtain ⟨k0, k1, k2, k3, k4⟩ := HCS.out _ hst.out.bel
            generalize ss[i] = x at *
            obtain ⟨xf, xc, xn, xa, xr⟩ := x
            simp only at k0 k1 k2 k3 k4 HCS
            generalize playT rm noTab (ss.take i) = P1 at *
            have HBD : Hid (Below a.heap.size a wr.drew) := hid_in hst.out.bel.drew
            have HSS : Hid (∀ W, Below a.heap.size a W → W.cell? ⟨b, o + i * 5 + 1, none⟩ = some (.int .i64 xc) ∧ W.cell? ⟨b, o + i * 5 + 2, none⟩ = some (.int .i64 xn) ∧ W.cell? ⟨b, o + i * 5 + 3, none⟩ = some (.int .i64 xa) ∧ W.cell? ⟨b, o + i * 5 + 4, none⟩ = some (.string xr)) := hid_in (fun W k => (HCS.out W k).2)
            cases xf with
            | false =>
              have HSN2 : Hid (playT rm noTab (ss.take (i + 1)) = recT rm P1 xc xn xa xr) := hid_in (by rw [HSN.out]; unfold stepT; rw [if_neg (by simp)])
              clear hlo hcs hlt hi HSN HCS
              go_upto_region 22 with fail
              refine wp_region_held_drew (S := fun W => W.cell? ⟨b, o + i * 5 + 1, none⟩ = some (.int .i64 xc) ∧ W.cell? ⟨b, o + i * 5 + 2, none⟩ = some (.int .i64 xn) ∧ W.cell? ⟨b, o + i * 5 + 3, none⟩ = some (.int .i64 xa) ∧ W.cell? ⟨b, o + i * 5 + 4, none⟩ = some (.string xr)) (by kernel_rfl) (HSS.out _ HBD.out) (fun hHeld => ?_)
              refine take_put (i := 0) (d := 124) (v := ?_) rfl rfl (by kernel_rfl) (by kernel_rfl) (by kernel_rfl) (fun _ _ _ h => h) (Or.inl ⟨by kernel_rfl, ?_⟩) hHeld ?_
              rotate_left
              · (intro w hSw; (try dsimp only at hSw); go_simp; (try with_reducible rfl))
              simp only [Act.put, List.setIfInBounds_toArray, List.set_cons_zero, List.set_cons_succ]
              refine take_put (i := 1) (d := 125) (v := ?_) rfl rfl (by kernel_rfl) (by kernel_rfl) (by kernel_rfl) (fun _ _ _ h => h) (Or.inl ⟨by kernel_rfl, ?_⟩) hHeld ?_
              rotate_left
              · (intro w hSw; (try dsimp only at hSw); go_simp; (try with_reducible rfl))
              simp only [Act.put, List.setIfInBounds_toArray, List.set_cons_zero, List.set_cons_succ]
              refine take_put (i := 2) (d := 126) (v := ?_) rfl rfl (by kernel_rfl) (by kernel_rfl) (by kernel_rfl) (fun _ _ _ h => h) (Or.inl ⟨by kernel_rfl, ?_⟩) hHeld ?_
              rotate_left
              · (intro w hSw; (try dsimp only at hSw); go_simp; (try with_reducible rfl))
              simp only [Act.put, List.setIfInBounds_toArray, List.set_cons_zero, List.set_cons_succ]
              refine take_put (i := 3) (d := 127) (v := ?_) rfl rfl (by kernel_rfl) (by kernel_rfl) (by kernel_rfl) (fun _ _ _ h => h) (Or.inl ⟨by kernel_rfl, ?_⟩) hHeld ?_
              rotate_left
              · (intro w hSw; (try dsimp only at hSw); go_simp; (try with_reducible rfl))
              simp only [Act.put, List.setIfInBounds_toArray, List.set_cons_zero, List.set_cons_succ]
              refine take_put (i := 4) (d := 128) (v := ?_) rfl rfl (by kernel_rfl) (by kernel_rfl) (by kernel_rfl) (fun _ _ _ h => h) (Or.inl ⟨by kernel_rfl, ?_⟩) hHeld ?_
              rotate_left
              · (intro w hSw; (try dsimp only at hSw); go_simp; (try with_reducible rfl))
              simp only [Act.put, List.setIfInBounds_toArray, List.set_cons_zero, List.set_cons_succ]
              refine take_put (i := 5) (d := 129) (v := ?_) rfl rfl (by kernel_rfl) (by kernel_rfl) (by kernel_rfl) (fun _ _ _ h => h) (Or.inl ⟨by kernel_rfl, ?_⟩) hHeld ?_
              rotate_left
              · (intro w hSw; (try dsimp only at hSw); go_simp; (try with_reducible rfl))
              simp only [Act.put, List.setIfInBounds_toArray, List.set_cons_zero, List.set_cons_succ]
              refine take_put (i := 6) (d := 130) (v := ?_) rfl rfl (by kernel_rfl) (by kernel_rfl) (by kernel_rfl) (fun _ _ _ h => h) (Or.inl ⟨by kernel_rfl, ?_⟩) hHeld ?_
              rotate_left
              · (intro w hSw; (try dsimp only at hSw); go_simp; (try with_reducible rfl))
              simp only [Act.put, List.setIfInBounds_toArray, List.set_cons_zero, List.set_cons_succ]
              refine take_put (i := 7) (d := 131) (v := ?_) rfl rfl (by kernel_rfl) (by kernel_rfl) (by kernel_rfl) (fun _ _ _ h => h) (Or.inl ⟨by kernel_rfl, ?_⟩) hHeld ?_
              rotate_left
              · (intro w hSw; (try dsimp only at hSw); go_simp; (try with_reducible rfl))
              simp only [Act.put, List.setIfInBounds_toArray, List.set_cons_zero, List.set_cons_succ]
              refine take_put (i := 8) (d := 132) (v := ?_) rfl rfl (by kernel_rfl) (by kernel_rfl) (by kernel_rfl) (fun _ _ _ h => h) (Or.inl ⟨by kernel_rfl, ?_⟩) hHeld ?_
              rotate_left
              · (intro w hSw; (try dsimp only at hSw); go_simp; (try with_reducible rfl))
              simp only [Act.put, List.setIfInBounds_toArray, List.set_cons_zero, List.set_cons_succ]
              refine take_put (i := 9) (d := 133) (v := ?_) rfl rfl (by kernel_rfl) (by kernel_rfl) (by kernel_rfl) (fun _ _ _ h => h) (Or.inl ⟨by kernel_rfl, ?_⟩) hHeld ?_
              rotate_left
              · (intro w hSw; (try dsimp only at hSw); go_simp; (try with_reducible rfl))
              simp only [Act.put, List.setIfInBounds_toArray, List.set_cons_zero, List.set_cons_succ]
              refine take_put (i := 10) (d := 134) (v := ?_) rfl rfl (by kernel_rfl) (by kernel_rfl) (by kernel_rfl) (fun _ _ _ h => h) (Or.inl ⟨by kernel_rfl, ?_⟩) hHeld ?_
              rotate_left
              · (intro w hSw; (try dsimp only at hSw); go_simp; (try with_reducible rfl))
              simp only [Act.put, List.setIfInBounds_toArray, List.set_cons_zero, List.set_cons_succ]
              refine take_put (i := 11) (d := 135) (v := ?_) rfl rfl (by kernel_rfl) (by kernel_rfl) (by kernel_rfl) (fun _ _ _ h => h) (Or.inl ⟨by kernel_rfl, ?_⟩) hHeld ?_
              rotate_left
              · (intro w hSw; (try dsimp only at hSw); go_simp; (try with_reducible rfl))
              simp only [Act.put, List.setIfInBounds_toArray, List.set_cons_zero, List.set_cons_succ]
              refine take_put (i := 12) (d := 136) (v := ?_) rfl rfl (by kernel_rfl) (by kernel_rfl) (by kernel_rfl) (fun _ _ _ h => h) (Or.inl ⟨by kernel_rfl, ?_⟩) hHeld ?_
              rotate_left
              · (intro w hSw; (try dsimp only at hSw); go_simp; (try with_reducible rfl))
              simp only [Act.put, List.setIfInBounds_toArray, List.set_cons_zero, List.set_cons_succ]
              refine take_put (i := 13) (d := 137) (v := ?_) rfl rfl (by kernel_rfl) (by kernel_rfl) (by kernel_rfl) (fun _ _ _ h => h) (Or.inl ⟨by kernel_rfl, ?_⟩) hHeld ?_
              rotate_left
              · (intro w hSw; (try dsimp only at hSw); go_simp; (try with_reducible rfl))
              simp only [Act.put, List.setIfInBounds_toArray, List.set_cons_zero, List.set_cons_succ]
              refine take_put (i := 14) (d := 138) (v := ?_) rfl rfl (by kernel_rfl) (by kernel_rfl) (by kernel_rfl) (fun _ _ _ h => h) (Or.inl ⟨by kernel_rfl, ?_⟩) hHeld ?_
              rotate_left
              · (intro w hSw; (try dsimp only at hSw); go_simp; (try with_reducible rfl))
              simp only [Act.put, List.setIfInBounds_toArray, List.set_cons_zero, List.set_cons_succ]
              refine take_put (i := 15) (d := 139) (v := ?_) rfl rfl (by kernel_rfl) (by kernel_rfl) (by kernel_rfl) (fun _ _ _ h => h) (Or.inl ⟨by kernel_rfl, ?_⟩) hHeld ?_
              rotate_left
              · (intro w hSw; (try dsimp only at hSw); go_simp; (try with_reducible rfl))
              simp only [Act.put, List.setIfInBounds_toArray, List.set_cons_zero, List.set_cons_succ]
              refine take_put (i := 16) (d := 140) (v := ?_) rfl rfl (by kernel_rfl) (by kernel_rfl) (by kernel_rfl) (fun _ _ _ h => h) (Or.inl ⟨by kernel_rfl, ?_⟩) hHeld ?_
              rotate_left
              · (intro w hSw; (try dsimp only at hSw); go_simp; (try with_reducible rfl))
              simp only [Act.put, List.setIfInBounds_toArray, List.set_cons_zero, List.set_cons_succ]
              refine take_put (i := 17) (d := 141) (v := ?_) rfl rfl (by kernel_rfl) (by kernel_rfl) (by kernel_rfl) (fun _ _ _ h => h) (Or.inl ⟨by kernel_rfl, ?_⟩) hHeld ?_
              rotate_left
              · (intro w hSw; (try dsimp only at hSw); go_simp; (try with_reducible rfl))
              simp only [Act.put, List.setIfInBounds_toArray, List.set_cons_zero, List.set_cons_succ]
              refine take_put (i := 18) (d := 142) (v := ?_) rfl rfl (by kernel_rfl) (by kernel_rfl) (by kernel_rfl) (fun _ _ _ h => h) (Or.inl ⟨by kernel_rfl, ?_⟩) hHeld ?_
              rotate_left
              · (intro w hSw; (try dsimp only at hSw); go_simp; (try with_reducible rfl))
              simp only [Act.put, List.setIfInBounds_toArray, List.set_cons_zero, List.set_cons_succ]
              refine take_put (i := 19) (d := 143) (v := ?_) rfl rfl (by kernel_rfl) (by kernel_rfl) (by kernel_rfl) (fun _ _ _ h => h) (Or.inl ⟨by kernel_rfl, ?_⟩) hHeld ?_
              rotate_left
              · (intro w hSw; (try dsimp only at hSw); go_simp; (try with_reducible rfl))
              simp only [Act.put, List.setIfInBounds_toArray, List.set_cons_zero, List.set_cons_succ]
              refine take_put (i := 20) (d := 144) (v := ?_) rfl rfl (by kernel_rfl) (by kernel_rfl) (by kernel_rfl) (fun _ _ _ h => h) (Or.inl ⟨by kernel_rfl, ?_⟩) hHeld ?_
              rotate_left
              · (intro w hSw; (try dsimp only at hSw); go_simp; (try with_reducible rfl))
              simp only [Act.put, List.setIfInBounds_toArray, List.set_cons_zero, List.set_cons_succ]
              refine wpAnyH_ready (rs := [21]) (by kernel_rfl) (by simp) ?_
              refine AllReadyH.cons rfl (fun K hK => ?_) AllReadyH.nil
              rw [if_pos (by rfl)]
              go_simp
              refine (rrecord_any (hst.out.fp.below (Below.refl _ _).drew) HRT.out H0.out xc xn xa xr).mono ?_
              rintro e w18 ⟨rfl, hd18⟩
              have HX := hid_in ((hst.out.below (Below.refl _ _).drew).rd hd18)
              clear hd18
              go_simp
              refine hK.out _ _ (HSS.out _ HX.out.bel) (fun hHeld => ?_)
              clear hK K
              refine wpAnyH_done (by kernel_rfl) ?_ _
              go_wp2_with fail
              refine ⟨⟨i + 1, by have := HLT.out; omega, by go_num, ?_⟩, by have := HLT.out; simp [intOf]; omega⟩
              rw [HSN2.out]
              exact HX.out
            | true =>
              have HSN2 : Hid (playT rm noTab (ss.take (i + 1)) = forgT P1 xc) := hid_in (by rw [HSN.out]; unfold stepT; rw [if_pos rfl])
              have HRF := hid_in (rforget_any hst.out.fp HRT.out xc)
              clear hlo hcs hlt hi HSN HCS
              go_wp2_with (go_at_call 24; refine HRF.out.mono ?_; rintro e w18 ⟨rfl, hd18⟩; have HX := hid_in (hst.out.rd hd18); clear hd18)
              refine ⟨⟨i + 1, by have := HLT.out; omega, by go_num, ?_⟩, by have := HLT.out; simp [intOf]; omega⟩
              rw [HSN2.out]
              exact HX.out
          · have hiK : i = K := by omega
            subst hiK
            rw [HKT.out, HT1.out] at hst
            by_cases hM2 : i < M
            · have hj1 : (i : Int) < (M : Int) := by omega
              have hj2 : ¬ (i : Int) < 200 := by have := HK.out; omega
              obtain ⟨vp, hvp1, hvp2⟩ := hst.out.fp.ex
              obtain ⟨pp, cp, rfl, -⟩ := hvp2.own
              have HSP := hid_in (hvp2.below (Below.refl _ _).drew)
              obtain ⟨lp, HLP⟩ : ∃ lp, Hid ((T1.filter seated).length = lp) := ⟨_, hid_in rfl⟩
              rw [HLP.out] at hvp1 HSP
              have HN18 : Hid (BE a wr c B p rm T1 wr.drew) := hid_in ⟨hst.out.below (Below.refl _ _).drew, (Below.refl _ _).drew⟩
              have HCP : Hid (∀ W, BE a wr c B p rm T1 W → W.cell? ⟨p, 1, none⟩ = some (.slice pp lp cp)) := hid_in (fun W k => (hvp1.below k.2 hvp1.lt).cell 1)
              have HBEL := hid_in (fun W W' (k : BE a wr c B p rm T1 W) (hb : Below W.heap.size W W') => k.below hb)
              clear hvp1 hvp2 hst
              go_upto_region 25 with (go_at_call 14; refine (look_nil 1 1 _).mono ?_; rintro e w18 ⟨rfl, rfl⟩)
              refine wp_region_held_drew (S := fun W => W.cell? ⟨p, 1, none⟩ = some (.slice pp lp cp)) (by kernel_rfl) (HCP.out _ HN18.out) (fun hHeld => ?_)
              refine take_put (i := 0) (d := 151) (v := ?_) rfl rfl (by kernel_rfl) (by kernel_rfl) (by kernel_rfl) (fun _ _ _ h => h) (Or.inl ⟨by kernel_rfl, ?_⟩) hHeld ?_
              rotate_left
              · (intro w hSw; (try dsimp only at hSw); go_simp; (try with_reducible rfl))
              simp only [Act.put, List.setIfInBounds_toArray, List.set_cons_zero, List.set_cons_succ]
              refine take_put (i := 2) (d := 153) (v := ?_) rfl rfl (by kernel_rfl) (by kernel_rfl) (by kernel_rfl) (fun _ _ _ h => h) (Or.inl ⟨by kernel_rfl, ?_⟩) hHeld ?_
              rotate_left
              · (intro w hSw; (try dsimp only at hSw); go_simp; (try with_reducible rfl))
              simp only [Act.put, List.setIfInBounds_toArray, List.set_cons_zero, List.set_cons_succ]
              refine take_put (i := 3) (d := 154) (v := ?_) rfl rfl (by kernel_rfl) (by kernel_rfl) (by kernel_rfl) (fun _ _ _ h => h) (Or.inl ⟨by kernel_rfl, ?_⟩) hHeld ?_
              rotate_left
              · (intro w hSw; (try dsimp only at hSw); go_simp; (try with_reducible rfl))
              simp only [Act.put, List.setIfInBounds_toArray, List.set_cons_zero, List.set_cons_succ]
              refine take_put (i := 4) (d := 155) (v := ?_) rfl rfl (by kernel_rfl) (by kernel_rfl) (by kernel_rfl) (fun _ _ _ h => h) (Or.inl ⟨by kernel_rfl, ?_⟩) hHeld ?_
              rotate_left
              · (intro w hSw; (try dsimp only at hSw); go_simp; (try with_reducible rfl))
              simp only [Act.put, List.setIfInBounds_toArray, List.set_cons_zero, List.set_cons_succ]
              refine take_put (i := 5) (d := 156) (v := ?_) rfl rfl (by kernel_rfl) (by kernel_rfl) (by kernel_rfl) (fun _ _ _ h => h) (Or.inl ⟨by kernel_rfl, ?_⟩) hHeld ?_
              rotate_left
              · (intro w hSw; (try dsimp only at hSw); go_simp; (try with_reducible rfl))
              simp only [Act.put, List.setIfInBounds_toArray, List.set_cons_zero, List.set_cons_succ]
              refine wpAnyH_ready (rs := [1]) (by kernel_rfl) (by simp) ?_
              refine AllReadyH.cons rfl (fun K hK => ?_) AllReadyH.nil
              rw [if_pos (by rfl)]
              go_simp
              refine (list_any HN18.out.1.fc).mono ?_
              rintro e w19 ⟨v19, rfl, hso19, hb19⟩
              have HN19 := hid_in (HN18.out.below hb19)
              have HS19 := hid_in hso19
              have HVP := hid_in (HSP.out.below hb19)
              clear hso19 hb19
              go_simp
              refine hK.out _ _ (HCP.out _ HN19.out) (fun hHeld => ?_)
              clear hK K
              refine wpAnyH_ready (rs := [6]) (by kernel_rfl) (by simp) ?_
              refine AllReadyH.cons rfl (fun K hK => ?_) AllReadyH.nil
              rw [if_pos (by rfl)]
              go_simp
              refine (seats_yes HS19.out.sls HVP.out.sls).mono ?_
              rintro e w20 ⟨rfl, hb20⟩
              have HN20 := hid_in (HN19.out.below hb20)
              clear hb20
              go_simp
              refine hK.out _ _ (HCP.out _ HN20.out) (fun hHeld => ?_)
              clear hK K
              refine take_put (i := 7) (d := 158) (v := ?_) rfl rfl (by kernel_rfl) (by kernel_rfl) (by kernel_rfl) (fun _ _ _ h => h) (Or.inl ⟨by kernel_rfl, ?_⟩) hHeld ?_
              rotate_left
              · (intro w hSw; (try dsimp only at hSw); go_simp; (try with_reducible rfl))
              simp only [Act.put, List.setIfInBounds_toArray, List.set_cons_zero, List.set_cons_succ]
              refine take_put (i := 8) (d := 159) (v := ?_) rfl rfl (by kernel_rfl) (by kernel_rfl) (by kernel_rfl) (fun _ _ _ h => h) (Or.inl ⟨by kernel_rfl, ?_⟩) hHeld ?_
              rotate_left
              · (intro w hSw; (try dsimp only at hSw); go_simp; (try with_reducible rfl))
              simp only [Act.put, List.setIfInBounds_toArray, List.set_cons_zero, List.set_cons_succ]
              refine take_put (i := 9) (d := 160) (v := .bool true) rfl rfl (by kernel_rfl) (by kernel_rfl) (by kernel_rfl) (fun _ _ _ h => h) (Or.inl ⟨by kernel_rfl, fun w hSw => ?_⟩) hHeld ?_
              · (go_simp)
              simp only [Act.put, List.setIfInBounds_toArray, List.set_cons_zero, List.set_cons_succ]
              refine take_put (i := 10) (d := 161) (v := .bool true) rfl rfl (by kernel_rfl) (by kernel_rfl) (by kernel_rfl) (fun _ _ _ h => h) (Or.inl ⟨by kernel_rfl, fun w hSw => ?_⟩) hHeld ?_
              · (go_simp)
              simp only [Act.put, List.setIfInBounds_toArray, List.set_cons_zero, List.set_cons_succ]
              refine take_put (i := 11) (d := 162) (v := ?_) rfl rfl (by kernel_rfl) (by kernel_rfl) (by kernel_rfl) (fun _ _ _ h => h) (Or.inl ⟨by kernel_rfl, ?_⟩) hHeld ?_
              rotate_left
              · (intro w hSw; (try dsimp only at hSw); go_simp; (try with_reducible rfl))
              simp only [Act.put, List.setIfInBounds_toArray, List.set_cons_zero, List.set_cons_succ]
              refine take_put (i := 12) (d := 163) (v := ?_) rfl rfl (by kernel_rfl) (by kernel_rfl) (by kernel_rfl) (fun _ _ _ h => h) (Or.inl ⟨by kernel_rfl, ?_⟩) hHeld ?_
              rotate_left
              · (intro w hSw; (try dsimp only at hSw); go_simp; (try with_reducible rfl))
              simp only [Act.put, List.setIfInBounds_toArray, List.set_cons_zero, List.set_cons_succ]
              refine wpAnyH_ready (rs := [13]) (by kernel_rfl) (by simp) ?_
              refine AllReadyH.cons rfl (fun K hK => ?_) AllReadyH.nil
              rw [if_pos (by rfl)]
              go_simp
              refine (record_nil 1 1 1 ⟨#[]⟩ _).mono ?_
              rintro e w21 ⟨rfl, rfl⟩
              go_simp
              refine hK.out _ _ (HCP.out _ HN20.out) (fun hHeld => ?_)
              clear hK K
              refine take_put (i := 14) (d := 165) (v := .bool true) rfl rfl (by kernel_rfl) (by kernel_rfl) (by kernel_rfl) (fun _ _ _ h => h) (Or.inl ⟨by kernel_rfl, fun w hSw => ?_⟩) hHeld ?_
              · (go_simp)
              simp only [Act.put, List.setIfInBounds_toArray, List.set_cons_zero, List.set_cons_succ]
              refine take_put (i := 15) (d := 166) (v := .bool true) rfl rfl (by kernel_rfl) (by kernel_rfl) (by kernel_rfl) (fun _ _ _ h => h) (Or.inl ⟨by kernel_rfl, fun w hSw => ?_⟩) hHeld ?_
              · (go_simp)
              simp only [Act.put, List.setIfInBounds_toArray, List.set_cons_zero, List.set_cons_succ]
              refine take_put (i := 16) (d := 167) (v := ?_) rfl rfl (by kernel_rfl) (by kernel_rfl) (by kernel_rfl) (fun _ _ _ h => h) (Or.inl ⟨by kernel_rfl, ?_⟩) hHeld ?_
              rotate_left
              · (intro w hSw; (try dsimp only at hSw); go_simp; (try with_reducible rfl))
              simp only [Act.put, List.setIfInBounds_toArray, List.set_cons_zero, List.set_cons_succ]
              refine take_put (i := 17) (d := 168) (v := ?_) rfl rfl (by kernel_rfl) (by kernel_rfl) (by kernel_rfl) (fun _ _ _ h => h) (Or.inl ⟨by kernel_rfl, ?_⟩) hHeld ?_
              rotate_left
              · (intro w hSw; (try dsimp only at hSw); go_simp; (try with_reducible rfl))
              simp only [Act.put, List.setIfInBounds_toArray, List.set_cons_zero, List.set_cons_succ]
              refine wpAnyH_ready (rs := [18]) (by kernel_rfl) (by simp) ?_
              refine AllReadyH.cons rfl (fun K hK => ?_) AllReadyH.nil
              rw [if_pos (by rfl)]
              go_simp
              refine (forget_nil 1 _).mono ?_
              rintro e w21 ⟨rfl, rfl⟩
              go_simp
              refine hK.out _ _ (HCP.out _ HN20.out) (fun hHeld => ?_)
              clear hK K
              refine take_put (i := 19) (d := 170) (v := .bool true) rfl rfl (by kernel_rfl) (by kernel_rfl) (by kernel_rfl) (fun _ _ _ h => h) (Or.inl ⟨by kernel_rfl, fun w hSw => ?_⟩) hHeld ?_
              · (go_simp)
              simp only [Act.put, List.setIfInBounds_toArray, List.set_cons_zero, List.set_cons_succ]
              refine take_put (i := 20) (d := 171) (v := .bool true) rfl rfl (by kernel_rfl) (by kernel_rfl) (by kernel_rfl) (fun _ _ _ h => h) (Or.inl ⟨by kernel_rfl, fun w hSw => ?_⟩) hHeld ?_
              · (go_simp)
              simp only [Act.put, List.setIfInBounds_toArray, List.set_cons_zero, List.set_cons_succ]
              refine take_put (i := 21) (d := 172) (v := ?_) rfl rfl (by kernel_rfl) (by kernel_rfl) (by kernel_rfl) (fun _ _ _ h => h) (Or.inl ⟨by kernel_rfl, ?_⟩) hHeld ?_
              rotate_left
              · (intro w hSw; (try dsimp only at hSw); go_simp; (try with_reducible rfl))
              simp only [Act.put, List.setIfInBounds_toArray, List.set_cons_zero, List.set_cons_succ]
              refine take_put (i := 22) (d := 173) (v := ?_) rfl rfl (by kernel_rfl) (by kernel_rfl) (by kernel_rfl) (fun _ _ _ h => h) (Or.inl ⟨by kernel_rfl, ?_⟩) hHeld ?_
              rotate_left
              · (intro w hSw; (try dsimp only at hSw); go_simp; (try with_reducible rfl))
              simp only [Act.put, List.setIfInBounds_toArray, List.set_cons_zero, List.set_cons_succ]
              refine wpAnyH_ready (rs := [23]) (by kernel_rfl) (by simp) ?_
              refine AllReadyH.cons rfl (fun K hK => ?_) AllReadyH.nil
              rw [if_pos (by rfl)]
              go_simp
              refine (list_nil _).mono ?_
              rintro e w21 ⟨rfl, rfl⟩
              go_simp
              refine hK.out _ _ (HCP.out _ HN20.out) (fun hHeld => ?_)
              clear hK K
              refine take_put (i := 24) (d := 175) (v := .int .i64 0) rfl rfl (by kernel_rfl) (by kernel_rfl) (by kernel_rfl) (fun _ _ _ h => h) (Or.inl ⟨by kernel_rfl, fun w hSw => ?_⟩) hHeld ?_
              · (go_simp)
              simp only [Act.put, List.setIfInBounds_toArray, List.set_cons_zero, List.set_cons_succ]
              refine take_put (i := 25) (d := 176) (v := .bool true) rfl rfl (by kernel_rfl) (by kernel_rfl) (by kernel_rfl) (fun _ _ _ h => h) (Or.inl ⟨by kernel_rfl, fun w hSw => ?_⟩) hHeld ?_
              · (go_simp)
              simp only [Act.put, List.setIfInBounds_toArray, List.set_cons_zero, List.set_cons_succ]
              refine take_put (i := 26) (d := 177) (v := .bool true) rfl rfl (by kernel_rfl) (by kernel_rfl) (by kernel_rfl) (fun _ _ _ h => h) (Or.inl ⟨by kernel_rfl, fun w hSw => ?_⟩) hHeld ?_
              · (go_simp)
              simp only [Act.put, List.setIfInBounds_toArray, List.set_cons_zero, List.set_cons_succ]
              refine take_put (i := 27) (d := 178) (v := ?_) rfl rfl (by kernel_rfl) (by kernel_rfl) (by kernel_rfl) (fun _ _ _ h => h) (Or.inl ⟨by kernel_rfl, ?_⟩) hHeld ?_
              rotate_left
              · (intro w hSw; (try dsimp only at hSw); go_simp; (try with_reducible rfl))
              simp only [Act.put, List.setIfInBounds_toArray, List.set_cons_zero, List.set_cons_succ]
              refine take_put (i := 28) (d := 179) (v := ?_) rfl rfl (by kernel_rfl) (by kernel_rfl) (by kernel_rfl) (fun _ _ _ h => h) (Or.inl ⟨by kernel_rfl, ?_⟩) hHeld ?_
              rotate_left
              · (intro w hSw; (try dsimp only at hSw); go_simp; (try with_reducible rfl))
              simp only [Act.put, List.setIfInBounds_toArray, List.set_cons_zero, List.set_cons_succ]
              refine wpAnyH_ready (rs := [29]) (by kernel_rfl) (by simp) ?_
              refine AllReadyH.cons rfl (fun K hK => ?_) AllReadyH.nil
              rw [if_pos (by rfl)]
              go_simp
              refine (clone_nil _).mono ?_
              rintro e w21 ⟨rfl, rfl⟩
              go_simp
              refine hK.out _ _ (HCP.out _ HN20.out) (fun hHeld => ?_)
              clear hK K
              refine take_put (i := 30) (d := 181) (v := .bool true) rfl rfl (by kernel_rfl) (by kernel_rfl) (by kernel_rfl) (fun _ _ _ h => h) (Or.inl ⟨by kernel_rfl, fun w hSw => ?_⟩) hHeld ?_
              · (go_simp)
              simp only [Act.put, List.setIfInBounds_toArray, List.set_cons_zero, List.set_cons_succ]
              refine take_put (i := 31) (d := 182) (v := .bool true) rfl rfl (by kernel_rfl) (by kernel_rfl) (by kernel_rfl) (fun _ _ _ h => h) (Or.inl ⟨by kernel_rfl, fun w hSw => ?_⟩) hHeld ?_
              · (go_simp)
              simp only [Act.put, List.setIfInBounds_toArray, List.set_cons_zero, List.set_cons_succ]
              refine take_put (i := 32) (d := 183) (v := ?_) rfl rfl (by kernel_rfl) (by kernel_rfl) (by kernel_rfl) (fun _ _ _ h => h) (Or.inl ⟨by kernel_rfl, ?_⟩) hHeld ?_
              rotate_left
              · (intro w hSw; (try dsimp only at hSw); go_simp; (try with_reducible rfl))
              simp only [Act.put, List.setIfInBounds_toArray, List.set_cons_zero, List.set_cons_succ]
              refine take_put (i := 33) (d := 184) (v := ?_) rfl rfl (by kernel_rfl) (by kernel_rfl) (by kernel_rfl) (fun _ _ _ h => h) (Or.inl ⟨by kernel_rfl, ?_⟩) hHeld ?_
              rotate_left
              · (intro w hSw; (try dsimp only at hSw); go_simp; (try with_reducible rfl))
              simp only [Act.put, List.setIfInBounds_toArray, List.set_cons_zero, List.set_cons_succ]
              refine wpAnyH_ready (rs := [34]) (by kernel_rfl) (by simp) ?_
              refine AllReadyH.cons rfl (fun K hK => ?_) AllReadyH.nil
              rw [if_pos (by rfl)]
              go_simp
              refine (encode_nil _).mono ?_
              rintro e w21 ⟨rfl, rfl⟩
              go_simp
              refine hK.out _ _ (HCP.out _ HN20.out) (fun hHeld => ?_)
              clear hK K
              refine take_put (i := 35) (d := 186) (v := .int .i64 0) rfl rfl (by kernel_rfl) (by kernel_rfl) (by kernel_rfl) (fun _ _ _ h => h) (Or.inl ⟨by kernel_rfl, fun w hSw => ?_⟩) hHeld ?_
              · (go_simp)
              simp only [Act.put, List.setIfInBounds_toArray, List.set_cons_zero, List.set_cons_succ]
              refine take_put (i := 36) (d := 187) (v := .bool true) rfl rfl (by kernel_rfl) (by kernel_rfl) (by kernel_rfl) (fun _ _ _ h => h) (Or.inl ⟨by kernel_rfl, fun w hSw => ?_⟩) hHeld ?_
              · (go_simp)
              simp only [Act.put, List.setIfInBounds_toArray, List.set_cons_zero, List.set_cons_succ]
              refine take_put (i := 37) (d := 188) (v := .bool true) rfl rfl (by kernel_rfl) (by kernel_rfl) (by kernel_rfl) (fun _ _ _ h => h) (Or.inl ⟨by kernel_rfl, fun w hSw => ?_⟩) hHeld ?_
              · (go_simp)
              simp only [Act.put, List.setIfInBounds_toArray, List.set_cons_zero, List.set_cons_succ]
              refine take_put (i := 38) (d := 6) (v := ?_) rfl rfl (by kernel_rfl) (by kernel_rfl) (by kernel_rfl) (fun _ _ _ h => h) (Or.inl ⟨by kernel_rfl, ?_⟩) hHeld ?_
              rotate_left
              · (intro w hSw; (try dsimp only at hSw); go_simp; (try with_reducible rfl))
              simp only [Act.put, List.setIfInBounds_toArray, List.set_cons_zero, List.set_cons_succ]
              refine wpAnyH_done (by kernel_rfl) ?_ _
              go_wp2_with fail
              go_ret
              exact ⟨rfl, HN20.out.1.bel⟩
            · have hj1 : ¬ (i : Int) < (M : Int) := by omega
              obtain ⟨vp, hvp1, hvp2⟩ := hst.out.fp.ex
              obtain ⟨pp, cp, rfl, -⟩ := hvp2.own
              have HSP := hid_in (hvp2.below (Below.refl _ _).drew)
              obtain ⟨lp, HLP⟩ : ∃ lp, Hid ((T1.filter seated).length = lp) := ⟨_, hid_in rfl⟩
              rw [HLP.out] at hvp1 HSP
              have HN18 : Hid (BE a wr c B p rm T1 wr.drew) := hid_in ⟨hst.out.below (Below.refl _ _).drew, (Below.refl _ _).drew⟩
              have HCP : Hid (∀ W, BE a wr c B p rm T1 W → W.cell? ⟨p, 1, none⟩ = some (.slice pp lp cp)) := hid_in (fun W k => (hvp1.below k.2 hvp1.lt).cell 1)
              have HBEL := hid_in (fun W W' (k : BE a wr c B p rm T1 W) (hb : Below W.heap.size W W') => k.below hb)
              clear hvp1 hvp2 hst
              go_upto_region 25 with (go_at_call 14; refine (look_nil 1 1 _).mono ?_; rintro e w18 ⟨rfl, rfl⟩)
              refine wp_region_held_drew (S := fun W => W.cell? ⟨p, 1, none⟩ = some (.slice pp lp cp)) (by kernel_rfl) (HCP.out _ HN18.out) (fun hHeld => ?_)
              refine take_put (i := 0) (d := 151) (v := ?_) rfl rfl (by kernel_rfl) (by kernel_rfl) (by kernel_rfl) (fun _ _ _ h => h) (Or.inl ⟨by kernel_rfl, ?_⟩) hHeld ?_
              rotate_left
              · (intro w hSw; (try dsimp only at hSw); go_simp; (try with_reducible rfl))
              simp only [Act.put, List.setIfInBounds_toArray, List.set_cons_zero, List.set_cons_succ]
              refine take_put (i := 2) (d := 153) (v := ?_) rfl rfl (by kernel_rfl) (by kernel_rfl) (by kernel_rfl) (fun _ _ _ h => h) (Or.inl ⟨by kernel_rfl, ?_⟩) hHeld ?_
              rotate_left
              · (intro w hSw; (try dsimp only at hSw); go_simp; (try with_reducible rfl))
              simp only [Act.put, List.setIfInBounds_toArray, List.set_cons_zero, List.set_cons_succ]
              refine take_put (i := 3) (d := 154) (v := ?_) rfl rfl (by kernel_rfl) (by kernel_rfl) (by kernel_rfl) (fun _ _ _ h => h) (Or.inl ⟨by kernel_rfl, ?_⟩) hHeld ?_
              rotate_left
              · (intro w hSw; (try dsimp only at hSw); go_simp; (try with_reducible rfl))
              simp only [Act.put, List.setIfInBounds_toArray, List.set_cons_zero, List.set_cons_succ]
              refine take_put (i := 4) (d := 155) (v := ?_) rfl rfl (by kernel_rfl) (by kernel_rfl) (by kernel_rfl) (fun _ _ _ h => h) (Or.inl ⟨by kernel_rfl, ?_⟩) hHeld ?_
              rotate_left
              · (intro w hSw; (try dsimp only at hSw); go_simp; (try with_reducible rfl))
              simp only [Act.put, List.setIfInBounds_toArray, List.set_cons_zero, List.set_cons_succ]
              refine take_put (i := 5) (d := 156) (v := ?_) rfl rfl (by kernel_rfl) (by kernel_rfl) (by kernel_rfl) (fun _ _ _ h => h) (Or.inl ⟨by kernel_rfl, ?_⟩) hHeld ?_
              rotate_left
              · (intro w hSw; (try dsimp only at hSw); go_simp; (try with_reducible rfl))
              simp only [Act.put, List.setIfInBounds_toArray, List.set_cons_zero, List.set_cons_succ]
              refine wpAnyH_ready (rs := [1]) (by kernel_rfl) (by simp) ?_
              refine AllReadyH.cons rfl (fun K hK => ?_) AllReadyH.nil
              rw [if_pos (by rfl)]
              go_simp
              refine (list_any HN18.out.1.fc).mono ?_
              rintro e w19 ⟨v19, rfl, hso19, hb19⟩
              have HN19 := hid_in (HN18.out.below hb19)
              have HS19 := hid_in hso19
              have HVP := hid_in (HSP.out.below hb19)
              clear hso19 hb19
              go_simp
              refine hK.out _ _ (HCP.out _ HN19.out) (fun hHeld => ?_)
              clear hK K
              refine wpAnyH_ready (rs := [6]) (by kernel_rfl) (by simp) ?_
              refine AllReadyH.cons rfl (fun K hK => ?_) AllReadyH.nil
              rw [if_pos (by rfl)]
              go_simp
              refine (seats_yes HS19.out.sls HVP.out.sls).mono ?_
              rintro e w20 ⟨rfl, hb20⟩
              have HN20 := hid_in (HN19.out.below hb20)
              clear hb20
              go_simp
              refine hK.out _ _ (HCP.out _ HN20.out) (fun hHeld => ?_)
              clear hK K
              refine take_put (i := 7) (d := 158) (v := ?_) rfl rfl (by kernel_rfl) (by kernel_rfl) (by kernel_rfl) (fun _ _ _ h => h) (Or.inl ⟨by kernel_rfl, ?_⟩) hHeld ?_
              rotate_left
              · (intro w hSw; (try dsimp only at hSw); go_simp; (try with_reducible rfl))
              simp only [Act.put, List.setIfInBounds_toArray, List.set_cons_zero, List.set_cons_succ]
              refine take_put (i := 8) (d := 159) (v := ?_) rfl rfl (by kernel_rfl) (by kernel_rfl) (by kernel_rfl) (fun _ _ _ h => h) (Or.inl ⟨by kernel_rfl, ?_⟩) hHeld ?_
              rotate_left
              · (intro w hSw; (try dsimp only at hSw); go_simp; (try with_reducible rfl))
              simp only [Act.put, List.setIfInBounds_toArray, List.set_cons_zero, List.set_cons_succ]
              refine take_put (i := 9) (d := 160) (v := .bool true) rfl rfl (by kernel_rfl) (by kernel_rfl) (by kernel_rfl) (fun _ _ _ h => h) (Or.inl ⟨by kernel_rfl, fun w hSw => ?_⟩) hHeld ?_
              · (go_simp)
              simp only [Act.put, List.setIfInBounds_toArray, List.set_cons_zero, List.set_cons_succ]
              refine take_put (i := 10) (d := 161) (v := .bool true) rfl rfl (by kernel_rfl) (by kernel_rfl) (by kernel_rfl) (fun _ _ _ h => h) (Or.inl ⟨by kernel_rfl, fun w hSw => ?_⟩) hHeld ?_
              · (go_simp)
              simp only [Act.put, List.setIfInBounds_toArray, List.set_cons_zero, List.set_cons_succ]
              refine take_put (i := 11) (d := 162) (v := ?_) rfl rfl (by kernel_rfl) (by kernel_rfl) (by kernel_rfl) (fun _ _ _ h => h) (Or.inl ⟨by kernel_rfl, ?_⟩) hHeld ?_
              rotate_left
              · (intro w hSw; (try dsimp only at hSw); go_simp; (try with_reducible rfl))
              simp only [Act.put, List.setIfInBounds_toArray, List.set_cons_zero, List.set_cons_succ]
              refine take_put (i := 12) (d := 163) (v := ?_) rfl rfl (by kernel_rfl) (by kernel_rfl) (by kernel_rfl) (fun _ _ _ h => h) (Or.inl ⟨by kernel_rfl, ?_⟩) hHeld ?_
              rotate_left
              · (intro w hSw; (try dsimp only at hSw); go_simp; (try with_reducible rfl))
              simp only [Act.put, List.setIfInBounds_toArray, List.set_cons_zero, List.set_cons_succ]
              refine wpAnyH_ready (rs := [13]) (by kernel_rfl) (by simp) ?_
              refine AllReadyH.cons rfl (fun K hK => ?_) AllReadyH.nil
              rw [if_pos (by rfl)]
              go_simp
              refine (record_nil 1 1 1 ⟨#[]⟩ _).mono ?_
              rintro e w21 ⟨rfl, rfl⟩
              go_simp
              refine hK.out _ _ (HCP.out _ HN20.out) (fun hHeld => ?_)
              clear hK K
              refine take_put (i := 14) (d := 165) (v := .bool true) rfl rfl (by kernel_rfl) (by kernel_rfl) (by kernel_rfl) (fun _ _ _ h => h) (Or.inl ⟨by kernel_rfl, fun w hSw => ?_⟩) hHeld ?_
              · (go_simp)
              simp only [Act.put, List.setIfInBounds_toArray, List.set_cons_zero, List.set_cons_succ]
              refine take_put (i := 15) (d := 166) (v := .bool true) rfl rfl (by kernel_rfl) (by kernel_rfl) (by kernel_rfl) (fun _ _ _ h => h) (Or.inl ⟨by kernel_rfl, fun w hSw => ?_⟩) hHeld ?_
              · (go_simp)
              simp only [Act.put, List.setIfInBounds_toArray, List.set_cons_zero, List.set_cons_succ]
              refine take_put (i := 16) (d := 167) (v := ?_) rfl rfl (by kernel_rfl) (by kernel_rfl) (by kernel_rfl) (fun _ _ _ h => h) (Or.inl ⟨by kernel_rfl, ?_⟩) hHeld ?_
              rotate_left
              · (intro w hSw; (try dsimp only at hSw); go_simp; (try with_reducible rfl))
              simp only [Act.put, List.setIfInBounds_toArray, List.set_cons_zero, List.set_cons_succ]
              refine take_put (i := 17) (d := 168) (v := ?_) rfl rfl (by kernel_rfl) (by kernel_rfl) (by kernel_rfl) (fun _ _ _ h => h) (Or.inl ⟨by kernel_rfl, ?_⟩) hHeld ?_
              rotate_left
              · (intro w hSw; (try dsimp only at hSw); go_simp; (try with_reducible rfl))
              simp only [Act.put, List.setIfInBounds_toArray, List.set_cons_zero, List.set_cons_succ]
              refine wpAnyH_ready (rs := [18]) (by kernel_rfl) (by simp) ?_
              refine AllReadyH.cons rfl (fun K hK => ?_) AllReadyH.nil
              rw [if_pos (by rfl)]
              go_simp
              refine (forget_nil 1 _).mono ?_
              rintro e w21 ⟨rfl, rfl⟩
              go_simp
              refine hK.out _ _ (HCP.out _ HN20.out) (fun hHeld => ?_)
              clear hK K
              refine take_put (i := 19) (d := 170) (v := .bool true) rfl rfl (by kernel_rfl) (by kernel_rfl) (by kernel_rfl) (fun _ _ _ h => h) (Or.inl ⟨by kernel_rfl, fun w hSw => ?_⟩) hHeld ?_
              · (go_simp)
              simp only [Act.put, List.setIfInBounds_toArray, List.set_cons_zero, List.set_cons_succ]
              refine take_put (i := 20) (d := 171) (v := .bool true) rfl rfl (by kernel_rfl) (by kernel_rfl) (by kernel_rfl) (fun _ _ _ h => h) (Or.inl ⟨by kernel_rfl, fun w hSw => ?_⟩) hHeld ?_
              · (go_simp)
              simp only [Act.put, List.setIfInBounds_toArray, List.set_cons_zero, List.set_cons_succ]
              refine take_put (i := 21) (d := 172) (v := ?_) rfl rfl (by kernel_rfl) (by kernel_rfl) (by kernel_rfl) (fun _ _ _ h => h) (Or.inl ⟨by kernel_rfl, ?_⟩) hHeld ?_
              rotate_left
              · (intro w hSw; (try dsimp only at hSw); go_simp; (try with_reducible rfl))
              simp only [Act.put, List.setIfInBounds_toArray, List.set_cons_zero, List.set_cons_succ]
              refine take_put (i := 22) (d := 173) (v := ?_) rfl rfl (by kernel_rfl) (by kernel_rfl) (by kernel_rfl) (fun _ _ _ h => h) (Or.inl ⟨by kernel_rfl, ?_⟩) hHeld ?_
              rotate_left
              · (intro w hSw; (try dsimp only at hSw); go_simp; (try with_reducible rfl))
              simp only [Act.put, List.setIfInBounds_toArray, List.set_cons_zero, List.set_cons_succ]
              refine wpAnyH_ready (rs := [23]) (by kernel_rfl) (by simp) ?_
              refine AllReadyH.cons rfl (fun K hK => ?_) AllReadyH.nil
              rw [if_pos (by rfl)]
              go_simp
              refine (list_nil _).mono ?_
              rintro e w21 ⟨rfl, rfl⟩
              go_simp
              refine hK.out _ _ (HCP.out _ HN20.out) (fun hHeld => ?_)
              clear hK K
              refine take_put (i := 24) (d := 175) (v := .int .i64 0) rfl rfl (by kernel_rfl) (by kernel_rfl) (by kernel_rfl) (fun _ _ _ h => h) (Or.inl ⟨by kernel_rfl, fun w hSw => ?_⟩) hHeld ?_
              · (go_simp)
              simp only [Act.put, List.setIfInBounds_toArray, List.set_cons_zero, List.set_cons_succ]
              refine take_put (i := 25) (d := 176) (v := .bool true) rfl rfl (by kernel_rfl) (by kernel_rfl) (by kernel_rfl) (fun _ _ _ h => h) (Or.inl ⟨by kernel_rfl, fun w hSw => ?_⟩) hHeld ?_
              · (go_simp)
              simp only [Act.put, List.setIfInBounds_toArray, List.set_cons_zero, List.set_cons_succ]
              refine take_put (i := 26) (d := 177) (v := .bool true) rfl rfl (by kernel_rfl) (by kernel_rfl) (by kernel_rfl) (fun _ _ _ h => h) (Or.inl ⟨by kernel_rfl, fun w hSw => ?_⟩) hHeld ?_
              · (go_simp)
              simp only [Act.put, List.setIfInBounds_toArray, List.set_cons_zero, List.set_cons_succ]
              refine take_put (i := 27) (d := 178) (v := ?_) rfl rfl (by kernel_rfl) (by kernel_rfl) (by kernel_rfl) (fun _ _ _ h => h) (Or.inl ⟨by kernel_rfl, ?_⟩) hHeld ?_
              rotate_left
              · (intro w hSw; (try dsimp only at hSw); go_simp; (try with_reducible rfl))
              simp only [Act.put, List.setIfInBounds_toArray, List.set_cons_zero, List.set_cons_succ]
              refine take_put (i := 28) (d := 179) (v := ?_) rfl rfl (by kernel_rfl) (by kernel_rfl) (by kernel_rfl) (fun _ _ _ h => h) (Or.inl ⟨by kernel_rfl, ?_⟩) hHeld ?_
              rotate_left
              · (intro w hSw; (try dsimp only at hSw); go_simp; (try with_reducible rfl))
              simp only [Act.put, List.setIfInBounds_toArray, List.set_cons_zero, List.set_cons_succ]
              refine wpAnyH_ready (rs := [29]) (by kernel_rfl) (by simp) ?_
              refine AllReadyH.cons rfl (fun K hK => ?_) AllReadyH.nil
              rw [if_pos (by rfl)]
              go_simp
              refine (clone_nil _).mono ?_
              rintro e w21 ⟨rfl, rfl⟩
              go_simp
              refine hK.out _ _ (HCP.out _ HN20.out) (fun hHeld => ?_)
              clear hK K
              refine take_put (i := 30) (d := 181) (v := .bool true) rfl rfl (by kernel_rfl) (by kernel_rfl) (by kernel_rfl) (fun _ _ _ h => h) (Or.inl ⟨by kernel_rfl, fun w hSw => ?_⟩) hHeld ?_
              · (go_simp)
              simp only [Act.put, List.setIfInBounds_toArray, List.set_cons_zero, List.set_cons_succ]
              refine take_put (i := 31) (d := 182) (v := .bool true) rfl rfl (by kernel_rfl) (by kernel_rfl) (by kernel_rfl) (fun _ _ _ h => h) (Or.inl ⟨by kernel_rfl, fun w hSw => ?_⟩) hHeld ?_
              · (go_simp)
              simp only [Act.put, List.setIfInBounds_toArray, List.set_cons_zero, List.set_cons_succ]
              refine take_put (i := 32) (d := 183) (v := ?_) rfl rfl (by kernel_rfl) (by kernel_rfl) (by kernel_rfl) (fun _ _ _ h => h) (Or.inl ⟨by kernel_rfl, ?_⟩) hHeld ?_
              rotate_left
              · (intro w hSw; (try dsimp only at hSw); go_simp; (try with_reducible rfl))
              simp only [Act.put, List.setIfInBounds_toArray, List.set_cons_zero, List.set_cons_succ]
              refine take_put (i := 33) (d := 184) (v := ?_) rfl rfl (by kernel_rfl) (by kernel_rfl) (by kernel_rfl) (fun _ _ _ h => h) (Or.inl ⟨by kernel_rfl, ?_⟩) hHeld ?_
              rotate_left
              · (intro w hSw; (try dsimp only at hSw); go_simp; (try with_reducible rfl))
              simp only [Act.put, List.setIfInBounds_toArray, List.set_cons_zero, List.set_cons_succ]
              refine wpAnyH_ready (rs := [34]) (by kernel_rfl) (by simp) ?_
              refine AllReadyH.cons rfl (fun K hK => ?_) AllReadyH.nil
              rw [if_pos (by rfl)]
              go_simp
              refine (encode_nil _).mono ?_
              rintro e w21 ⟨rfl, rfl⟩
              go_simp
              refine hK.out _ _ (HCP.out _ HN20.out) (fun hHeld => ?_)
              clear hK K
              refine take_put (i := 35) (d := 186) (v := .int .i64 0) rfl rfl (by kernel_rfl) (by kernel_rfl) (by kernel_rfl) (fun _ _ _ h => h) (Or.inl ⟨by kernel_rfl, fun w hSw => ?_⟩) hHeld ?_
              · (go_simp)
              simp only [Act.put, List.setIfInBounds_toArray, List.set_cons_zero, List.set_cons_succ]
              refine take_put (i := 36) (d := 187) (v := .bool true) rfl rfl (by kernel_rfl) (by kernel_rfl) (by kernel_rfl) (fun _ _ _ h => h) (Or.inl ⟨by kernel_rfl, fun w hSw => ?_⟩) hHeld ?_
              · (go_simp)
              simp only [Act.put, List.setIfInBounds_toArray, List.set_cons_zero, List.set_cons_succ]
              refine take_put (i := 37) (d := 188) (v := .bool true) rfl rfl (by kernel_rfl) (by kernel_rfl) (by kernel_rfl) (fun _ _ _ h => h) (Or.inl ⟨by kernel_rfl, fun w hSw => ?_⟩) hHeld ?_
              · (go_simp)
              simp only [Act.put, List.setIfInBounds_toArray, List.set_cons_zero, List.set_cons_succ]
              refine take_put (i := 38) (d := 6) (v := ?_) rfl rfl (by kernel_rfl) (by kernel_rfl) (by kernel_rfl) (fun _ _ _ h => h) (Or.inl ⟨by kernel_rfl, ?_⟩) hHeld ?_
              rotate_left
              · (intro w hSw; (try dsimp only at hSw); go_simp; (try with_reducible rfl))
              simp only [Act.put, List.setIfInBounds_toArray, List.set_cons_zero, List.set_cons_succ]
              refine wpAnyH_done (by kernel_rfl) ?_ _
              go_wp2_with fail
              go_ret
              exact ⟨rfl, HN20.out.1.bel⟩
  · unfold roomOk at hro
    clear h hk hs hm
    by_cases r1 : room < 0
    · clear hro
      go_enter Try.func7, Try.ntmps7
      go_upto_region 3 with (first | (go_at_call 8; refine HAW.out.mono ?_; rintro e w1 ⟨rfl, hb1⟩; have HB1 := hid_in hb1; clear hb1))
      go_wp2_with (first | (go_at_call 9; refine (HFI.out _ HB1.out).mono ?_; rintro e w2 ⟨⟨ft, rfl⟩, rfl⟩; clear HFI; rcases ft with _ | _) | (go_at_call 9; refine (HFM.out _ HB1.out).mono ?_; rintro e w2 ⟨⟨fm, rfl⟩, rfl⟩; clear HFM; rcases fm with _ | _))
      all_goals
        go_ret
        exact ⟨rfl, HB1.out⟩
    · have r2 : 8192 < room := by omega
      clear hro
      go_enter Try.func7, Try.ntmps7
      go_upto_region 3 with (first | (go_at_call 8; refine HAW.out.mono ?_; rintro e w1 ⟨rfl, hb1⟩; have HB1 := hid_in hb1; clear hb1))
      go_wp2_with (first | (go_at_call 9; refine (HFI.out _ HB1.out).mono ?_; rintro e w2 ⟨⟨ft, rfl⟩, rfl⟩; clear HFI; rcases ft with _ | _) | (go_at_call 9; refine (HFM.out _ HB1.out).mono ?_; rintro e w2 ⟨⟨fm, rfl⟩, rfl⟩; clear HFM; rcases fm with _ | _))
      all_goals
        go_ret
        exact ⟨rfl, HB1.out⟩
end Go.Proofs.Ytiijlnlkhpneaaa.Se
