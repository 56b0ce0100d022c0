/-
  The walk of op.Unpack.
-/
import Derived.Laws.CopyOwn
import Derived.Deep.CutRange
import Derived.Test.YtjlhjpooggkkoaaRows
import Derived.OwnWalk
import Derived.Deep.RegionLaw
import Derived.Deep.DrawnRows
import Derived.Laws.Tables
import Derived.Test.YtjlhjpooggkkoaaR00
import Derived.Test.YtjlhjpooggkkoaaR01
import Derived.Test.YtjlhjpooggkkoaaR02
import Derived.Test.YtjlhjpooggkkoaaR03
import Derived.Test.YtjlhjpooggkkoaaR04
import Derived.Test.YtjlhjpooggkkoaaR05
import Derived.Test.YtjlhjpooggkkoaaR06
import Derived.Test.YtjlhjpooggkkoaaR07
import Derived.Test.YtjlhjpooggkkoaaR08
namespace Go.Proofs.Ytjlhjpooggkkoaa.Nd
open Go.RowKit
def zeroRes : Res := ⟨0, false, 0, ⟨#[]⟩, []⟩
theorem own_strs {W : World} {base : Nat} {vp : Value} {ns : List ByteArray} (h : W.ownsRow base 9 1 vp ns.length (ns.map Value.string)) : Strs W vp ns := by
  obtain ⟨_, ⟨rfl, h0⟩ | ⟨g, cap, cur, rfl, hB, hh, hn, hm, hs, ht⟩⟩ := h
  · obtain rfl := List.length_eq_zero_iff.1 h0
    exact ⟨none, 0, 0, 0, rfl, by simp, by omega, fun h => absurd rfl h, fun i s h => by simp at h⟩
  · have hlt : g < W.heap.size := (Array.getElem?_eq_some_iff.1 hh).1
    refine ⟨_, cap, g, 0, rfl, hn, by unfold maxLen at hm; omega, fun _ => ⟨rfl, hlt⟩, fun i s hi => ?_⟩
    have hj : i < ns.length := (List.getElem?_eq_some_iff.1 hi).1
    have ht2 : (cur.toList.take (ns.length * 1))[i]? = (ns.map Value.string)[i]? := by rw [ht]
    rw [Nat.mul_one, List.getElem?_take, if_pos hj, List.getElem?_map, hi, Array.getElem?_toList] at ht2
    rw [Nat.zero_add, cell_of_row W g i _ _ (0, 0) hh, ht2]
    rfl
theorem own_len {W : World} {base n m : Nat} {v : Value} {xs : List Value} (h : W.ownsRow base 9 1 v n xs) (e : n = m) : W.ownsRow base 9 1 v m xs := e ▸ h
set_option maxHeartbeats 8000000 in
set_option maxRecDepth 100000 in
theorem unpack_p (bs : List Nat) (p : Option Addr) (cap b off : Nat) (w : World) (hsl : Sl w p bs cap b off) (hno : p = none → bs.length = 0 ∧ cap = 0) (hre : bs.length ≤ 140737488355328) :
    Calls Try.prog 22 #[.slice p bs.length cap] w fun e w' => ((okR bs ∧ ∃ vn, e = .returned (.tuple #[(rdR bs).1.val vn, .int .i64 0]) ∧ Strs w' vn (rdR bs).1.names) ∨ (¬ okR bs ∧ e = .returned (.tuple #[zeroRes.val (.slice none 0 0), .int .i64 21]))) ∧ Below w.heap.size w w' := by
  obtain ⟨W0, H0, HR0, HB0, HZ0⟩ := res_row w 0 0 false ⟨#[]⟩ (.slice none 0 0)
  have HRA := hid_in (read_any bs p cap b off W0 (hsl.below HB0.out) hno hre)
  obtain ⟨a1, s1, HS1⟩ : ∃ a s, Hid (sInt (bs, 0) = (a, s)) := ⟨_, _, rfl⟩
  obtain ⟨f2, s2, HS2⟩ : ∃ a s, Hid (sFlag s1 = (a, s)) := ⟨_, _, rfl⟩
  obtain ⟨a3, s3, HS3⟩ : ∃ a s, Hid (sInt s2 = (a, s)) := ⟨_, _, rfl⟩
  obtain ⟨y4, s4, HS4⟩ : ∃ a s, Hid (sText 1100 s3 = (a, s)) := ⟨_, _, rfl⟩
  obtain ⟨N, s5, HS5⟩ : ∃ a s, Hid (sNum s4 = (a, s)) := ⟨_, _, rfl⟩
  obtain ⟨x4, HX4⟩ : ∃ x, Hid (str y4 = x) := ⟨_, rfl⟩
  have HNL : Hid (N < 18446744073709551616) := by
    have h := sNum_lt s4
    rw [HS5.out] at h
    exact h
  have HRP : Hid (rdP (bs, 0) = ((a1, f2, a3, x4), N, s5)) := by
    show _ = _
    simp only [rdP, HS1.out, HS2.out, HS3.out, HS4.out, HS5.out, HX4.out]
  have HRR : Hid (rdR bs = (⟨a1, f2, a3, x4, (sTexts N s5).1⟩, (sTexts N s5).2)) := by
    show _ = _
    simp only [rdR, HRP.out]
  have HOKR : Hid (okR bs ↔ N ≤ 512 ∧ (sTexts N s5).2 = ([], 0)) := by
    show _ ↔ _
    simp only [okR, HRP.out, HRR.out]
  rw [HRR.out]
  clear hsl hno hre HRR HRP
  generalize bs.length = n at *
  go_enter Try.func22, Try.ntmps22
  go_upto_region 1 with fail
  refine wp_world H0.out ?_
  clear H0
  go_upto_region 2 with (first | (go_at_call 35; refine HRA.out.mono ?_; rintro e w1 ⟨g, rfl, h1, h2, h3⟩; have HP1 : Hid (PV w g w1.heap.size [.int .i64 0, .bool false, .int .i64 0, .string ⟨#[]⟩, .slice none 0 0] 42 (bs, 0) w1) := ⟨h1, HR0.out.below h3 HR0.out.lt, HB0.out.trans (h3.mono HB0.out.size), Nat.lt_of_lt_of_le HR0.out.lt h2⟩; have HGB : Hid (g < w1.heap.size) := InIs.blk h1; have HBB : Hid (w1.heap.size ≤ w1.heap.size) := Nat.le_refl _; clear h1 h2 h3))
  obtain ⟨B, HBEQ⟩ : ∃ B, w1.heap.size = B := ⟨_, rfl⟩
  rw [HBEQ] at HP1 HGB
  have HBL : Hid (B ≤ w1.heap.size) := by show _ ≤ _; omega
  clear HBB HBEQ
  have HC1 := hid_in (fun W (h : In B W g (bs, 0)) => int_s W g B (bs, 0) h)
  rw [HS1.out] at HC1
  have HC2 := hid_in (fun W (h : In B W g s1) => flag_s W g B s1 h)
  rw [HS2.out] at HC2
  have HC3 := hid_in (fun W (h : In B W g s2) => int_s W g B s2 h)
  rw [HS3.out] at HC3
  have HC4 := hid_in (fun W (h : In B W g s3) => text_s W g B s3 1100 (by decide) h)
  rw [HS4.out] at HC4
  simp only [HX4.out] at HC4
  have HC5 := hid_in (fun W (h : In B W g s4) => num_s W g B s4 h)
  rw [HS5.out] at HC5
  clear HS1 HS2 HS3 HS4 HS5 HX4 HR0 HB0 HZ0 HRA
  go_upto_region 3 with (first | (go_at_call 36; refine (HC1.out _ HP1.out.inn).mono ?_; rintro e w2 ⟨rfl, h1, h2⟩; have HP2 := hid_in (HP1.out.step h1 h2); have HL2 : Hid (B ≤ w2.heap.size) := Nat.le_trans HBL.out h2.size; clear h1 h2 HP1 HC1 HBL) | (go_at_call 46; refine (HC2.out _ HP2.out.inn).mono ?_; rintro e w3 ⟨rfl, h1, h2⟩; have HP3 := hid_in (HP2.out.step h1 h2); have HL3 : Hid (B ≤ w3.heap.size) := Nat.le_trans HL2.out h2.size; clear h1 h2 HP2 HC2 HL2) | (go_at_call 36; refine (HC3.out _ HP3.out.inn).mono ?_; rintro e w4 ⟨rfl, h1, h2⟩; have HP4 := hid_in (HP3.out.step h1 h2); have HL4 : Hid (B ≤ w4.heap.size) := Nat.le_trans HL3.out h2.size; clear h1 h2 HP3 HC3 HL3) | (go_at_call 37; refine (HC4.out _ HP4.out.inn).mono ?_; rintro e w5 ⟨rfl, h1, h2⟩; have HP5 := hid_in (HP4.out.step h1 h2); have HL5 : Hid (B ≤ w5.heap.size) := Nat.le_trans HL4.out h2.size; clear h1 h2 HP4 HC4 HL4))
  obtain ⟨W6, H6, HR6, HB6, HZ6⟩ := res_row w5 a1 a3 f2 x4 (.slice none 0 0)
  have HP6 := hid_in (HP5.out.next HB6.out)
  obtain ⟨G, HG⟩ : ∃ G, w5.heap.size = G := ⟨_, rfl⟩
  have HRG := hid_in HR6.out
  rw [HG] at HRG HZ6 ⊢
  have HGS0 : Hid (w.heap.size < g ∧ g < G ∧ B ≤ G) := ⟨HP5.out.lt, by have := HGB.out; have := HL5.out; omega, by have := HL5.out; omega⟩
  refine wp_world H6.out ?_
  clear H6 HB6 HR6 HP5 HG HL5 HGB
  go_upto_region 4 with (first | (go_at_call 47; refine (HC5.out _ HP6.out.inn).mono ?_; rintro e w7 ⟨rfl, h1, h2⟩; have HP7 := hid_in (HP6.out.step h1 h2); have HRG7 : Hid (Row w7 G [.int .i64 a1, .bool f2, .int .i64 a3, .string x4, .slice none 0 0] 42) := HRG.out.grew h2 (by show ¬ G = g; have := HGS0.out; omega); have HSZ7 : Hid (G + 1 ≤ w7.heap.size) := (by have := h2.size; have := HZ6.out; show _ ≤ _; omega); clear h1 h2 HP6 HC5))
  have hN64 := HNL.out
  by_cases hbig : 512 < N
  · have k1 : (512 : Int) < (N : Int) := by omega
    have HNOK : Hid (¬ okR bs) := fun h => by have := HOKR.out.1 h; omega
    clear hN64
    have z0 : w7.cell? ⟨w.heap.size, 0, none⟩ = some (.int .i64 0) := HP7.out.z.cell 0
    have z1 : w7.cell? ⟨w.heap.size, 1, none⟩ = some (.bool false) := HP7.out.z.cell 1
    have z2 : w7.cell? ⟨w.heap.size, 2, none⟩ = some (.int .i64 0) := HP7.out.z.cell 2
    have z3 : w7.cell? ⟨w.heap.size, 3, none⟩ = some (.string ⟨#[]⟩) := HP7.out.z.cell 3
    have z4 : w7.cell? ⟨w.heap.size, 4, none⟩ = some (.slice none 0 0) := HP7.out.z.cell 4
    have q0 := HP7.out.z.frozen 0
    have q1 := HP7.out.z.frozen 1
    have q2 := HP7.out.z.frozen 2
    have q3 := HP7.out.z.frozen 3
    have q4 := HP7.out.z.frozen 4
    go_wp2_with fail
    have HF := hid_in (set5 HP7.out.z (.int .i64 0) (.bool false) (.int .i64 0) (.string ⟨#[]⟩) (.slice none 0 0))
    refine post_Row2 2 3 42 Try.results22 w.heap.size rfl 42 _ HF.out.1 _ Try.underlying42 rfl 5 info42 rfl rfl ?_
    exact ⟨.inr ⟨HNOK.out, rfl⟩, HP7.out.below.grown HF.out.2 HP7.out.below.size (fun k e => by cases e; exact Nat.le_refl _)⟩
  · have k1 : ¬ ((512 : Int) < (N : Int)) := by omega
    have HM : Hid (N ≤ 512) := by show _ ≤ _; omega
    obtain ⟨base, HBASE⟩ : ∃ base, G + 1 = base := ⟨_, rfl⟩
    have HGS : Hid (w.heap.size < g ∧ g < G ∧ G < base) := by have := HGS0.out; show _ ∧ _; omega
    have HKI : Hid (KeepI (fun W s => In B W g s) base G) := by have := HGS0.out; show KeepI _ _ _; exact keep_in (by omega) (by omega) (by omega) (by omega)
    have HU0 : Hid (UV (fun W s => In B W g s) w G base (.int .i64 a1) (.bool f2) (.int .i64 a3) (.string x4) s5 0 w7) := ⟨⟨_, HRG7.out, World.ownsRow_nil _ _ _ _⟩, HP7.out.inn, HP7.out.z, HP7.out.below, by have := HSZ7.out; omega⟩
    obtain ⟨i9, hi9, hz0, hz1, hz2⟩ := info9h
    clear hN64 hbig HP7 HRG7 HSZ7 HBASE
    go_upto_region 7 with fail
    go_loopw [24] (fun v W => ∃ j : Nat, v = .int .u64 (j : Int) ∧ j ≤ N ∧ UV (fun W s => In B W g s) w G base (.int .i64 a1) (.bool f2) (.int .i64 a3) (.string x4) s5 j W) (fun v _ => N - (intOf v).toNat)
    case atStart => exact ⟨0, rfl, by omega, HU0.out⟩
    case round =>
      obtain ⟨j, rfl, hj, hu⟩ := hrel
      have HU := hid_in hu
      have hM := HM.out
      clear hu HU0
      by_cases hlt : j < N
      · have k2 : (j : Int) < (N : Int) := by omega
        go_upto_region 8 with fail
        obtain ⟨vp, hrow, hown⟩ := HU.out.row
        have HRGD : Hid (Row wr.drew G [.int .i64 a1, .bool f2, .int .i64 a3, .string x4, vp] 42) := hrow.drew
        have cG0 : wr.cell? ⟨G, 4, none⟩ = some vp := hrow.cell 4
        have HOWN := hid_in (own_belowK hown ((Below.refl _ wr).drew))
        have HBS : Hid (base ≤ wr.heap.size) := HU.out.size
        obtain ⟨X, HX⟩ : ∃ X, Hid (str (sText 1100 (sTexts j s5).2).1 = X) := ⟨_, rfl⟩
        have HD := hid_in (text_s wr.drew g B (sTexts j s5).2 1100 (by decide) (In.drew1 HU.out.ri))
        rw [HX.out] at HD
        obtain ⟨RG, HRGE⟩ : ∃ RG, Hid ([.int .i64 a1, .bool f2, .int .i64 a3, .string x4, vp] = RG) := ⟨_, rfl⟩
        have HR3g : Hid (∀ {W : World}, Row W G RG 42 → W.cell? ⟨G, 4, none⟩ = some vp) := fun h => by rw [h.cell, ← HRGE.out]; rfl
        rw [HRGE.out] at HRGD
        obtain ⟨XS, HXS⟩ : ∃ XS, Hid ((sTexts j s5).1.map Value.string = XS) := ⟨_, rfl⟩
        rw [HXS.out] at HOWN
        clear hrow hown
        refine wp_region_held_drew (S := fun _ => True) (by kernel_rfl) trivial (fun hHeld => ?_)
        refine take_put (i := 0) (d := 26) (v := ?_) rfl rfl (by kernel_rfl) (by kernel_rfl) (by kernel_rfl) (fun _ _ _ h => h) (Or.inl ⟨by kernel_rfl, ?_⟩) hHeld ?_
        rotate_left
        · (intro w hSw; (try dsimp only at hSw); go_simp; (try with_reducible rfl))
        simp only [Act.put, List.setIfInBounds_toArray, List.set_cons_zero, List.set_cons_succ]
        refine take_put (i := 2) (d := 28) (v := ?_) rfl rfl (by kernel_rfl) (by kernel_rfl) (by kernel_rfl) (fun _ _ _ h => h) (Or.inl ⟨by kernel_rfl, ?_⟩) hHeld ?_
        rotate_left
        · (intro w hSw; (try dsimp only at hSw); go_simp; (try with_reducible rfl))
        simp only [Act.put, List.setIfInBounds_toArray, List.set_cons_zero, List.set_cons_succ]
        refine wpAnyH_ready (rs := [1, 3]) (by kernel_rfl) (by simp) ?_
        refine AllReadyH.cons rfl (fun K hK => ?_) (AllReadyH.cons rfl (fun K hK => ?_) AllReadyH.nil)
        · rw [if_pos (by rfl)]
          go_simp
          refine hK.out _ _ trivial (fun hHeld => ?_)
          clear hK K
          refine wpAnyH_ready (rs := [3]) (by kernel_rfl) (by simp) ?_
          refine AllReadyH.cons rfl (fun K hK => ?_) AllReadyH.nil
          rw [if_pos (by rfl)]
          go_simp
          refine HD.out.mono ?_
          rintro e w6 ⟨rfl, h1, h2⟩
          have H6 := hid_in h1
          have HG6 := hid_in h2
          clear h1 h2
          have HO6 := hid_in (own_grewK HOWN.out HG6.out (fun q hq h => by have h1 := (own_geK HOWN.out q hq).1; have h2 : q = g := h; have := HGS.out; omega))
          have hrg6 : Row w6 G RG 42 := HRGD.out.grew HG6.out (by show ¬ G = g; have := HGS.out; omega)
          have HRG6 := hid_in hrg6
          have cG6 : w6.cell? ⟨G, 4, none⟩ = some vp := HR3g.out hrg6
          clear hrg6
          go_simp
          refine hK.out _ _ trivial (fun hHeld => ?_)
          clear hK K
          refine wpAnyH_ready (rs := [4]) (by kernel_rfl) (by simp) ?_
          refine AllReadyH.cons rfl (fun K hK => ?_) AllReadyH.nil
          rw [if_pos (by rfl)]
          refine wp_slice1 40 _ rfl _ _ _ rfl (slice40 X _) ?_
          simp only [Act.put, List.setIfInBounds_toArray]
          have cG7 : (w6.alloc (.cells #[.string X] 9)).cell? ⟨G, 4, none⟩ = some vp := (Below.cell ((Below.refl w6.heap.size w6).alloc (Nat.le_refl _) _) (p := ⟨G, 4, none⟩) HRG6.out.lt).trans cG6
          refine hK.out _ _ trivial (fun hHeld => ?_)
          clear hK K
          refine wpAnyH_ready (rs := [5]) (by kernel_rfl) (by simp) ?_
          refine AllReadyH.cons rfl (fun K hK => ?_) AllReadyH.nil
          rw [if_pos (by rfl)]
          refine wp_append_lies _ _ _ 40 rfl base 9 i9 (.string ByteArray.empty) 1 16 Try.underlying40 hi9.out hz0.out hz1.out hz2.out rfl (by decide) vp j XS rfl (HO6.out.alloc _) ⟨w6.heap.size, 0, none⟩ 1 1 [.string X] rfl rfl (World.news_of_block (heap_alloc_new w6 _)) (by intro u hu; simp at hu; subst hu; rfl) (by decide) (by simp [maxLen]; omega) (by omega) (by have := HBS.out; have := HG6.out.size; simp at this ⊢; omega) _ rfl ?_
          intro g9 cap9 w9 hown9 hg9 hor9 hlt9
          simp only [Act.put]
          have HO9 := hid_in hown9
          have HGR9 := hid_in hg9
          have hrg9 : Row w9 G RG 42 := (HRG6.out.alloc _).grown HGR9.out (fun h => by have := (own_geK HO6.out G h.symm).1; have := HGS.out; omega)
          have cG9 : w9.cell? ⟨G, 4, none⟩ = some vp := HR3g.out hrg9
          have fG9 := hrg9.frozen 4
          clear hown9 hg9 hor9 hlt9 hrg9
          refine hK.out _ _ trivial (fun hHeld => ?_)
          clear hK K
          refine take_put (i := 6) (d := 32) (v := ?_) rfl rfl (by kernel_rfl) (by kernel_rfl) (by kernel_rfl) (fun _ _ _ h => h) (Or.inl ⟨by kernel_rfl, ?_⟩) hHeld ?_
          rotate_left
          · (intro w hSw; (try dsimp only at hSw); go_simp; (try with_reducible rfl))
          simp only [Act.put]
          refine wpAnyH_ready (rs := [7]) (by kernel_rfl) (by simp) ?_
          refine AllReadyH.cons rfl (fun K hK => ?_) AllReadyH.nil
          rw [if_pos (by rfl)]
          go_simp
          refine hK.out _ _ trivial (fun hHeld => ?_)
          clear hK K
          refine wpAnyH_done (by kernel_rfl) ?_ _
          go_wp2_with fail
          go_roundw
          case measure => simp [intOf]; omega
          case rel =>
            go_light
            refine ⟨j + 1, by go_num, by omega, ?_⟩
            exact HU.out.step HKI.out HGS.out HX.out HXS.out H6.out HG6.out (by rw [HRGE.out]; exact HRG6.out) HO6.out HGR9.out HO9.out
        · rw [if_pos (by rfl)]
          go_simp
          refine HD.out.mono ?_
          rintro e w6 ⟨rfl, h1, h2⟩
          have H6 := hid_in h1
          have HG6 := hid_in h2
          clear h1 h2
          have HO6 := hid_in (own_grewK HOWN.out HG6.out (fun q hq h => by have h1 := (own_geK HOWN.out q hq).1; have h2 : q = g := h; have := HGS.out; omega))
          have hrg6 : Row w6 G RG 42 := HRGD.out.grew HG6.out (by show ¬ G = g; have := HGS.out; omega)
          have HRG6 := hid_in hrg6
          have cG6 : w6.cell? ⟨G, 4, none⟩ = some vp := HR3g.out hrg6
          clear hrg6
          go_simp
          refine hK.out _ _ trivial (fun hHeld => ?_)
          clear hK K
          refine wpAnyH_ready (rs := [1, 4]) (by kernel_rfl) (by simp) ?_
          refine AllReadyH.cons rfl (fun K hK => ?_) (AllReadyH.cons rfl (fun K hK => ?_) AllReadyH.nil)
          · rw [if_pos (by rfl)]
            go_simp
            refine hK.out _ _ trivial (fun hHeld => ?_)
            clear hK K
            refine wpAnyH_ready (rs := [4]) (by kernel_rfl) (by simp) ?_
            refine AllReadyH.cons rfl (fun K hK => ?_) AllReadyH.nil
            rw [if_pos (by rfl)]
            refine wp_slice1 40 _ rfl _ _ _ rfl (slice40 X _) ?_
            simp only [Act.put, List.setIfInBounds_toArray]
            have cG7 : (w6.alloc (.cells #[.string X] 9)).cell? ⟨G, 4, none⟩ = some vp := (Below.cell ((Below.refl w6.heap.size w6).alloc (Nat.le_refl _) _) (p := ⟨G, 4, none⟩) HRG6.out.lt).trans cG6
            refine hK.out _ _ trivial (fun hHeld => ?_)
            clear hK K
            refine wpAnyH_ready (rs := [5]) (by kernel_rfl) (by simp) ?_
            refine AllReadyH.cons rfl (fun K hK => ?_) AllReadyH.nil
            rw [if_pos (by rfl)]
            refine wp_append_lies _ _ _ 40 rfl base 9 i9 (.string ByteArray.empty) 1 16 Try.underlying40 hi9.out hz0.out hz1.out hz2.out rfl (by decide) vp j XS rfl (HO6.out.alloc _) ⟨w6.heap.size, 0, none⟩ 1 1 [.string X] rfl rfl (World.news_of_block (heap_alloc_new w6 _)) (by intro u hu; simp at hu; subst hu; rfl) (by decide) (by simp [maxLen]; omega) (by omega) (by have := HBS.out; have := HG6.out.size; simp at this ⊢; omega) _ rfl ?_
            intro g9 cap9 w9 hown9 hg9 hor9 hlt9
            simp only [Act.put]
            have HO9 := hid_in hown9
            have HGR9 := hid_in hg9
            have hrg9 : Row w9 G RG 42 := (HRG6.out.alloc _).grown HGR9.out (fun h => by have := (own_geK HO6.out G h.symm).1; have := HGS.out; omega)
            have cG9 : w9.cell? ⟨G, 4, none⟩ = some vp := HR3g.out hrg9
            have fG9 := hrg9.frozen 4
            clear hown9 hg9 hor9 hlt9 hrg9
            refine hK.out _ _ trivial (fun hHeld => ?_)
            clear hK K
            refine take_put (i := 6) (d := 32) (v := ?_) rfl rfl (by kernel_rfl) (by kernel_rfl) (by kernel_rfl) (fun _ _ _ h => h) (Or.inl ⟨by kernel_rfl, ?_⟩) hHeld ?_
            rotate_left
            · (intro w hSw; (try dsimp only at hSw); go_simp; (try with_reducible rfl))
            simp only [Act.put]
            refine wpAnyH_ready (rs := [7]) (by kernel_rfl) (by simp) ?_
            refine AllReadyH.cons rfl (fun K hK => ?_) AllReadyH.nil
            rw [if_pos (by rfl)]
            go_simp
            refine hK.out _ _ trivial (fun hHeld => ?_)
            clear hK K
            refine wpAnyH_done (by kernel_rfl) ?_ _
            go_wp2_with fail
            go_roundw
            case measure => simp [intOf]; omega
            case rel =>
              go_light
              refine ⟨j + 1, by go_num, by omega, ?_⟩
              exact HU.out.step HKI.out HGS.out HX.out HXS.out H6.out HG6.out (by rw [HRGE.out]; exact HRG6.out) HO6.out HGR9.out HO9.out
          · rw [if_pos (by rfl)]
            refine wp_slice1 40 _ rfl _ _ _ rfl (slice40 X _) ?_
            simp only [Act.put, List.setIfInBounds_toArray]
            have cG7 : (w6.alloc (.cells #[.string X] 9)).cell? ⟨G, 4, none⟩ = some vp := (Below.cell ((Below.refl w6.heap.size w6).alloc (Nat.le_refl _) _) (p := ⟨G, 4, none⟩) HRG6.out.lt).trans cG6
            refine hK.out _ _ trivial (fun hHeld => ?_)
            clear hK K
            refine wpAnyH_ready (rs := [1]) (by kernel_rfl) (by simp) ?_
            refine AllReadyH.cons rfl (fun K hK => ?_) AllReadyH.nil
            rw [if_pos (by rfl)]
            go_simp
            refine hK.out _ _ trivial (fun hHeld => ?_)
            clear hK K
            refine wpAnyH_ready (rs := [5]) (by kernel_rfl) (by simp) ?_
            refine AllReadyH.cons rfl (fun K hK => ?_) AllReadyH.nil
            rw [if_pos (by rfl)]
            refine wp_append_lies _ _ _ 40 rfl base 9 i9 (.string ByteArray.empty) 1 16 Try.underlying40 hi9.out hz0.out hz1.out hz2.out rfl (by decide) vp j XS rfl (HO6.out.alloc _) ⟨w6.heap.size, 0, none⟩ 1 1 [.string X] rfl rfl (World.news_of_block (heap_alloc_new w6 _)) (by intro u hu; simp at hu; subst hu; rfl) (by decide) (by simp [maxLen]; omega) (by omega) (by have := HBS.out; have := HG6.out.size; simp at this ⊢; omega) _ rfl ?_
            intro g9 cap9 w9 hown9 hg9 hor9 hlt9
            simp only [Act.put, List.setIfInBounds_toArray]
            have HO9 := hid_in hown9
            have HGR9 := hid_in hg9
            have hrg9 : Row w9 G RG 42 := (HRG6.out.alloc _).grown HGR9.out (fun h => by have := (own_geK HO6.out G h.symm).1; have := HGS.out; omega)
            have cG9 : w9.cell? ⟨G, 4, none⟩ = some vp := HR3g.out hrg9
            have fG9 := hrg9.frozen 4
            clear hown9 hg9 hor9 hlt9 hrg9
            refine hK.out _ _ trivial (fun hHeld => ?_)
            clear hK K
            refine take_put (i := 6) (d := 32) (v := ?_) rfl rfl (by kernel_rfl) (by kernel_rfl) (by kernel_rfl) (fun _ _ _ h => h) (Or.inl ⟨by kernel_rfl, ?_⟩) hHeld ?_
            rotate_left
            · (intro w hSw; (try dsimp only at hSw); go_simp; (try with_reducible rfl))
            simp only [Act.put]
            refine wpAnyH_ready (rs := [7]) (by kernel_rfl) (by simp) ?_
            refine AllReadyH.cons rfl (fun K hK => ?_) AllReadyH.nil
            rw [if_pos (by rfl)]
            go_simp
            refine hK.out _ _ trivial (fun hHeld => ?_)
            clear hK K
            refine wpAnyH_done (by kernel_rfl) ?_ _
            go_wp2_with fail
            go_roundw
            case measure => simp [intOf]; omega
            case rel =>
              go_light
              refine ⟨j + 1, by go_num, by omega, ?_⟩
              exact HU.out.step HKI.out HGS.out HX.out HXS.out H6.out HG6.out (by rw [HRGE.out]; exact HRG6.out) HO6.out HGR9.out HO9.out

      · obtain rfl : j = N := by omega
        have k2 : ¬ ((j : Int) < (j : Int)) := by omega
        obtain ⟨vp, hrow, hown⟩ := HU.out.row
        obtain ⟨pv, cv, bv, ov, hvp, _, _, _, _⟩ := own_strs (base := base) (ns := (sTexts j s5).1) (own_len hown (sTexts_length j s5).symm)
        subst hvp
        have n1 : w.heap.size ≠ G := by have := HGS.out; omega
        have n2 : G ≠ w.heap.size := by have := HGS.out; omega
        have z0 : wr.cell? ⟨w.heap.size, 0, none⟩ = some (.int .i64 0) := HU.out.z.cell 0
        have z1 : wr.cell? ⟨w.heap.size, 1, none⟩ = some (.bool false) := HU.out.z.cell 1
        have z2 : wr.cell? ⟨w.heap.size, 2, none⟩ = some (.int .i64 0) := HU.out.z.cell 2
        have z3 : wr.cell? ⟨w.heap.size, 3, none⟩ = some (.string ⟨#[]⟩) := HU.out.z.cell 3
        have z4 : wr.cell? ⟨w.heap.size, 4, none⟩ = some (.slice none 0 0) := HU.out.z.cell 4
        have q0 := HU.out.z.frozen 0
        have q1 := HU.out.z.frozen 1
        have q2 := HU.out.z.frozen 2
        have q3 := HU.out.z.frozen 3
        have q4 := HU.out.z.frozen 4
        have d0 : wr.cell? ⟨G, 0, none⟩ = some (.int .i64 a1) := hrow.cell 0
        have d1 : wr.cell? ⟨G, 1, none⟩ = some (.bool f2) := hrow.cell 1
        have d2 : wr.cell? ⟨G, 2, none⟩ = some (.int .i64 a3) := hrow.cell 2
        have d3 : wr.cell? ⟨G, 3, none⟩ = some (.string x4) := hrow.cell 3
        have d4 : wr.cell? ⟨G, 4, none⟩ = some (.slice pv (sTexts j s5).1.length cv) := hrow.cell 4
        obtain ⟨⟨l6, e6⟩, HS6⟩ : ∃ t, Hid ((sTexts j s5).2 = t) := ⟨_, rfl⟩
        have hin : In B wr g (l6, e6) := by have h := HU.out.ri; rw [HS6.out] at h; exact h
        have HEN := hid_in (iend_any wr g e6 l6 hin)
        have HOWN := hid_in hown
        have HROW := hid_in hrow
        clear hin hrow hown
        by_cases hend : e6 = 0 ∧ l6.length = 0
        · rw [decide_eq_true hend] at HEN
          have HY : Hid (okR bs) := HOKR.out.2 ⟨HM.out, by rw [HS6.out]; exact dec_ok.2 hend⟩
          clear hend
          go_wp2_with (first | (go_at_call 38; refine HEN.out.mono ?_; rintro e w9 ⟨rfl, rfl⟩))
          have HF := hid_in (set5 HU.out.z (.int .i64 a1) (.bool f2) (.int .i64 a3) (.string x4) (.slice pv (sTexts j s5).1.length cv))
          refine post_Row2 2 3 42 Try.results22 w.heap.size rfl 42 _ HF.out.1 _ Try.underlying42 rfl 5 info42 rfl rfl ?_
          have h3 := own_grewK HOWN.out (grew_of_grownS HF.out.2) (fun q hq e => by have h4 := (own_geK HOWN.out q hq).1; have h5 : q = w.heap.size := e; have := HGS.out; omega)
          exact ⟨.inl ⟨HY.out, _, rfl, own_strs (base := base) (own_len h3 (sTexts_length j s5).symm)⟩, HU.out.below.grown HF.out.2 HU.out.below.size (fun k e => by cases e; exact Nat.le_refl _)⟩
        · rw [decide_eq_false hend] at HEN
          have HY : Hid (¬ okR bs) := fun h => hend (dec_ok.1 (by have h2 := (HOKR.out.1 h).2; rw [HS6.out] at h2; exact h2))
          clear hend
          go_wp2_with (first | (go_at_call 38; refine HEN.out.mono ?_; rintro e w9 ⟨rfl, rfl⟩))
          have HF := hid_in (set5 HU.out.z (.int .i64 0) (.bool false) (.int .i64 0) (.string ⟨#[]⟩) (.slice none 0 0))
          refine post_Row2 2 3 42 Try.results22 w.heap.size rfl 42 _ HF.out.1 _ Try.underlying42 rfl 5 info42 rfl rfl ?_
          exact ⟨.inr ⟨HY.out, rfl⟩, HU.out.below.grown HF.out.2 HU.out.below.size (fun k e => by cases e; exact Nat.le_refl _)⟩
end Go.Proofs.Ytjlhjpooggkkoaa.Nd
