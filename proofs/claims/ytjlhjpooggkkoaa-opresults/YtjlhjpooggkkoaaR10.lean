/-
  The walk of the reference's Unpack.
-/
import Derived.Laws.CopyOwn
import Derived.Deep.CutRange
import Derived.Test.YtjlhjpooggkkoaaRows
import Derived.OwnWalk
import Derived.Deep.RegionLaw
import Derived.Deep.DrawnRows
import Derived.Laws.Tables
import Derived.Test.YtjlhjpooggkkoaaR00
import Derived.Test.YtjlhjpooggkkoaaR01
import Derived.Test.YtjlhjpooggkkoaaR02
import Derived.Test.YtjlhjpooggkkoaaR03
import Derived.Test.YtjlhjpooggkkoaaR04
import Derived.Test.YtjlhjpooggkkoaaR05
import Derived.Test.YtjlhjpooggkkoaaR06
import Derived.Test.YtjlhjpooggkkoaaR07
import Derived.Test.YtjlhjpooggkkoaaR08
import Derived.Test.YtjlhjpooggkkoaaR09
namespace Go.Proofs.Ytjlhjpooggkkoaa.Nd
open Go.RowKit
theorem three_rows5 (w : World) (v : Value) : ∃ W, Hid (((w.alloc (.cells #[.int .i64 0, .bool false, .int .i64 0, .string ⟨#[]⟩, .slice none 0 0] 42)).alloc (.cells #[v, .int .i64 0, .int .i64 0] 67)).alloc (.cells #[.int .i64 0, .bool false, .int .i64 0, .string ⟨#[]⟩, .slice none 0 0] 42) = W) ∧ Row W w.heap.size [.int .i64 0, .bool false, .int .i64 0, .string ⟨#[]⟩, .slice none 0 0] 42 ∧ Row W (w.heap.size + 1) [v, .int .i64 0, .int .i64 0] 67 ∧ Row W (w.heap.size + 1 + 1) [.int .i64 0, .bool false, .int .i64 0, .string ⟨#[]⟩, .slice none 0 0] 42 ∧ Below w.heap.size w W ∧ W.heap.size = w.heap.size + 3 := by
  refine ⟨_, rfl, ?_, ?_, ?_, bel3 w _ _ _, by simp⟩
  · exact ((Row.new w [.int .i64 0, .bool false, .int .i64 0, .string ⟨#[]⟩, .slice none 0 0] 42).alloc _).alloc _
  · exact row_mid w _ _ [v, .int .i64 0, .int .i64 0] 67
  · exact Row.newAt _ _ [.int .i64 0, .bool false, .int .i64 0, .string ⟨#[]⟩, .slice none 0 0] 42 (by simp)
/-- under way in the reference: what is read so far lies at G -/
structure RU (w : World) (g G : Nat) (cs : List Value) (s : Sta) (W : World) : Prop where
  ri : RI w.heap.size W g s
  row : Row W G cs 42
  z : Row W w.heap.size zR 42
  below : Below w.heap.size w W
  gs : w.heap.size < g ∧ g < G
theorem RU.read {w : World} {g G : Nat} {cs : List Value} {s s' : Sta} {W W' : World} (h : RU w g G cs s W) (hi : RI w.heap.size W' g s') (hg : Grew W W' (· = g)) : RU w g G cs s' W' :=
  ⟨hi, h.row.grew hg (by have := h.gs; omega), h.z.grew hg (by have := h.gs; omega), hg.below h.below h.below.size (fun k hk => by have := h.gs; omega), h.gs⟩
theorem RU.put {w : World} {g G : Nat} {cs : List Value} {s : Sta} {W : World} (h : RU w g G cs s W) (i : Nat) (v : Value) : RU w g G (cs.set i v) s (W.setCell ⟨G, i, none⟩ v) := by
  have hg := grownBy_setCell W ⟨G, i, none⟩ v
  have hb : Below G W (W.setCell ⟨G, i, none⟩ v) := (Below.refl _ _).grown hg (Nat.le_of_lt h.row.lt) (fun k e => by cases e; exact Nat.le_refl _)
  have h1 := h.gs
  exact ⟨h.ri.belowM hb h1.2 (by omega), h.row.set_same i v, h.z.set_other ⟨G, i, none⟩ v (by show _ ≠ G; omega), h.below.trans (hb.mono (by omega)), h1⟩
set_option maxHeartbeats 8000000 in
set_option maxRecDepth 100000 in
theorem runpack_p (bs : List Nat) (p : Option Addr) (cap b off : Nat) (w : World) (hsl : Sl w p bs cap b off) :
    Calls Try.prog 23 #[.slice p bs.length cap] w fun e w' => ((okR bs ∧ ∃ vn, e = .returned (.tuple #[(rdR bs).1.val vn, .bool true]) ∧ Strs w' vn (rdR bs).1.names) ∨ (¬ okR bs ∧ e = .returned (.tuple #[zeroRes.val (.slice none 0 0), .bool false]))) ∧ Below w.heap.size w w' := by
  obtain ⟨W1, HW1, hz, hi, hg, hb, hsz⟩ := three_rows5 w (.slice p bs.length cap)
  obtain ⟨g, hgg⟩ : ∃ g, w.heap.size + 1 = g := ⟨_, rfl⟩
  obtain ⟨G, hGG⟩ : ∃ G, w.heap.size + 1 + 1 = G := ⟨_, rfl⟩
  have HP1 : Hid (RU w g G [.int .i64 0, .bool false, .int .i64 0, .string ⟨#[]⟩, .slice none 0 0] (bs, 0) W1) := ⟨⟨bs, 0, ⟨⟨p, cap, b, off, hgg ▸ hi, hsl.below hb, fun h => ⟨by have := hsl.blk h; omega, hsl.blk h⟩⟩, by omega⟩, rfl⟩, hGG ▸ hg, hz, hb, by omega⟩
  obtain ⟨a1, s1, HS1⟩ : ∃ a s, Hid (sInt (bs, 0) = (a, s)) := ⟨_, _, rfl⟩
  obtain ⟨f2, s2, HS2⟩ : ∃ a s, Hid (sFlag s1 = (a, s)) := ⟨_, _, rfl⟩
  obtain ⟨a3, s3, HS3⟩ : ∃ a s, Hid (sInt s2 = (a, s)) := ⟨_, _, rfl⟩
  obtain ⟨y4, s4, HS4⟩ : ∃ a s, Hid (sText 1100 s3 = (a, s)) := ⟨_, _, rfl⟩
  obtain ⟨N, s5, HS5⟩ : ∃ a s, Hid (sNum s4 = (a, s)) := ⟨_, _, rfl⟩
  obtain ⟨x4, HX4⟩ : ∃ x, Hid (str y4 = x) := ⟨_, rfl⟩
  have HNL : Hid (N < 18446744073709551616) := by
    have h := sNum_lt s4
    rw [HS5.out] at h
    exact h
  have HRP : Hid (rdP (bs, 0) = ((a1, f2, a3, x4), N, s5)) := by
    show _ = _
    simp only [rdP, HS1.out, HS2.out, HS3.out, HS4.out, HS5.out, HX4.out]
  have HRR : Hid (rdR bs = (⟨a1, f2, a3, x4, (sTexts N s5).1⟩, (sTexts N s5).2)) := by
    show _ = _
    simp only [rdR, HRP.out]
  have HOKR : Hid (okR bs ↔ N ≤ 512 ∧ (sTexts N s5).2 = ([], 0)) := by
    show _ ↔ _
    simp only [okR, HRP.out, HRR.out]
  rw [HRR.out]
  have HGG := hid_in hGG
  have Hgg := hid_in hgg
  clear hz hi hg hb hsl HRR HRP hGG hgg hsz
  generalize bs.length = bl at *
  have HC1 := hid_in (fun W (h : RI w.heap.size W g (bs, 0)) => rint_s W g w.heap.size (bs, 0) h)
  rw [HS1.out] at HC1
  have HC2 := hid_in (fun W (h : RI w.heap.size W g s1) => rflag_s W g w.heap.size s1 h)
  rw [HS2.out] at HC2
  have HC3 := hid_in (fun W (h : RI w.heap.size W g s2) => rint_s W g w.heap.size s2 h)
  rw [HS3.out] at HC3
  have HC4 := hid_in (fun W (h : RI w.heap.size W g s3) => rtext_s W g w.heap.size s3 1100 (by decide) h)
  rw [HS4.out] at HC4
  simp only [HX4.out] at HC4
  have HC5 := hid_in (fun W (h : RI w.heap.size W g s4) => rnum_s W g w.heap.size s4 h)
  rw [HS5.out] at HC5
  clear HS1 HS2 HS3 HS4 HS5 HX4
  go_enter Try.func23, Try.ntmps23
  go_upto_region 3 with fail
  refine wp_world HW1.out ?_
  clear HW1
  rw [HGG.out, Hgg.out]
  clear HGG Hgg
  go_upto_region 4 with (first | (go_at_call 39; refine (HC1.out _ HP1.out.ri).mono ?_; rintro e u1 ⟨rfl, h1, h2⟩; have HQ1 := hid_in (HP1.out.read h1 h2); clear h1 h2; have hr := HQ1.out.row; have d_ : u1.cell? ⟨G, 0, none⟩ = some (.int .i64 0) := hr.cell 0; have f_ := hr.frozen 0; clear hr))
  clear d_ f_
  obtain ⟨W2, HW2⟩ : ∃ W, Hid (u1.setCell ⟨G, 0, none⟩ (.int .i64 a1) = W) := ⟨_, rfl⟩
  have HP2 : Hid (RU w g G [.int .i64 a1, .bool false, .int .i64 0, .string ⟨#[]⟩, .slice none 0 0] s1 W2) := by show RU _ _ _ _ _ _; rw [← HW2.out]; exact HQ1.out.put 0 (.int .i64 a1)
  refine wp_world HW2.out ?_
  clear HW2 HQ1 HP1 HC1
  go_upto_region 5 with (first | (go_at_call 48; refine (HC2.out _ HP2.out.ri).mono ?_; rintro e u2 ⟨rfl, h1, h2⟩; have HQ2 := hid_in (HP2.out.read h1 h2); clear h1 h2; have hr := HQ2.out.row; have d_ : u2.cell? ⟨G, 1, none⟩ = some (.bool false) := hr.cell 1; have f_ := hr.frozen 1; clear hr))
  clear d_ f_
  obtain ⟨W3, HW3⟩ : ∃ W, Hid (u2.setCell ⟨G, 1, none⟩ (.bool f2) = W) := ⟨_, rfl⟩
  have HP3 : Hid (RU w g G [.int .i64 a1, .bool f2, .int .i64 0, .string ⟨#[]⟩, .slice none 0 0] s2 W3) := by show RU _ _ _ _ _ _; rw [← HW3.out]; exact HQ2.out.put 1 (.bool f2)
  refine wp_world HW3.out ?_
  clear HW3 HQ2 HP2 HC2
  go_upto_region 6 with (first | (go_at_call 39; refine (HC3.out _ HP3.out.ri).mono ?_; rintro e u3 ⟨rfl, h1, h2⟩; have HQ3 := hid_in (HP3.out.read h1 h2); clear h1 h2; have hr := HQ3.out.row; have d_ : u3.cell? ⟨G, 2, none⟩ = some (.int .i64 0) := hr.cell 2; have f_ := hr.frozen 2; clear hr))
  clear d_ f_
  obtain ⟨W4, HW4⟩ : ∃ W, Hid (u3.setCell ⟨G, 2, none⟩ (.int .i64 a3) = W) := ⟨_, rfl⟩
  have HP4 : Hid (RU w g G [.int .i64 a1, .bool f2, .int .i64 a3, .string ⟨#[]⟩, .slice none 0 0] s3 W4) := by show RU _ _ _ _ _ _; rw [← HW4.out]; exact HQ3.out.put 2 (.int .i64 a3)
  refine wp_world HW4.out ?_
  clear HW4 HQ3 HP3 HC3
  go_upto_region 7 with (first | (go_at_call 40; refine (HC4.out _ HP4.out.ri).mono ?_; rintro e u4 ⟨rfl, h1, h2⟩; have HQ4 := hid_in (HP4.out.read h1 h2); clear h1 h2; have hr := HQ4.out.row; have d_ : u4.cell? ⟨G, 3, none⟩ = some (.string ⟨#[]⟩) := hr.cell 3; have f_ := hr.frozen 3; clear hr))
  clear d_ f_
  obtain ⟨W5, HW5⟩ : ∃ W, Hid (u4.setCell ⟨G, 3, none⟩ (.string x4) = W) := ⟨_, rfl⟩
  have HP5 : Hid (RU w g G [.int .i64 a1, .bool f2, .int .i64 a3, .string x4, .slice none 0 0] s4 W5) := by show RU _ _ _ _ _ _; rw [← HW5.out]; exact HQ4.out.put 3 (.string x4)
  refine wp_world HW5.out ?_
  clear HW5 HQ4 HP4 HC4
  go_upto_region 8 with (first | (go_at_call 49; refine (HC5.out _ HP5.out.ri).mono ?_; rintro e w7 ⟨rfl, h1, h2⟩; have HP7 := hid_in (HP5.out.read h1 h2); clear h1 h2 HP5 HC5))
  have hN64 := HNL.out
  by_cases hbig : 512 < N
  · have k1 : (512 : Int) < (N : Int) := by omega
    have k2 : ¬ ((N : Int) ≤ 512) := by omega
    have k3 : (0 : Int) < (N : Int) := by omega
    have HNOK : Hid (¬ okR bs) := fun h => by have := HOKR.out.1 h; omega
    clear hN64
    have z0 : w7.cell? ⟨w.heap.size, 0, none⟩ = some (.int .i64 0) := HP7.out.z.cell 0
    have z1 : w7.cell? ⟨w.heap.size, 1, none⟩ = some (.bool false) := HP7.out.z.cell 1
    have z2 : w7.cell? ⟨w.heap.size, 2, none⟩ = some (.int .i64 0) := HP7.out.z.cell 2
    have z3 : w7.cell? ⟨w.heap.size, 3, none⟩ = some (.string ⟨#[]⟩) := HP7.out.z.cell 3
    have z4 : w7.cell? ⟨w.heap.size, 4, none⟩ = some (.slice none 0 0) := HP7.out.z.cell 4
    have q0 := HP7.out.z.frozen 0
    have q1 := HP7.out.z.frozen 1
    have q2 := HP7.out.z.frozen 2
    have q3 := HP7.out.z.frozen 3
    have q4 := HP7.out.z.frozen 4
    go_upto_region 9 with fail
    go_loopw [7] (fun v W => v = .int .u64 0 ∧ W = w7) (fun _ _ => 0)
    case atStart => exact ⟨rfl, rfl⟩
    case round =>
      obtain ⟨rfl, hWW⟩ := hrel
      replace hWW := hWW.symm
      subst hWW
      go_wp2_with fail
      have HF := hid_in (set5 HP7.out.z (.int .i64 0) (.bool false) (.int .i64 0) (.string ⟨#[]⟩) (.slice none 0 0))
      refine post_Row2 2 3 42 Try.results23 w.heap.size rfl 42 _ HF.out.1 _ Try.underlying42 rfl 5 info42 rfl rfl ?_
      exact ⟨.inr ⟨HNOK.out, rfl⟩, HP7.out.below.grown HF.out.2 HP7.out.below.size (fun k e => by cases e; exact Nat.le_refl _)⟩
  · have k1 : ¬ ((512 : Int) < (N : Int)) := by omega
    have k3 : (N : Int) ≤ 512 := by omega
    have HM : Hid (N ≤ 512) := by show _ ≤ _; omega
    have hgl := HP7.out.row.lt
    have hgs := HP7.out.gs
    obtain ⟨base, HBASE⟩ : ∃ base, G + 1 = base := ⟨_, rfl⟩
    have HGS : Hid (w.heap.size < g ∧ g < G ∧ G < base) := by show _ ∧ _; omega
    have HKI : Hid (KeepI (fun W s => RI w.heap.size W g s) base G) := keep_ri (by omega) (by omega) (by omega) (by omega)
    have HU0 : Hid (UV (fun W s => RI w.heap.size W g s) w G base (.int .i64 a1) (.bool f2) (.int .i64 a3) (.string x4) s5 0 w7) := ⟨⟨_, HP7.out.row, World.ownsRow_nil _ _ _ _⟩, HP7.out.ri, HP7.out.z, HP7.out.below, by omega⟩
    obtain ⟨i9, hi9, hz0, hz1, hz2⟩ := info9h
    clear hN64 hbig HP7 HBASE hgl hgs
    go_upto_region 9 with fail
    go_loopw [7] (fun v W => ∃ j : Nat, v = .int .u64 (j : Int) ∧ j ≤ N ∧ UV (fun W s => RI w.heap.size W g s) w G base (.int .i64 a1) (.bool f2) (.int .i64 a3) (.string x4) s5 j W) (fun v _ => N - (intOf v).toNat)
    case atStart => exact ⟨0, rfl, by omega, HU0.out⟩
    case round =>
      obtain ⟨j, rfl, hj, hu⟩ := hrel
      have HU := hid_in hu
      have hM := HM.out
      clear hu HU0
      by_cases hlt : j < N
      · have k2 : (j : Int) < (N : Int) := by omega
        go_upto_region 11 with fail
        obtain ⟨vp, hrow, hown⟩ := HU.out.row
        have HRGD : Hid (Row wr.drew G [.int .i64 a1, .bool f2, .int .i64 a3, .string x4, vp] 42) := hrow.drew
        have cG0 : wr.cell? ⟨G, 4, none⟩ = some vp := hrow.cell 4
        have HOWN := hid_in (own_belowK hown ((Below.refl _ wr).drew))
        have HBS : Hid (base ≤ wr.heap.size) := HU.out.size
        obtain ⟨X, HX⟩ : ∃ X, Hid (str (sText 1100 (sTexts j s5).2).1 = X) := ⟨_, rfl⟩
        have HD := hid_in (rtext_s wr.drew g w.heap.size (sTexts j s5).2 1100 (by decide) (RI.drew1 HU.out.ri))
        rw [HX.out] at HD
        obtain ⟨RG, HRGE⟩ : ∃ RG, Hid ([.int .i64 a1, .bool f2, .int .i64 a3, .string x4, vp] = RG) := ⟨_, rfl⟩
        have HR3g : Hid (∀ {W : World}, Row W G RG 42 → W.cell? ⟨G, 4, none⟩ = some vp) := fun h => by rw [h.cell, ← HRGE.out]; rfl
        rw [HRGE.out] at HRGD
        obtain ⟨XS, HXS⟩ : ∃ XS, Hid ((sTexts j s5).1.map Value.string = XS) := ⟨_, rfl⟩
        rw [HXS.out] at HOWN
        clear hrow hown
        refine wp_region_held_drew (S := fun _ => True) (by kernel_rfl) trivial (fun hHeld => ?_)
        refine take_put (i := 0) (d := 34) (v := ?_) rfl rfl (by kernel_rfl) (by kernel_rfl) (by kernel_rfl) (fun _ _ _ h => h) (Or.inl ⟨by kernel_rfl, ?_⟩) hHeld ?_
        rotate_left
        · (intro w hSw; (try dsimp only at hSw); go_simp; (try with_reducible rfl))
        simp only [Act.put, List.setIfInBounds_toArray, List.set_cons_zero, List.set_cons_succ]
        refine take_put (i := 2) (d := 36) (v := ?_) rfl rfl (by kernel_rfl) (by kernel_rfl) (by kernel_rfl) (fun _ _ _ h => h) (Or.inl ⟨by kernel_rfl, ?_⟩) hHeld ?_
        rotate_left
        · (intro w hSw; (try dsimp only at hSw); go_simp; (try with_reducible rfl))
        simp only [Act.put, List.setIfInBounds_toArray, List.set_cons_zero, List.set_cons_succ]
        refine wpAnyH_ready (rs := [1, 3]) (by kernel_rfl) (by simp) ?_
        refine AllReadyH.cons rfl (fun K hK => ?_) (AllReadyH.cons rfl (fun K hK => ?_) AllReadyH.nil)
        · rw [if_pos (by rfl)]
          go_simp
          refine hK.out _ _ trivial (fun hHeld => ?_)
          clear hK K
          refine wpAnyH_ready (rs := [3]) (by kernel_rfl) (by simp) ?_
          refine AllReadyH.cons rfl (fun K hK => ?_) AllReadyH.nil
          rw [if_pos (by rfl)]
          go_simp
          refine HD.out.mono ?_
          rintro e w6 ⟨rfl, h1, h2⟩
          have H6 := hid_in h1
          have HG6 := hid_in h2
          clear h1 h2
          have HO6 := hid_in (own_grewK HOWN.out HG6.out (fun q hq h => by have h1 := (own_geK HOWN.out q hq).1; have h2 : q = g := h; have := HGS.out; omega))
          have hrg6 : Row w6 G RG 42 := HRGD.out.grew HG6.out (by show ¬ G = g; have := HGS.out; omega)
          have HRG6 := hid_in hrg6
          have cG6 : w6.cell? ⟨G, 4, none⟩ = some vp := HR3g.out hrg6
          clear hrg6
          go_simp
          refine hK.out _ _ trivial (fun hHeld => ?_)
          clear hK K
          refine wpAnyH_ready (rs := [4]) (by kernel_rfl) (by simp) ?_
          refine AllReadyH.cons rfl (fun K hK => ?_) AllReadyH.nil
          rw [if_pos (by rfl)]
          refine wp_slice1 40 _ rfl _ _ _ rfl (slice40 X _) ?_
          simp only [Act.put, List.setIfInBounds_toArray]
          have cG7 : (w6.alloc (.cells #[.string X] 9)).cell? ⟨G, 4, none⟩ = some vp := (Below.cell ((Below.refl w6.heap.size w6).alloc (Nat.le_refl _) _) (p := ⟨G, 4, none⟩) HRG6.out.lt).trans cG6
          refine hK.out _ _ trivial (fun hHeld => ?_)
          clear hK K
          refine wpAnyH_ready (rs := [5]) (by kernel_rfl) (by simp) ?_
          refine AllReadyH.cons rfl (fun K hK => ?_) AllReadyH.nil
          rw [if_pos (by rfl)]
          refine wp_append_lies _ _ _ 40 rfl base 9 i9 (.string ByteArray.empty) 1 16 Try.underlying40 hi9.out hz0.out hz1.out hz2.out rfl (by decide) vp j XS rfl (HO6.out.alloc _) ⟨w6.heap.size, 0, none⟩ 1 1 [.string X] rfl rfl (World.news_of_block (heap_alloc_new w6 _)) (by intro u hu; simp at hu; subst hu; rfl) (by decide) (by simp [maxLen]; omega) (by omega) (by have := HBS.out; have := HG6.out.size; simp at this ⊢; omega) _ rfl ?_
          intro g9 cap9 w9 hown9 hg9 hor9 hlt9
          simp only [Act.put]
          have HO9 := hid_in hown9
          have HGR9 := hid_in hg9
          have hrg9 : Row w9 G RG 42 := (HRG6.out.alloc _).grown HGR9.out (fun h => by have := (own_geK HO6.out G h.symm).1; have := HGS.out; omega)
          have cG9 : w9.cell? ⟨G, 4, none⟩ = some vp := HR3g.out hrg9
          have fG9 := hrg9.frozen 4
          clear hown9 hg9 hor9 hlt9 hrg9
          refine hK.out _ _ trivial (fun hHeld => ?_)
          clear hK K
          refine take_put (i := 6) (d := 40) (v := ?_) rfl rfl (by kernel_rfl) (by kernel_rfl) (by kernel_rfl) (fun _ _ _ h => h) (Or.inl ⟨by kernel_rfl, ?_⟩) hHeld ?_
          rotate_left
          · (intro w hSw; (try dsimp only at hSw); go_simp; (try with_reducible rfl))
          simp only [Act.put]
          refine wpAnyH_ready (rs := [7]) (by kernel_rfl) (by simp) ?_
          refine AllReadyH.cons rfl (fun K hK => ?_) AllReadyH.nil
          rw [if_pos (by rfl)]
          go_simp
          refine hK.out _ _ trivial (fun hHeld => ?_)
          clear hK K
          refine wpAnyH_done (by kernel_rfl) ?_ _
          go_wp2_with fail
          go_roundw
          case measure => simp [intOf]; omega
          case rel =>
            go_light
            refine ⟨j + 1, by go_num, by omega, ?_⟩
            exact HU.out.step HKI.out HGS.out HX.out HXS.out H6.out HG6.out (by rw [HRGE.out]; exact HRG6.out) HO6.out HGR9.out HO9.out
        · rw [if_pos (by rfl)]
          go_simp
          refine HD.out.mono ?_
          rintro e w6 ⟨rfl, h1, h2⟩
          have H6 := hid_in h1
          have HG6 := hid_in h2
          clear h1 h2
          have HO6 := hid_in (own_grewK HOWN.out HG6.out (fun q hq h => by have h1 := (own_geK HOWN.out q hq).1; have h2 : q = g := h; have := HGS.out; omega))
          have hrg6 : Row w6 G RG 42 := HRGD.out.grew HG6.out (by show ¬ G = g; have := HGS.out; omega)
          have HRG6 := hid_in hrg6
          have cG6 : w6.cell? ⟨G, 4, none⟩ = some vp := HR3g.out hrg6
          clear hrg6
          go_simp
          refine hK.out _ _ trivial (fun hHeld => ?_)
          clear hK K
          refine wpAnyH_ready (rs := [1, 4]) (by kernel_rfl) (by simp) ?_
          refine AllReadyH.cons rfl (fun K hK => ?_) (AllReadyH.cons rfl (fun K hK => ?_) AllReadyH.nil)
          · rw [if_pos (by rfl)]
            go_simp
            refine hK.out _ _ trivial (fun hHeld => ?_)
            clear hK K
            refine wpAnyH_ready (rs := [4]) (by kernel_rfl) (by simp) ?_
            refine AllReadyH.cons rfl (fun K hK => ?_) AllReadyH.nil
            rw [if_pos (by rfl)]
            refine wp_slice1 40 _ rfl _ _ _ rfl (slice40 X _) ?_
            simp only [Act.put, List.setIfInBounds_toArray]
            have cG7 : (w6.alloc (.cells #[.string X] 9)).cell? ⟨G, 4, none⟩ = some vp := (Below.cell ((Below.refl w6.heap.size w6).alloc (Nat.le_refl _) _) (p := ⟨G, 4, none⟩) HRG6.out.lt).trans cG6
            refine hK.out _ _ trivial (fun hHeld => ?_)
            clear hK K
            refine wpAnyH_ready (rs := [5]) (by kernel_rfl) (by simp) ?_
            refine AllReadyH.cons rfl (fun K hK => ?_) AllReadyH.nil
            rw [if_pos (by rfl)]
            refine wp_append_lies _ _ _ 40 rfl base 9 i9 (.string ByteArray.empty) 1 16 Try.underlying40 hi9.out hz0.out hz1.out hz2.out rfl (by decide) vp j XS rfl (HO6.out.alloc _) ⟨w6.heap.size, 0, none⟩ 1 1 [.string X] rfl rfl (World.news_of_block (heap_alloc_new w6 _)) (by intro u hu; simp at hu; subst hu; rfl) (by decide) (by simp [maxLen]; omega) (by omega) (by have := HBS.out; have := HG6.out.size; simp at this ⊢; omega) _ rfl ?_
            intro g9 cap9 w9 hown9 hg9 hor9 hlt9
            simp only [Act.put]
            have HO9 := hid_in hown9
            have HGR9 := hid_in hg9
            have hrg9 : Row w9 G RG 42 := (HRG6.out.alloc _).grown HGR9.out (fun h => by have := (own_geK HO6.out G h.symm).1; have := HGS.out; omega)
            have cG9 : w9.cell? ⟨G, 4, none⟩ = some vp := HR3g.out hrg9
            have fG9 := hrg9.frozen 4
            clear hown9 hg9 hor9 hlt9 hrg9
            refine hK.out _ _ trivial (fun hHeld => ?_)
            clear hK K
            refine take_put (i := 6) (d := 40) (v := ?_) rfl rfl (by kernel_rfl) (by kernel_rfl) (by kernel_rfl) (fun _ _ _ h => h) (Or.inl ⟨by kernel_rfl, ?_⟩) hHeld ?_
            rotate_left
            · (intro w hSw; (try dsimp only at hSw); go_simp; (try with_reducible rfl))
            simp only [Act.put]
            refine wpAnyH_ready (rs := [7]) (by kernel_rfl) (by simp) ?_
            refine AllReadyH.cons rfl (fun K hK => ?_) AllReadyH.nil
            rw [if_pos (by rfl)]
            go_simp
            refine hK.out _ _ trivial (fun hHeld => ?_)
            clear hK K
            refine wpAnyH_done (by kernel_rfl) ?_ _
            go_wp2_with fail
            go_roundw
            case measure => simp [intOf]; omega
            case rel =>
              go_light
              refine ⟨j + 1, by go_num, by omega, ?_⟩
              exact HU.out.step HKI.out HGS.out HX.out HXS.out H6.out HG6.out (by rw [HRGE.out]; exact HRG6.out) HO6.out HGR9.out HO9.out
          · rw [if_pos (by rfl)]
            refine wp_slice1 40 _ rfl _ _ _ rfl (slice40 X _) ?_
            simp only [Act.put, List.setIfInBounds_toArray]
            have cG7 : (w6.alloc (.cells #[.string X] 9)).cell? ⟨G, 4, none⟩ = some vp := (Below.cell ((Below.refl w6.heap.size w6).alloc (Nat.le_refl _) _) (p := ⟨G, 4, none⟩) HRG6.out.lt).trans cG6
            refine hK.out _ _ trivial (fun hHeld => ?_)
            clear hK K
            refine wpAnyH_ready (rs := [1]) (by kernel_rfl) (by simp) ?_
            refine AllReadyH.cons rfl (fun K hK => ?_) AllReadyH.nil
            rw [if_pos (by rfl)]
            go_simp
            refine hK.out _ _ trivial (fun hHeld => ?_)
            clear hK K
            refine wpAnyH_ready (rs := [5]) (by kernel_rfl) (by simp) ?_
            refine AllReadyH.cons rfl (fun K hK => ?_) AllReadyH.nil
            rw [if_pos (by rfl)]
            refine wp_append_lies _ _ _ 40 rfl base 9 i9 (.string ByteArray.empty) 1 16 Try.underlying40 hi9.out hz0.out hz1.out hz2.out rfl (by decide) vp j XS rfl (HO6.out.alloc _) ⟨w6.heap.size, 0, none⟩ 1 1 [.string X] rfl rfl (World.news_of_block (heap_alloc_new w6 _)) (by intro u hu; simp at hu; subst hu; rfl) (by decide) (by simp [maxLen]; omega) (by omega) (by have := HBS.out; have := HG6.out.size; simp at this ⊢; omega) _ rfl ?_
            intro g9 cap9 w9 hown9 hg9 hor9 hlt9
            simp only [Act.put, List.setIfInBounds_toArray]
            have HO9 := hid_in hown9
            have HGR9 := hid_in hg9
            have hrg9 : Row w9 G RG 42 := (HRG6.out.alloc _).grown HGR9.out (fun h => by have := (own_geK HO6.out G h.symm).1; have := HGS.out; omega)
            have cG9 : w9.cell? ⟨G, 4, none⟩ = some vp := HR3g.out hrg9
            have fG9 := hrg9.frozen 4
            clear hown9 hg9 hor9 hlt9 hrg9
            refine hK.out _ _ trivial (fun hHeld => ?_)
            clear hK K
            refine take_put (i := 6) (d := 40) (v := ?_) rfl rfl (by kernel_rfl) (by kernel_rfl) (by kernel_rfl) (fun _ _ _ h => h) (Or.inl ⟨by kernel_rfl, ?_⟩) hHeld ?_
            rotate_left
            · (intro w hSw; (try dsimp only at hSw); go_simp; (try with_reducible rfl))
            simp only [Act.put]
            refine wpAnyH_ready (rs := [7]) (by kernel_rfl) (by simp) ?_
            refine AllReadyH.cons rfl (fun K hK => ?_) AllReadyH.nil
            rw [if_pos (by rfl)]
            go_simp
            refine hK.out _ _ trivial (fun hHeld => ?_)
            clear hK K
            refine wpAnyH_done (by kernel_rfl) ?_ _
            go_wp2_with fail
            go_roundw
            case measure => simp [intOf]; omega
            case rel =>
              go_light
              refine ⟨j + 1, by go_num, by omega, ?_⟩
              exact HU.out.step HKI.out HGS.out HX.out HXS.out H6.out HG6.out (by rw [HRGE.out]; exact HRG6.out) HO6.out HGR9.out HO9.out

      · obtain rfl : j = N := by omega
        have k2 : ¬ ((j : Int) < (j : Int)) := by omega
        obtain ⟨vp, hrow, hown⟩ := HU.out.row
        obtain ⟨pv, cv, bv, ov, hvp, _, _, _, _⟩ := own_strs (base := base) (ns := (sTexts j s5).1) (own_len hown (sTexts_length j s5).symm)
        subst hvp
        have n1 : w.heap.size ≠ G := by have := HGS.out; omega
        have n2 : G ≠ w.heap.size := by have := HGS.out; omega
        have z0 : wr.cell? ⟨w.heap.size, 0, none⟩ = some (.int .i64 0) := HU.out.z.cell 0
        have z1 : wr.cell? ⟨w.heap.size, 1, none⟩ = some (.bool false) := HU.out.z.cell 1
        have z2 : wr.cell? ⟨w.heap.size, 2, none⟩ = some (.int .i64 0) := HU.out.z.cell 2
        have z3 : wr.cell? ⟨w.heap.size, 3, none⟩ = some (.string ⟨#[]⟩) := HU.out.z.cell 3
        have z4 : wr.cell? ⟨w.heap.size, 4, none⟩ = some (.slice none 0 0) := HU.out.z.cell 4
        have q0 := HU.out.z.frozen 0
        have q1 := HU.out.z.frozen 1
        have q2 := HU.out.z.frozen 2
        have q3 := HU.out.z.frozen 3
        have q4 := HU.out.z.frozen 4
        have d0 : wr.cell? ⟨G, 0, none⟩ = some (.int .i64 a1) := hrow.cell 0
        have d1 : wr.cell? ⟨G, 1, none⟩ = some (.bool f2) := hrow.cell 1
        have d2 : wr.cell? ⟨G, 2, none⟩ = some (.int .i64 a3) := hrow.cell 2
        have d3 : wr.cell? ⟨G, 3, none⟩ = some (.string x4) := hrow.cell 3
        have d4 : wr.cell? ⟨G, 4, none⟩ = some (.slice pv (sTexts j s5).1.length cv) := hrow.cell 4
        obtain ⟨⟨l6, e6⟩, HS6⟩ : ∃ t, Hid ((sTexts j s5).2 = t) := ⟨_, rfl⟩
        have hin : RI w.heap.size wr g (l6, e6) := by have h := HU.out.ri; rw [HS6.out] at h; exact h
        have cg2 := hin.at2
        have HL := hid_in (rleft_t wr g w.heap.size l6 e6 hin)
        have HOWN := hid_in hown
        have HROW := hid_in hrow
        clear hin hrow hown
        by_cases he : e6 = 0
        · subst he
          by_cases hl : l6 = []
          · subst hl
            have HY : Hid (okR bs) := HOKR.out.2 ⟨HM.out, HS6.out⟩
            have HL0 : Hid (Calls Try.prog 41 #[.pointer (some ⟨g, 0, none⟩)] wr fun rr w' => rr = .returned (.int .i64 0) ∧ w' = wr.drew) := HL.out
            clear HL
            have HL := HL0
            clear HL0
            go_wp2_with (first | (go_at_call 41; refine HL.out.mono ?_; rintro e wl ⟨rfl, hwl⟩; have HZD : Hid (Row wl w.heap.size zR 42) := (by rw [hwl]; exact HU.out.z.drew); have HGD : Hid (Row wl G [.int .i64 a1, .bool f2, .int .i64 a3, .string x4, .slice pv (sTexts j s5).1.length cv] 42) := (by rw [hwl]; exact HROW.out.drew); have HBD : Hid (Below w.heap.size w wl) := (by rw [hwl]; exact HU.out.below.drew); have HOD : Hid (wl.ownsRow base 9 1 (.slice pv (sTexts j s5).1.length cv) j ((sTexts j s5).1.map Value.string)) := (by rw [hwl]; exact own_belowK HOWN.out ((Below.refl _ wr).drew)); clear hwl; clear z0 z1 z2 z3 z4 q0 q1 q2 q3 q4 d0 d1 d2 d3 d4; have z0 : wl.cell? ⟨w.heap.size, 0, none⟩ = some (.int .i64 0) := HZD.out.cell 0; have z1 : wl.cell? ⟨w.heap.size, 1, none⟩ = some (.bool false) := HZD.out.cell 1; have z2 : wl.cell? ⟨w.heap.size, 2, none⟩ = some (.int .i64 0) := HZD.out.cell 2; have z3 : wl.cell? ⟨w.heap.size, 3, none⟩ = some (.string ⟨#[]⟩) := HZD.out.cell 3; have z4 : wl.cell? ⟨w.heap.size, 4, none⟩ = some (.slice none 0 0) := HZD.out.cell 4; have q0 := HZD.out.frozen 0; have q1 := HZD.out.frozen 1; have q2 := HZD.out.frozen 2; have q3 := HZD.out.frozen 3; have q4 := HZD.out.frozen 4; have d0 : wl.cell? ⟨G, 0, none⟩ = some (.int .i64 a1) := HGD.out.cell 0; have d1 : wl.cell? ⟨G, 1, none⟩ = some (.bool f2) := HGD.out.cell 1; have d2 : wl.cell? ⟨G, 2, none⟩ = some (.int .i64 a3) := HGD.out.cell 2; have d3 : wl.cell? ⟨G, 3, none⟩ = some (.string x4) := HGD.out.cell 3; have d4 : wl.cell? ⟨G, 4, none⟩ = some (.slice pv (sTexts j s5).1.length cv) := HGD.out.cell 4; skip))
            have HF := hid_in (set5 HZD.out (.int .i64 a1) (.bool f2) (.int .i64 a3) (.string x4) (.slice pv (sTexts j s5).1.length cv))
            refine post_Row2 2 3 42 Try.results23 w.heap.size rfl 42 _ HF.out.1 _ Try.underlying42 rfl 5 info42 rfl rfl ?_
            have h3 := own_grewK HOD.out (grew_of_grownS HF.out.2) (fun q hq e => by have h4 := (own_geK HOD.out q hq).1; have h5 : q = w.heap.size := e; have := HGS.out; omega)
            exact ⟨.inl ⟨HY.out, _, rfl, own_strs (base := base) (own_len h3 (sTexts_length j s5).symm)⟩, HBD.out.grown HF.out.2 HBD.out.size (fun k e => by cases e; exact Nat.le_refl _)⟩
          · have HY : Hid (¬ okR bs) := fun h => hl (by have h2 := (HOKR.out.1 h).2; rw [HS6.out] at h2; exact (Prod.mk.inj h2).1)
            have hl1 : ((l6.length : Int) == 0) = false := by
              rw [beq_eq_false_iff_ne]
              have := List.length_pos_iff.2 hl
              omega
            have hl2 : ((l6.length : Int) != 0) = true := by
              rw [bne_iff_ne]
              have := List.length_pos_iff.2 hl
              omega
            clear hl
            generalize hLL : (l6.length : Int) = LL at *
            clear hLL
            go_wp2_with (first | (go_at_call 41; refine HL.out.mono ?_; rintro e wl ⟨rfl, hwl⟩; have HZD : Hid (Row wl w.heap.size zR 42) := (by rw [hwl]; exact HU.out.z.drew); have HGD : Hid (Row wl G [.int .i64 a1, .bool f2, .int .i64 a3, .string x4, .slice pv (sTexts j s5).1.length cv] 42) := (by rw [hwl]; exact HROW.out.drew); have HBD : Hid (Below w.heap.size w wl) := (by rw [hwl]; exact HU.out.below.drew); have HOD : Hid (wl.ownsRow base 9 1 (.slice pv (sTexts j s5).1.length cv) j ((sTexts j s5).1.map Value.string)) := (by rw [hwl]; exact own_belowK HOWN.out ((Below.refl _ wr).drew)); clear hwl; clear z0 z1 z2 z3 z4 q0 q1 q2 q3 q4 d0 d1 d2 d3 d4; have z0 : wl.cell? ⟨w.heap.size, 0, none⟩ = some (.int .i64 0) := HZD.out.cell 0; have z1 : wl.cell? ⟨w.heap.size, 1, none⟩ = some (.bool false) := HZD.out.cell 1; have z2 : wl.cell? ⟨w.heap.size, 2, none⟩ = some (.int .i64 0) := HZD.out.cell 2; have z3 : wl.cell? ⟨w.heap.size, 3, none⟩ = some (.string ⟨#[]⟩) := HZD.out.cell 3; have z4 : wl.cell? ⟨w.heap.size, 4, none⟩ = some (.slice none 0 0) := HZD.out.cell 4; have q0 := HZD.out.frozen 0; have q1 := HZD.out.frozen 1; have q2 := HZD.out.frozen 2; have q3 := HZD.out.frozen 3; have q4 := HZD.out.frozen 4; have d0 : wl.cell? ⟨G, 0, none⟩ = some (.int .i64 a1) := HGD.out.cell 0; have d1 : wl.cell? ⟨G, 1, none⟩ = some (.bool f2) := HGD.out.cell 1; have d2 : wl.cell? ⟨G, 2, none⟩ = some (.int .i64 a3) := HGD.out.cell 2; have d3 : wl.cell? ⟨G, 3, none⟩ = some (.string x4) := HGD.out.cell 3; have d4 : wl.cell? ⟨G, 4, none⟩ = some (.slice pv (sTexts j s5).1.length cv) := HGD.out.cell 4; skip))
            have HF := hid_in (set5 HZD.out (.int .i64 0) (.bool false) (.int .i64 0) (.string ⟨#[]⟩) (.slice none 0 0))
            refine post_Row2 2 3 42 Try.results23 w.heap.size rfl 42 _ HF.out.1 _ Try.underlying42 rfl 5 info42 rfl rfl ?_
            exact ⟨.inr ⟨HY.out, rfl⟩, HBD.out.grown HF.out.2 HBD.out.size (fun k e => by cases e; exact Nat.le_refl _)⟩
        · have HY : Hid (¬ okR bs) := fun h => he (by have h2 := (HOKR.out.1 h).2; rw [HS6.out] at h2; exact (Prod.mk.inj h2).2)
          have he1 : ((e6 : Int) == 0) = false := by rw [beq_eq_false_iff_ne]; omega
          have he2 : ((e6 : Int) != 0) = true := by rw [bne_iff_ne]; omega
          clear he
          go_wp2_with fail
          have HF := hid_in (set5 HU.out.z (.int .i64 0) (.bool false) (.int .i64 0) (.string ⟨#[]⟩) (.slice none 0 0))
          refine post_Row2 2 3 42 Try.results23 w.heap.size rfl 42 _ HF.out.1 _ Try.underlying42 rfl 5 info42 rfl rfl ?_
          exact ⟨.inr ⟨HY.out, rfl⟩, HU.out.below.grown HF.out.2 HU.out.below.size (fun k e => by cases e; exact Nat.le_refl _)⟩
end Go.Proofs.Ytjlhjpooggkkoaa.Nd
