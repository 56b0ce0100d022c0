/-
  The walk of Node: what it answers, whatever plain data it is given.
-/
import Derived.Test.YtbccjomnfclkdaaN23d
import Derived.Deep.CutRange
namespace Go.Proofs.Ytbccjomnfclkdaa
open Go.RowKit
set_option maxHeartbeats 8000000 in
set_option maxRecDepth 100000 in
theorem node_any (w : World) (k s : Int) (d : ByteArray) (vP vN vK vS : Value) (ps : List (List Nat)) (ns : List ByteArray) (ks : List Int) (ss : List (List Nat)) (hP : Bss w vP ps) (hN : Strs w vN ns) (hK : Ints w vK ks) (hS : Bss w vS ss) (hki : i64 k) (hsi : i64 s) (hkk : ∀ x ∈ ks, i64 x) (lP : ps.length ≤ 1048576) (lN : ns.length ≤ 1048576) :
    Calls Try.prog 10 #[.agg #[.int .i64 k, .string d, .int .i64 s, vP, vN, vK, vS]] w fun e w' => ∃ v, e = .returned v ∧ IsN w' v (toNode k d s ps ns ks ss) ∧ Fresh w.heap.size v ∧ Below w.heap.size w w' := by
  have hP0 := hP
  have hS0 := hS
  obtain ⟨pP, cP, bP, oP, rfl, hcP, hmP, hpP, hatP⟩ := hP
  obtain ⟨pN, cN, bN, oN, rfl, hcN, hmN, hpN, hatN⟩ := hN
  obtain ⟨pK, cK, bK, oK, rfl, hcK, hmK, hpK, hatK⟩ := hK
  obtain ⟨pS, cS, bS, oS, rfl, hcS, hmS, hpS, hatS⟩ := hS
  obtain ⟨W, HW, hr, hz, hg, hb, hs⟩ := three_rowsN w [.int .i64 k, .string d, .int .i64 s, .slice pP ps.length cP, .slice pN ns.length cN, .slice pK ks.length cK, .slice pS ss.length cS] [.int .i64 k, .string d, .int .i64 s, .slice none 0 0, .slice none 0 0]
  obtain ⟨ie, hie, hz1, hz2, hz3⟩ := info49h
  obtain ⟨ze, hz4, hz5⟩ := hz3.out
  have HZ4 := hid_in hz4
  have HZ5 := hid_in hz5
  obtain ⟨je, hje, hy1, hy2, hy3⟩ := info51h
  obtain ⟨ye, hy4, hy5⟩ := hy3.out
  have HY4 := hid_in hy4
  have HY5 := hid_in hy5
  have HGB : Hid (w.heap.size < w.heap.size + 1 + 1 ∧ w.heap.size + 1 < w.heap.size + 1 + 1 ∧ w.heap.size + 1 + 1 < W.heap.size) := ⟨by omega, by omega, by omega⟩
  have HP0 : Hid (NInv w [.int .i64 k, .string d, .int .i64 s, .slice pP ps.length cP, .slice pN ns.length cN, .slice pK ks.length cK, .slice pS ss.length cS] (w.heap.size + 1 + 1) W.heap.size k s d ps ns ks ss 0 0 W) := ⟨⟨.slice none 0 0, .slice none 0 0, hg, by simpa using World.ownsRow_nil W _ 49 32, by simpa [itemsTo] using World.ownsRow_nil W _ 51 34, fun q hq => by cases hq⟩, hr, hz, hb, Nat.le_refl _⟩
  have HLP := hid_in (Bss.lt hP0)
  have HLS := hid_in (Bss.lt hS0)
  clear hP0 hS0
  have HATP := hid_in hatP
  have HATN := hid_in hatN
  have HATK := hid_in hatK
  have HATS := hid_in hatS
  have HPP := hid_in hpP
  have HPN := hid_in hpN
  have HPK := hid_in hpK
  have HPS := hid_in hpS
  have HKI := hid_in (And.intro hki (And.intro hsi hkk))
  clear hr hz hg hb hs hatP hatN hatK hatS hpP hpN hpK hpS hz4 hz5 hz3 hy4 hy5 hy3 hki hsi hkk
  go_enter Try.func10, Try.ntmps10
  go_upto_region 2 with fail
  refine wp_world HW.out ?_
  clear HW
  generalize W.heap.size = base at *
  obtain ⟨G, hGG⟩ : ∃ G, w.heap.size + 1 + 1 = G := ⟨_, rfl⟩
  rw [hGG] at HGB HP0 ⊢
  clear hGG
  go_wp2_with fail
  go_loopw [4] (fun vi W' => ∃ j : Nat, vi = .int .i64 (j : Int) ∧ j ≤ ps.length ∧ Hid (NInv w [.int .i64 k, .string d, .int .i64 s, .slice pP ps.length cP, .slice pN ns.length cN, .slice pK ks.length cK, .slice pS ss.length cS] G base k s d ps ns ks ss j 0 W')) (fun vi _ => ps.length - (intOf vi).toNat)
  case atStart => exact ⟨0, rfl, by omega, HP0⟩
  case round =>
    obtain ⟨j, rfl, hj, hI⟩ := hrel
    clear HP0
    have c3 : wr.cell? ⟨w.heap.size, 3, none⟩ = some (.slice pP ps.length cP) := hI.out.r.cell 3
    by_cases hlt : j < ps.length
    · obtain ⟨bs, hbs⟩ : ∃ bs, ps[j]? = some bs := ⟨_, List.getElem?_eq_getElem hlt⟩
      have hne : ps ≠ [] := by intro h; rw [h] at hbs; simp at hbs
      obtain ⟨hq1, hq2⟩ := HPP.out hne
      subst hq1
      obtain ⟨q, c, b1, o1, hc1, hsl1⟩ := HATP.out j bs hbs
      have HKK : Hid (∀ W', Below G wr W' → W'.cell? ⟨w.heap.size, 3, none⟩ = some (.slice (some ⟨bP, oP, none⟩) ps.length cP) ∧ W'.cell? ⟨bP, oP + j, none⟩ = some (.slice q bs.length c)) := fun W' hW => ⟨(hW.cell (p := ⟨w.heap.size, 3, none⟩) HGB.out.1).trans c3, (hW.cell (p := ⟨bP, oP + j, none⟩) (Nat.lt_trans hq2 HGB.out.1)).trans ((hI.out.below.cell (p := ⟨bP, oP + j, none⟩) hq2).trans hc1)⟩
      have hslr := (hsl1.below hI.out.below).below (below_drewN (Below.refl _ wr) 1)
      have HFD := hid_in (fold_d bs q b1 o1 c wr.drew hslr)
      obtain ⟨vp, vi, hrow, hown, hoo, hap⟩ := hI.out.row
      have HBS : Hid (base ≤ wr.heap.size) := hI.out.size
      have HGW : Hid (G ≤ wr.heap.size) := Nat.le_of_lt hrow.lt
      have HBG0 : Hid (Below G wr wr.drew) := below_drewN (Below.refl _ wr) 1
      have HRGD := hid_in hrow
      have cG0 : wr.cell? ⟨G, 3, none⟩ = some vp := hrow.cell 3
      have HOWN := hid_in hown
      have HOO := hid_in hoo
      have HAP := hid_in hap
      have HE1 : Hid (∀ v ∈ dcells (fold bs), v.oneCell' = true) := one_u8 _
      have HEL : Hid ((dcells (fold bs)).length = 32) := dcells_length (fold_length bs)
      have HXS : Hid (((ps.take (j + 1)).map (fun b => dcells (fold b))).flatten = ((ps.take j).map (fun b => dcells (fold b))).flatten ++ dcells (fold bs)) := by show _ = _; rw [List.take_add_one, hbs]; simp
      obtain ⟨RG, HRGE⟩ : ∃ RG, Hid ([.int .i64 k, .string d, .int .i64 s, vp, vi] = RG) := ⟨_, rfl⟩
      have HR3 : Hid (∀ v, RG.set 3 v = [.int .i64 k, .string d, .int .i64 s, v, vi]) := fun v => by rw [← HRGE.out]; rfl
      have HR3g : Hid (∀ {W : World}, Row W G RG 31 → W.cell? ⟨G, 3, none⟩ = some vp) := fun h => by rw [h.cell, ← HRGE.out]; rfl
      rw [HRGE.out] at HRGD
      generalize dcells (fold bs) = D at *
      generalize ((ps.take j).map (fun b => dcells (fold b))).flatten = XS at *
      clear hrow hown hoo hap hslr hsl1 hc1 hbs hne hq2
      go_upto_region 5 with fail
      refine wp_region_held_drew (S := fun W' => W'.cell? ⟨w.heap.size, 3, none⟩ = some (.slice (some ⟨bP, oP, none⟩) ps.length cP) ∧ W'.cell? ⟨bP, oP + j, none⟩ = some (.slice q bs.length c)) (by kernel_rfl) (HKK.out _ HBG0.out) (fun hHeld => ?_)
      refine take_put (i := 0) (d := 21) (v := ?_) rfl rfl (by kernel_rfl) (by kernel_rfl) (by kernel_rfl) (fun _ _ _ h => h) (Or.inl ⟨by kernel_rfl, ?_⟩) hHeld ?_
      rotate_left
      · (intro w hSw; (try dsimp only at hSw); go_simp; (try with_reducible rfl))
      simp only [Act.put, List.setIfInBounds_toArray, List.set_cons_zero, List.set_cons_succ]
      refine take_put (i := 2) (d := 23) (v := ?_) rfl rfl (by kernel_rfl) (by kernel_rfl) (by kernel_rfl) (fun _ _ _ h => h) (Or.inl ⟨by kernel_rfl, ?_⟩) hHeld ?_
      rotate_left
      · (intro w hSw; (try dsimp only at hSw); go_simp; (try with_reducible rfl))
      simp only [Act.put, List.setIfInBounds_toArray, List.set_cons_zero, List.set_cons_succ]
      refine take_put (i := 3) (d := 24) (v := ?_) rfl rfl (by kernel_rfl) (by kernel_rfl) (by kernel_rfl) (fun _ _ _ h => h) (Or.inl ⟨by kernel_rfl, ?_⟩) hHeld ?_
      rotate_left
      · (intro w hSw; (try dsimp only at hSw); go_simp; (try with_reducible rfl))
      simp only [Act.put, List.setIfInBounds_toArray, List.set_cons_zero, List.set_cons_succ]
      refine take_put (i := 4) (d := 25) (v := ?_) rfl rfl (by kernel_rfl) (by kernel_rfl) (by kernel_rfl) (fun _ _ _ h => h) (Or.inl ⟨by kernel_rfl, ?_⟩) hHeld ?_
      rotate_left
      · (intro w hSw; (try dsimp only at hSw); go_simp; (try with_reducible rfl))
      simp only [Act.put, List.setIfInBounds_toArray, List.set_cons_zero, List.set_cons_succ]
      refine take_put (i := 5) (d := 26) (v := ?_) rfl rfl (by kernel_rfl) (by kernel_rfl) (by kernel_rfl) (fun _ _ _ h => h) (Or.inl ⟨by kernel_rfl, ?_⟩) hHeld ?_
      rotate_left
      · (intro w hSw; (try dsimp only at hSw); go_simp; (try with_reducible rfl))
      simp only [Act.put, List.setIfInBounds_toArray, List.set_cons_zero, List.set_cons_succ]
      refine take_put (i := 6) (d := 27) (v := ?_) rfl rfl (by kernel_rfl) (by kernel_rfl) (by kernel_rfl) (fun _ _ _ h => h) (Or.inl ⟨by kernel_rfl, ?_⟩) hHeld ?_
      rotate_left
      · (intro w hSw; (try dsimp only at hSw); go_simp; (try with_reducible rfl))
      simp only [Act.put, List.setIfInBounds_toArray, List.set_cons_zero, List.set_cons_succ]
      refine wpAnyH_ready (rs := [1, 7]) (by kernel_rfl) (by simp) ?_
      refine AllReadyH.cons rfl (fun K hK => ?_) (AllReadyH.cons rfl (fun K hK => ?_) AllReadyH.nil)
      · rw [if_pos (by rfl)]
        go_simp
        refine hK.out _ _ (HKK.out _ HBG0.out) (fun hHeld => ?_)
        clear hK K
        refine wpAnyH_ready (rs := [7]) (by kernel_rfl) (by simp) ?_
        refine AllReadyH.cons rfl (fun K hK => ?_) AllReadyH.nil
        rw [if_pos (by rfl)]
        go_simp
        refine HFD.out.mono ?_
        rintro e w6 ⟨rfl, h2⟩
        have HB6 : Hid (Below wr.heap.size wr w6) := (below_drewN (Below.refl _ wr) 1).trans h2
        clear h2
        have HO6 := hid_in (own_belowK HOWN.out HB6.out)
        have HOO6 := hid_in (own_belowK HOO.out HB6.out)
        have hrg6 := HRGD.out.below HB6.out HRGD.out.lt
        have HRG6 := hid_in hrg6
        have cG6 : w6.cell? ⟨G, 3, none⟩ = some vp := HR3g.out hrg6
        clear hrg6
        go_simp
        refine hK.out _ _ (HKK.out _ (HB6.out.mono HGW.out)) (fun hHeld => ?_)
        clear hK K
        refine wpAnyH_ready (rs := [8]) (by kernel_rfl) (by simp) ?_
        refine AllReadyH.cons rfl (fun K hK => ?_) AllReadyH.nil
        rw [if_pos (by rfl)]
        refine wp_slice1 28 _ rfl _ _ _ rfl (slice28 D HEL.out _) ?_
        simp only [Act.put]
        have cG7 : (w6.alloc (.cells D.toArray 49)).cell? ⟨G, 3, none⟩ = some vp := (Below.cell ((Below.refl w6.heap.size w6).alloc (Nat.le_refl _) _) (p := ⟨G, 3, none⟩) HRG6.out.lt).trans cG6
        refine hK.out _ _ (HKK.out _ ((HB6.out.mono HGW.out).alloc (Nat.le_of_lt HRG6.out.lt) _)) (fun hHeld => ?_)
        clear hK K
        refine wpAnyH_ready (rs := [9]) (by kernel_rfl) (by simp) ?_
        refine AllReadyH.cons rfl (fun K hK => ?_) AllReadyH.nil
        rw [if_pos (by rfl)]
        refine wp_append_lies _ _ _ 28 rfl base 49 ie ze 32 32 Try.underlying28 hie.out HZ4.out hz1.out hz2.out HZ5.out (by decide) vp j XS rfl (HO6.out.alloc _) ⟨w6.heap.size, 0, none⟩ 1 1 D rfl (by rw [HEL.out]) (World.news_of_block (heap_alloc_new w6 _)) HE1.out (by decide) (by simp [maxLen]; omega) (by omega) (by have := HBS.out; have := HB6.out.size; simp at this ⊢; omega) _ rfl ?_
        intro g9 cap9 w9 hown9 hg9 hor9 hlt9
        simp only [Act.put]
        have HO9 := hid_in hown9
        have HGR9 := hid_in hg9
        have HOR9 := hid_in hor9
        have hrg9 : Row w9 G RG 31 := (HRG6.out.alloc _).grown HGR9.out (fun h => by have := own_geK HO6.out G h.symm; have := HGB.out; omega)
        have HRG9 := hid_in hrg9
        have cG9 : w9.cell? ⟨G, 3, none⟩ = some vp := HR3g.out hrg9
        have fG9 := hrg9.frozen 3
        have HB9 : Hid (Below G wr w9) := ((HB6.out.mono HGW.out).alloc (Nat.le_of_lt HRG6.out.lt) _).grown HGR9.out (by have := HRG6.out.lt; simp; omega) (fun q hq => by have := (own_geK HO6.out q hq).1; have := HGB.out; omega)
        clear hown9 hg9 hor9 hlt9 hrg9
        refine hK.out _ _ (HKK.out _ HB9.out) (fun hHeld => ?_)
        clear hK K
        refine take_put (i := 10) (d := 31) (v := ?_) rfl rfl (by kernel_rfl) (by kernel_rfl) (by kernel_rfl) (fun _ _ _ h => h) (Or.inl ⟨by kernel_rfl, ?_⟩) hHeld ?_
        rotate_left
        · (intro w hSw; (try dsimp only at hSw); go_simp; (try with_reducible rfl))
        simp only [Act.put, List.setIfInBounds_toArray]
        refine wpAnyH_ready (rs := [11]) (by kernel_rfl) (by simp) ?_
        refine AllReadyH.cons rfl (fun K hK => ?_) AllReadyH.nil
        rw [if_pos (by rfl)]
        go_simp
        refine hK.out _ _ (HKK.out _ (HB9.out.grown (grownBy_setCell _ _ _) (Nat.le_trans HGW.out HB9.out.size) (fun q hq => by cases hq; exact Nat.le_refl _))) (fun hHeld => ?_)
        clear hK K
        refine wpAnyH_done (by kernel_rfl) ?_ _
        go_wp2_with fail
        go_roundw
        case measure => simp [intOf]; omega
        case rel =>
          go_light
          refine ⟨j + 1, by go_num, by omega, (?_ : NInv _ _ _ _ _ _ _ _ _ _ _ _ _ _)⟩
          obtain ⟨q1, q2, q3, q4, q5, q6, q7⟩ := app_stepN (fld := 3) (o := .cells D.toArray 49) HGB.out.1 HGB.out.2.1 HGB.out.2.2 (Nat.le_refl _) hI.out.r hI.out.z hI.out.below HBS.out HB6.out HRG6.out HO6.out HOO6.out HAP.out HGR9.out HRG9.out HO9.out
          rw [HR3.out] at q1
          exact ⟨⟨_, _, q1, by rw [HXS.out]; exact q2, q3, sep_step HAP.out HOO6.out HOR9.out⟩, q4, q5, q6, q7⟩
      · rw [if_pos (by rfl)]
        go_simp
        refine HFD.out.mono ?_
        rintro e w6 ⟨rfl, h2⟩
        have HB6 : Hid (Below wr.heap.size wr w6) := (below_drewN (Below.refl _ wr) 1).trans h2
        clear h2
        have HO6 := hid_in (own_belowK HOWN.out HB6.out)
        have HOO6 := hid_in (own_belowK HOO.out HB6.out)
        have hrg6 := HRGD.out.below HB6.out HRGD.out.lt
        have HRG6 := hid_in hrg6
        have cG6 : w6.cell? ⟨G, 3, none⟩ = some vp := HR3g.out hrg6
        clear hrg6
        go_simp
        refine hK.out _ _ (HKK.out _ (HB6.out.mono HGW.out)) (fun hHeld => ?_)
        clear hK K
        refine wpAnyH_ready (rs := [1, 8]) (by kernel_rfl) (by simp) ?_
        refine AllReadyH.cons rfl (fun K hK => ?_) (AllReadyH.cons rfl (fun K hK => ?_) AllReadyH.nil)
        · rw [if_pos (by rfl)]
          go_simp
          refine hK.out _ _ (HKK.out _ (HB6.out.mono HGW.out)) (fun hHeld => ?_)
          clear hK K
          refine wpAnyH_ready (rs := [8]) (by kernel_rfl) (by simp) ?_
          refine AllReadyH.cons rfl (fun K hK => ?_) AllReadyH.nil
          rw [if_pos (by rfl)]
          refine wp_slice1 28 _ rfl _ _ _ rfl (slice28 D HEL.out _) ?_
          simp only [Act.put]
          have cG7 : (w6.alloc (.cells D.toArray 49)).cell? ⟨G, 3, none⟩ = some vp := (Below.cell ((Below.refl w6.heap.size w6).alloc (Nat.le_refl _) _) (p := ⟨G, 3, none⟩) HRG6.out.lt).trans cG6
          refine hK.out _ _ (HKK.out _ ((HB6.out.mono HGW.out).alloc (Nat.le_of_lt HRG6.out.lt) _)) (fun hHeld => ?_)
          clear hK K
          refine wpAnyH_ready (rs := [9]) (by kernel_rfl) (by simp) ?_
          refine AllReadyH.cons rfl (fun K hK => ?_) AllReadyH.nil
          rw [if_pos (by rfl)]
          refine wp_append_lies _ _ _ 28 rfl base 49 ie ze 32 32 Try.underlying28 hie.out HZ4.out hz1.out hz2.out HZ5.out (by decide) vp j XS rfl (HO6.out.alloc _) ⟨w6.heap.size, 0, none⟩ 1 1 D rfl (by rw [HEL.out]) (World.news_of_block (heap_alloc_new w6 _)) HE1.out (by decide) (by simp [maxLen]; omega) (by omega) (by have := HBS.out; have := HB6.out.size; simp at this ⊢; omega) _ rfl ?_
          intro g9 cap9 w9 hown9 hg9 hor9 hlt9
          simp only [Act.put]
          have HO9 := hid_in hown9
          have HGR9 := hid_in hg9
          have HOR9 := hid_in hor9
          have hrg9 : Row w9 G RG 31 := (HRG6.out.alloc _).grown HGR9.out (fun h => by have := own_geK HO6.out G h.symm; have := HGB.out; omega)
          have HRG9 := hid_in hrg9
          have cG9 : w9.cell? ⟨G, 3, none⟩ = some vp := HR3g.out hrg9
          have fG9 := hrg9.frozen 3
          have HB9 : Hid (Below G wr w9) := ((HB6.out.mono HGW.out).alloc (Nat.le_of_lt HRG6.out.lt) _).grown HGR9.out (by have := HRG6.out.lt; simp; omega) (fun q hq => by have := (own_geK HO6.out q hq).1; have := HGB.out; omega)
          clear hown9 hg9 hor9 hlt9 hrg9
          refine hK.out _ _ (HKK.out _ HB9.out) (fun hHeld => ?_)
          clear hK K
          refine take_put (i := 10) (d := 31) (v := ?_) rfl rfl (by kernel_rfl) (by kernel_rfl) (by kernel_rfl) (fun _ _ _ h => h) (Or.inl ⟨by kernel_rfl, ?_⟩) hHeld ?_
          rotate_left
          · (intro w hSw; (try dsimp only at hSw); go_simp; (try with_reducible rfl))
          simp only [Act.put, List.setIfInBounds_toArray]
          refine wpAnyH_ready (rs := [11]) (by kernel_rfl) (by simp) ?_
          refine AllReadyH.cons rfl (fun K hK => ?_) AllReadyH.nil
          rw [if_pos (by rfl)]
          go_simp
          refine hK.out _ _ (HKK.out _ (HB9.out.grown (grownBy_setCell _ _ _) (Nat.le_trans HGW.out HB9.out.size) (fun q hq => by cases hq; exact Nat.le_refl _))) (fun hHeld => ?_)
          clear hK K
          refine wpAnyH_done (by kernel_rfl) ?_ _
          go_wp2_with fail
          go_roundw
          case measure => simp [intOf]; omega
          case rel =>
            go_light
            refine ⟨j + 1, by go_num, by omega, (?_ : NInv _ _ _ _ _ _ _ _ _ _ _ _ _ _)⟩
            obtain ⟨q1, q2, q3, q4, q5, q6, q7⟩ := app_stepN (fld := 3) (o := .cells D.toArray 49) HGB.out.1 HGB.out.2.1 HGB.out.2.2 (Nat.le_refl _) hI.out.r hI.out.z hI.out.below HBS.out HB6.out HRG6.out HO6.out HOO6.out HAP.out HGR9.out HRG9.out HO9.out
            rw [HR3.out] at q1
            exact ⟨⟨_, _, q1, by rw [HXS.out]; exact q2, q3, sep_step HAP.out HOO6.out HOR9.out⟩, q4, q5, q6, q7⟩
        · rw [if_pos (by rfl)]
          refine wp_slice1 28 _ rfl _ _ _ rfl (slice28 D HEL.out _) ?_
          simp only [Act.put]
          have cG7 : (w6.alloc (.cells D.toArray 49)).cell? ⟨G, 3, none⟩ = some vp := (Below.cell ((Below.refl w6.heap.size w6).alloc (Nat.le_refl _) _) (p := ⟨G, 3, none⟩) HRG6.out.lt).trans cG6
          refine hK.out _ _ (HKK.out _ ((HB6.out.mono HGW.out).alloc (Nat.le_of_lt HRG6.out.lt) _)) (fun hHeld => ?_)
          clear hK K
          refine wpAnyH_ready (rs := [1]) (by kernel_rfl) (by simp) ?_
          refine AllReadyH.cons rfl (fun K hK => ?_) AllReadyH.nil
          rw [if_pos (by rfl)]
          go_simp
          refine hK.out _ _ (HKK.out _ ((HB6.out.mono HGW.out).alloc (Nat.le_of_lt HRG6.out.lt) _)) (fun hHeld => ?_)
          clear hK K
          refine wpAnyH_ready (rs := [9]) (by kernel_rfl) (by simp) ?_
          refine AllReadyH.cons rfl (fun K hK => ?_) AllReadyH.nil
          rw [if_pos (by rfl)]
          refine wp_append_lies _ _ _ 28 rfl base 49 ie ze 32 32 Try.underlying28 hie.out HZ4.out hz1.out hz2.out HZ5.out (by decide) vp j XS rfl (HO6.out.alloc _) ⟨w6.heap.size, 0, none⟩ 1 1 D rfl (by rw [HEL.out]) (World.news_of_block (heap_alloc_new w6 _)) HE1.out (by decide) (by simp [maxLen]; omega) (by omega) (by have := HBS.out; have := HB6.out.size; simp at this ⊢; omega) _ rfl ?_
          intro g9 cap9 w9 hown9 hg9 hor9 hlt9
          simp only [Act.put]
          have HO9 := hid_in hown9
          have HGR9 := hid_in hg9
          have HOR9 := hid_in hor9
          have hrg9 : Row w9 G RG 31 := (HRG6.out.alloc _).grown HGR9.out (fun h => by have := own_geK HO6.out G h.symm; have := HGB.out; omega)
          have HRG9 := hid_in hrg9
          have cG9 : w9.cell? ⟨G, 3, none⟩ = some vp := HR3g.out hrg9
          have fG9 := hrg9.frozen 3
          have HB9 : Hid (Below G wr w9) := ((HB6.out.mono HGW.out).alloc (Nat.le_of_lt HRG6.out.lt) _).grown HGR9.out (by have := HRG6.out.lt; simp; omega) (fun q hq => by have := (own_geK HO6.out q hq).1; have := HGB.out; omega)
          clear hown9 hg9 hor9 hlt9 hrg9
          refine hK.out _ _ (HKK.out _ HB9.out) (fun hHeld => ?_)
          clear hK K
          refine take_put (i := 10) (d := 31) (v := ?_) rfl rfl (by kernel_rfl) (by kernel_rfl) (by kernel_rfl) (fun _ _ _ h => h) (Or.inl ⟨by kernel_rfl, ?_⟩) hHeld ?_
          rotate_left
          · (intro w hSw; (try dsimp only at hSw); go_simp; (try with_reducible rfl))
          simp only [Act.put, List.setIfInBounds_toArray]
          refine wpAnyH_ready (rs := [11]) (by kernel_rfl) (by simp) ?_
          refine AllReadyH.cons rfl (fun K hK => ?_) AllReadyH.nil
          rw [if_pos (by rfl)]
          go_simp
          refine hK.out _ _ (HKK.out _ (HB9.out.grown (grownBy_setCell _ _ _) (Nat.le_trans HGW.out HB9.out.size) (fun q hq => by cases hq; exact Nat.le_refl _))) (fun hHeld => ?_)
          clear hK K
          refine wpAnyH_done (by kernel_rfl) ?_ _
          go_wp2_with fail
          go_roundw
          case measure => simp [intOf]; omega
          case rel =>
            go_light
            refine ⟨j + 1, by go_num, by omega, (?_ : NInv _ _ _ _ _ _ _ _ _ _ _ _ _ _)⟩
            obtain ⟨q1, q2, q3, q4, q5, q6, q7⟩ := app_stepN (fld := 3) (o := .cells D.toArray 49) HGB.out.1 HGB.out.2.1 HGB.out.2.2 (Nat.le_refl _) hI.out.r hI.out.z hI.out.below HBS.out HB6.out HRG6.out HO6.out HOO6.out HAP.out HGR9.out HRG9.out HO9.out
            rw [HR3.out] at q1
            exact ⟨⟨_, _, q1, by rw [HXS.out]; exact q2, q3, sep_step HAP.out HOO6.out HOR9.out⟩, q4, q5, q6, q7⟩
    · obtain rfl : j = ps.length := by omega
      have HI0 := hI
      clear hI hlt hj
      go_wp2_with fail
      go_loopw [5] (fun vi W' => ∃ i : Nat, vi = .int .i64 (i : Int) ∧ i ≤ ns.length ∧ Hid (NInv w [.int .i64 k, .string d, .int .i64 s, .slice pP ps.length cP, .slice pN ns.length cN, .slice pK ks.length cK, .slice pS ss.length cS] G base k s d ps ns ks ss ps.length i W')) (fun vi _ => ns.length - (intOf vi).toNat)
      case atStart => exact ⟨0, rfl, by omega, HI0⟩
      case round =>
        obtain ⟨i, rfl, hi, hI⟩ := hrel
        clear HI0 c3
        have HRR := hid_in hI.out.r
        have c4 : wr.cell? ⟨w.heap.size, 4, none⟩ = some (.slice pN ns.length cN) := HRR.out.cell 4
        by_cases hlt : i < ns.length
        · obtain ⟨nm, hnm⟩ : ∃ nm, ns[i]? = some nm := ⟨_, List.getElem?_eq_getElem hlt⟩
          have hne : ns ≠ [] := by intro h; rw [h] at hnm; simp at hnm
          obtain ⟨hq1, hq2⟩ := HPN.out hne
          subst hq1
          have cnm : wr.cell? ⟨bN, oN + i, none⟩ = some (.string nm) := (hI.out.below.cell (p := ⟨bN, oN + i, none⟩) hq2).trans (HATN.out i nm hnm)
          have HV0 : Hid ((It.cells ⟨nm, 0, List.replicate 32 0⟩).length = 34) := It.cells_length _ (by simp)
          have HV1 : Hid (∀ v ∈ It.cells ⟨nm, 0, List.replicate 32 0⟩, v.oneCell' = true) := It.one _
          have HNM : Hid (ns.getD i ByteArray.empty = nm) := by show _ = _; simp [List.getD, hnm]
          have HBR : Hid (Below w.heap.size w wr) := hI.out.below
          clear hnm hne hq2
          have c5 : wr.cell? ⟨w.heap.size, 5, none⟩ = some (.slice pK ks.length cK) := HRR.out.cell 5
          go_upto_if 49 with (first | (refine wpList_build rfl 51 _ rfl #[(0, .string nm)] (by simp only [List.map_toArray, List.map_cons, List.map_nil]; rfl) _ (build_name nm _) ?_) | (refine wpList_store_new rfl rfl 51 34 _ _ rfl _ (It.cells ⟨nm, 0, List.replicate 32 0⟩) info51 rfl HV0 HV1 rfl rfl ?_; intro w5 hr5 hb5 hs5; have HR5 := hid_in hr5; have HB5 := hid_in hb5; have HS5 := hid_in hs5; have c5' : w5.cell? ⟨w.heap.size, 5, none⟩ = some (.slice pK ks.length cK) := (hb5.cell (p := ⟨w.heap.size, 5, none⟩) HRR.out.lt).trans c5; clear hr5 hb5 hs5))
          clear c4 cnm
          go_cut [5, 6] from 32 to 73 (fun vi vx W => vi = .int .i64 (i : Int) ∧ vx = .pointer (some ⟨wr.heap.size, 0, none⟩) ∧ Hid (Row W wr.heap.size (It.cells ⟨nm, ks.getD i 0, List.replicate 32 0⟩) 51) ∧ Hid (Below wr.heap.size wr W))
          case first =>
            by_cases hk : i < ks.length
            · obtain ⟨K, hKK⟩ : ∃ K, ks[i]? = some K := ⟨_, List.getElem?_eq_getElem hk⟩
              have hne : ks ≠ [] := by intro h; rw [h] at hKK; simp at hKK
              obtain ⟨hq1, hq2⟩ := HPK.out hne
              subst hq1
              have cK1 : w5.cell? ⟨bK, oK + i, none⟩ = some (.int .i64 K) := (HB5.out.cell (p := ⟨bK, oK + i, none⟩) (Nat.lt_of_lt_of_le hq2 HBR.out.size)).trans ((HBR.out.cell (p := ⟨bK, oK + i, none⟩) hq2).trans (HATK.out i K hKK))
              have HGK : Hid (ks.getD i 0 = K) := by show _ = _; simp [List.getD, hKK]
              have x1 : w5.cell? ⟨wr.heap.size, 1, none⟩ = some (.int .i64 0) := HR5.out.cell 1
              have fx1 := HR5.out.frozen 1
              clear hKK hne hq2
              go_wp2_with fail
              go_meet
              refine ⟨rfl, rfl, ?_, HB5.out.grown (grownBy_setCell _ _ _) (Nat.le_trans (Nat.le_refl _) HB5.out.size) (fun q hq => by cases hq; exact Nat.le_refl _)⟩
              rw [HGK.out]
              exact HR5.out.set_same 1 (.int .i64 K)
            · have HGK : Hid (ks.getD i 0 = 0) := by show _ = _; rw [List.getD, List.getElem?_eq_none (by omega)]; rfl
              have hk2 : ¬ ((i : Int) < (ks.length : Int)) := by omega
              go_wp2_with fail
              go_meet
              refine ⟨rfl, rfl, ?_, HB5⟩
              rw [HGK.out]
              exact HR5
          case rest =>
            clear HR5 HB5 HS5 c5'
            obtain ⟨rfl, rfl, HR2, HB2⟩ := hcut
            have c6 : wc.cell? ⟨w.heap.size, 6, none⟩ = some (.slice pS ss.length cS) := (HB2.out.cell (p := ⟨w.heap.size, 6, none⟩) HRR.out.lt).trans (HRR.out.cell 6)
            go_upto_if 60 with fail
            go_cut [5, 6] from 32 to 73 (fun vi vx W => vi = .int .i64 (i : Int) ∧ vx = .pointer (some ⟨wr.heap.size, 0, none⟩) ∧ Hid (Row W wr.heap.size (It.cells ⟨nm, ks.getD i 0, ((ss[i]?).map fold).getD zero32d⟩) 51) ∧ Hid (Below wr.heap.size wr W))
            case first =>
              generalize ks.getD i 0 = K at *
              by_cases hs : i < ss.length
              · obtain ⟨bs, hbs⟩ : ∃ bs, ss[i]? = some bs := ⟨_, List.getElem?_eq_getElem hs⟩
                have hne : ss ≠ [] := by intro h; rw [h] at hbs; simp at hbs
                obtain ⟨hq1, hq2⟩ := HPS.out hne
                subst hq1
                obtain ⟨q, c, b1, o1, hc1, hsl1⟩ := HATS.out i bs hbs
                have cS1 : wc.cell? ⟨bS, oS + i, none⟩ = some (.slice q bs.length c) := (HB2.out.cell (p := ⟨bS, oS + i, none⟩) (Nat.lt_of_lt_of_le hq2 HBR.out.size)).trans ((HBR.out.cell (p := ⟨bS, oS + i, none⟩) hq2).trans hc1)
                have HFD := hid_in (fold_d bs q b1 o1 c wc ((hsl1.below HBR.out).below HB2.out))
                have HGS : Hid (((ss[i]?).map fold).getD zero32d = fold bs) := by show _ = _; rw [hbs]; rfl
                have HE1 : Hid (∀ v ∈ dcells (fold bs), v.oneCell' = true) := one_u8 _
                have HEL : Hid ((dcells (fold bs)).length = 32) := dcells_length (fold_length bs)
                have HSP := hid_in (cells_splice nm K (List.replicate 32 0) (fold bs) (by simp) (fold_length bs))
                have HCL : Hid ((It.cells ⟨nm, K, List.replicate 32 0⟩).length = 34) := It.cells_length _ (by simp)
                generalize hDD : dcells (fold bs) = D at *
                clear hsl1 hc1 hbs hne hq2 hDD
                generalize hVV : It.cells ⟨nm, K, List.replicate 32 0⟩ = V at *
                clear hVV
                go_wp2_with (first | (go_at_call 22; refine HFD.out.mono ?_; rintro e w6 ⟨rfl, h2⟩; have HB6 := hid_in h2; clear h2; have hr6 := HR2.out.below HB6.out HR2.out.lt) | (refine wpList_store_Row rfl 49 _ _ rfl wr.heap.size 2 D rfl rfl 51 V hr6 32 info49 HEL.out (by rw [HCL.out]; decide) HE1.out ?_; intro w7 hr7 hg7 hs7; have HR7 := hid_in hr7; have HG7 := hid_in hg7; clear hr7 hg7 hs7 hr6))
                go_meet
                refine ⟨rfl, rfl, ?_, ?_⟩
                · rw [HGS.out, ← HSP.out]; exact HR7
                · exact (HB2.out.trans (HB6.out.mono HB2.out.size)).grown HG7.out (Nat.le_trans HB2.out.size HB6.out.size) (fun q hq => by cases hq; exact Nat.le_refl _)
              · have HGS : Hid (((ss[i]?).map fold).getD zero32d = List.replicate 32 0) := by show _ = _; rw [List.getElem?_eq_none (by omega)]; rfl
                have hs2 : ¬ ((i : Int) < (ss.length : Int)) := by omega
                go_wp2_with fail
                go_meet
                refine ⟨rfl, rfl, ?_, HB2⟩
                rw [HGS.out]
                exact HR2
            case rest =>
              clear HR2 HB2 c6
              obtain ⟨rfl, rfl, HR3, HB3⟩ := hcut
              have HRX : Hid (Row wc wr.heap.size (itemAt ns ks ss i).cells 51) := by show Row _ _ _ _; unfold itemAt; rw [HNM.out]; exact HR3.out
              obtain ⟨vp, vi, hrow, hown, hoo, hap⟩ := hI.out.row
              have HBS : Hid (base ≤ wr.heap.size) := hI.out.size
              have HOWN := hid_in hoo
              have HOO := hid_in hown
              have HRGD := hid_in hrow
              have HAP2 : Hid (∀ q, vp.ownBlock = some q → vi.ownBlock ≠ some q) := fun q h1 h2 => hap q h2 h1
              have HE1 : Hid (∀ v ∈ (itemAt ns ks ss i).cells, v.oneCell' = true) := It.one _
              have HEL : Hid ((itemAt ns ks ss i).cells.length = 34) := itemAt_len ns ks ss i
              have HXS := hid_in (itemsTo_succ ns ks ss i)
              obtain ⟨RG, HRGE⟩ : ∃ RG, Hid ([.int .i64 k, .string d, .int .i64 s, vp, vi] = RG) := ⟨_, rfl⟩
              have HR4 : Hid (∀ v, RG.set 4 v = [.int .i64 k, .string d, .int .i64 s, vp, v]) := fun v => by rw [← HRGE.out]; rfl
              have HR3g : Hid (∀ {W : World}, Row W G RG 31 → W.cell? ⟨G, 4, none⟩ = some vi) := fun h => by rw [h.cell, ← HRGE.out]; rfl
              rw [HRGE.out] at HRGD
              clear hrow hown hoo hap HRGE
              have HO6 := hid_in (own_belowK HOWN.out HB3.out)
              have HOO6 := hid_in (own_belowK HOO.out HB3.out)
              have hrg6 := HRGD.out.below HB3.out HRGD.out.lt
              have HRG6 := hid_in hrg6
              have cG6 : wc.cell? ⟨G, 4, none⟩ = some vi := HR3g.out hrg6
              have hrx := HRX.out
              clear hrg6 HR3
              generalize (itemAt ns ks ss i).cells = E at *
              generalize ((itemsTo ns ks ss i).map It.cells).flatten = XS at *
              go_upto_region 14 with fail
              refine wp_region_list ?_
              iterate 5 (first | go_values | go_step | go_upon | go_simp)
              refine wpList_load_Row rfl 51 _ rfl wr.heap.size rfl 51 _ hrx _ Try.underlying51 rfl 34 info51 HEL.out ?_
              simp only [Act.put, List.setIfInBounds_toArray, List.set_cons_zero, List.set_cons_succ]
              refine wpList_slice1 rfl 29 _ rfl _ _ _ rfl (slice29 E HEL.out _) ?_
              simp only [Act.put, List.setIfInBounds_toArray, List.set_cons_zero, List.set_cons_succ]
              refine wpList_append_lies _ rfl _ _ 29 rfl base 51 je ye 34 56 Try.underlying29 hje.out HY4.out hy1.out hy2.out HY5.out (by decide) vi i XS rfl (HO6.out.alloc _) ⟨wc.heap.size, 0, none⟩ 1 1 E rfl (by rw [HEL.out]) (World.news_of_block (heap_alloc_new wc _)) HE1.out (by decide) (by simp [maxLen]; omega) (by omega) (by have := HBS.out; have := HB3.out.size; simp at this ⊢; omega) _ rfl ?_
              intro g9 cap9 w9 hown9 hg9 hor9 hlt9
              simp only [Act.put, List.setIfInBounds_toArray, List.set_cons_zero, List.set_cons_succ]
              have HO9 := hid_in hown9
              have HGR9 := hid_in hg9
              have HOR9 := hid_in hor9
              have hrg9 : Row w9 G RG 31 := (HRG6.out.alloc _).grown HGR9.out (fun h => by have := own_geK HO6.out G h.symm; have := HGB.out; omega)
              have HRG9 := hid_in hrg9
              have cG9 : w9.cell? ⟨G, 4, none⟩ = some vi := HR3g.out hrg9
              have fG9 := hrg9.frozen 4
              clear hown9 hg9 hor9 hlt9 hrg9 hrx
              go_wp2_with fail
              go_roundw
              case measure => simp [intOf]; omega
              case rel =>
                go_light
                refine ⟨i + 1, by go_num, by omega, (?_ : NInv _ _ _ _ _ _ _ _ _ _ _ _ _ _)⟩
                obtain ⟨q1, q2, q3, q4, q5, q6, q7⟩ := app_stepN (fld := 4) (o := .cells E.toArray 51) HGB.out.1 HGB.out.2.1 HGB.out.2.2 (Nat.le_refl _) hI.out.r hI.out.z hI.out.below HBS.out HB3.out HRG6.out HO6.out HOO6.out HAP2.out HGR9.out HRG9.out HO9.out
                rw [HR4.out] at q1
                exact ⟨⟨_, _, q1, q3, by rw [HXS.out]; exact q2, fun q hq he => sep_step HAP2.out HOO6.out HOR9.out q he hq⟩, q4, q5, q6, q7⟩
        · obtain rfl : i = ns.length := by omega
          obtain ⟨vp, vi, hrow, hown, hoo, hap⟩ := hI.out.row
          obtain ⟨p1, c1, rfl⟩ := own_form hown
          obtain ⟨p2, c2, rfl⟩ := own_form hoo
          have g0 : wr.cell? ⟨G, 0, none⟩ = some (.int .i64 k) := hrow.cell 0
          have g1 : wr.cell? ⟨G, 1, none⟩ = some (.string d) := hrow.cell 1
          have g2 : wr.cell? ⟨G, 2, none⟩ = some (.int .i64 s) := hrow.cell 2
          have g3 : wr.cell? ⟨G, 3, none⟩ = some (.slice p1 ps.length c1) := hrow.cell 3
          have g4 : wr.cell? ⟨G, 4, none⟩ = some (.slice p2 ns.length c2) := hrow.cell 4
          have z0 : wr.cell? ⟨w.heap.size + 1, 0, none⟩ = some (.int .i64 0) := hI.out.z.cell 0
          have z1 : wr.cell? ⟨w.heap.size + 1, 1, none⟩ = some (.string ⟨#[]⟩) := hI.out.z.cell 1
          have z2 : wr.cell? ⟨w.heap.size + 1, 2, none⟩ = some (.int .i64 0) := hI.out.z.cell 2
          have z3 : wr.cell? ⟨w.heap.size + 1, 3, none⟩ = some (.slice none 0 0) := hI.out.z.cell 3
          have z4 : wr.cell? ⟨w.heap.size + 1, 4, none⟩ = some (.slice none 0 0) := hI.out.z.cell 4
          have y0 := hI.out.z.frozen 0
          have y1 := hI.out.z.frozen 1
          have y2 := hI.out.z.frozen 2
          have y3 := hI.out.z.frozen 3
          have y4 := hI.out.z.frozen 4
          have HF := hid_in (set5 hI.out.z (.int .i64 k) (.string d) (.int .i64 s) (.slice p1 ps.length c1) (.slice p2 ns.length c2))
          have HE := hid_in (node_done (vp := .slice p1 ps.length c1) (vi := .slice p2 ns.length c2) (Nat.lt_trans HGB.out.2.1 HGB.out.2.2) hI.out.below hown hoo HF.out.2 (toNode_ok k d s ps ns ks ss HKI.out.1 HKI.out.2.1 HKI.out.2.2 HLP.out HLS.out))
          clear hrow hown hoo hap
          go_wp2_with fail
          refine post_Row 2 31 Try.results10 (w.heap.size + 1) rfl 31 _ HF.out.1 _ Try.underlying31 rfl 5 info31 rfl rfl ?_
          exact ⟨_, rfl, HE.out.1, HE.out.2.1, HE.out.2.2⟩
end Go.Proofs.Ytbccjomnfclkdaa
