/-
  The reference's Check: its walks, in one text.
-/
import Derived.Test.YtbccjomnfclkdaaN17
import Derived.Deep.CutRange
namespace Go.Proofs.Ytbccjomnfclkdaa
open Go.RowKit
set_option maxHeartbeats 2000000 in
set_option maxRecDepth 100000 in
theorem rcheck_chunk (w : World) (s : Int) (d : ByteArray) (np ni cp ci : Nat) (pp pi : Option Addr) :
    Calls Try.prog 12 #[.agg #[.int .i64 1, .string d, .int .i64 s, .slice pp np cp, .slice pi ni ci]] w fun e w' => Says e (1 ≤ d.size ∧ d.size ≤ 64 ∧ s = 0 ∧ np = 0 ∧ ni = 0) ∧ Below w.heap.size w w' := by
  obtain ⟨w2, H2, HR, HB, HS⟩ := node_row w 1 s d (.slice pp np cp) (.slice pi ni ci)
  have c0 : w2.cell? ⟨w.heap.size, 0, none⟩ = some (.int .i64 1) := HR.out.cell 0
  have c1 : w2.cell? ⟨w.heap.size, 1, none⟩ = some (.string d) := HR.out.cell 1
  have c2 : w2.cell? ⟨w.heap.size, 2, none⟩ = some (.int .i64 s) := HR.out.cell 2
  have c3 : w2.cell? ⟨w.heap.size, 3, none⟩ = some (.slice pp np cp) := HR.out.cell 3
  have c4 : w2.cell? ⟨w.heap.size, 4, none⟩ = some (.slice pi ni ci) := HR.out.cell 4
  go_enter Try.func12, Try.ntmps12
  go_upto_region 1 with fail
  refine wp_world H2.out ?_
  clear H2
  go_wp2_with fail
  all_goals
    go_ret
    refine ⟨⟨_, rfl, ?_⟩, HB.out⟩
    first
      | (simp only [Bool.false_eq_true, false_iff, beq_iff_eq]; omega)
      | (simp only [Bool.false_eq_true, false_iff, true_iff, beq_iff_eq, decide_eq_true_eq, bne_iff_ne, ne_eq] at *; omega)
      | (simp at *; omega)
set_option maxHeartbeats 2000000 in
set_option maxRecDepth 100000 in
theorem rcheck_file (w : World) (k s : Int) (d : ByteArray) (np ni cp ci : Nat) (pp pi : Option Addr) (hk1 : k ≠ 1) (hk3 : k ≠ 3) :
    Calls Try.prog 12 #[.agg #[.int .i64 k, .string d, .int .i64 s, .slice pp np cp, .slice pi ni ci]] w fun e w' => Says e (k = 2 ∧ d.size = 0 ∧ 0 ≤ s ∧ s ≤ 1024 ∧ np = pieces s ∧ ni = 0) ∧ Below w.heap.size w w' := by
  obtain ⟨w2, H2, HR, HB, HS⟩ := node_row w k s d (.slice pp np cp) (.slice pi ni ci)
  have c0 : w2.cell? ⟨w.heap.size, 0, none⟩ = some (.int .i64 k) := HR.out.cell 0
  have c1 : w2.cell? ⟨w.heap.size, 1, none⟩ = some (.string d) := HR.out.cell 1
  have c2 : w2.cell? ⟨w.heap.size, 2, none⟩ = some (.int .i64 s) := HR.out.cell 2
  have c3 : w2.cell? ⟨w.heap.size, 3, none⟩ = some (.slice pp np cp) := HR.out.cell 3
  have c4 : w2.cell? ⟨w.heap.size, 4, none⟩ = some (.slice pi ni ci) := HR.out.cell 4
  have e1 : (k == 1) = false := beq_eq_false_iff_ne.2 hk1
  have e3 : (k == 3) = false := beq_eq_false_iff_ne.2 hk3
  by_cases hd : d.size = 0
  · have hd1 : d.toList = [] := toList_nil.2 hd
    have hd2 : d.toList.isEmpty = true := by rw [hd1]; rfl
    by_cases hk2 : k = 2
    · subst hk2
      by_cases hs : 0 ≤ s ∧ s ≤ 1024 ∧ ni = 0
      · obtain ⟨hs0, hs1, rfl⟩ := hs
        have hs2 : ¬ (s < 0) := by omega
        clear hk1 hk3 e1 e3
        go_enter Try.func12, Try.ntmps12
        go_upto_region 1 with fail
        refine wp_world H2.out ?_
        clear H2
        go_wp2_with fail
        go_loopw [3, 4] (fun vk vl W => ∃ j : Nat, vk = .int .i64 (j : Int) ∧ vl = .int .i64 (s - 64 * (j : Int)) ∧ W = w2 ∧ (0 < j → 0 < s - 64 * ((j : Int) - 1))) (fun _ vl _ => (intOf vl + 64).toNat)
        case atStart => exact ⟨0, rfl, by simp, rfl, by omega⟩
        case round =>
          obtain ⟨j, rfl, rfl, rfl, hj⟩ := hrel
          by_cases hlt : 0 < s - 64 * (j : Int)
          · go_wp2_with fail
            go_roundw
            case rel =>
              go_light
              exact ⟨j + 1, by go_num, by go_num, trivial, fun _ => by omega⟩
            case measure => simp [intOf]; omega
          · have HPJ : Hid (pieces s = j) := by show _ = _; unfold pieces; omega
            go_wp2_with fail
            go_ret
            refine ⟨⟨_, rfl, ?_⟩, HB.out⟩
            rw [HPJ.out]
            simp
            omega
      · have HN : Hid (¬ (0 ≤ s ∧ s ≤ 1024 ∧ ni = 0)) := hs
        clear hk1 hk3 e1 e3
        rcases (show s < 0 ∨ (0 ≤ s ∧ 1024 < s) ∨ (0 ≤ s ∧ s ≤ 1024 ∧ ni ≠ 0) by omega) with h | ⟨h, h'⟩ | ⟨h, h', h''⟩
        all_goals clear hs
        · go_enter Try.func12, Try.ntmps12
          go_upto_region 1 with fail
          refine wp_world H2.out ?_
          clear H2
          go_wp2_with fail
          go_ret
          exact ⟨Says.no rfl (by first | omega | exact fun q => q.elim), HB.out⟩
        · have g1 : ¬ (s < 0) := by omega
          go_enter Try.func12, Try.ntmps12
          go_upto_region 1 with fail
          refine wp_world H2.out ?_
          clear H2
          go_wp2_with fail
          go_ret
          exact ⟨Says.no rfl (by first | omega | exact fun q => q.elim), HB.out⟩
        · have g1 : ¬ (s < 0) := by omega
          have g2 : ((ni : Int) == 0) = false := by rw [beq_eq_false_iff_ne]; omega
          have g3 : ¬ ((1024 : Int) < s) := by omega
          have g4 : ¬ ((ni : Int) = 0) := by omega
          go_enter Try.func12, Try.ntmps12
          go_upto_region 1 with fail
          refine wp_world H2.out ?_
          clear H2
          go_wp2_with fail
          go_ret
          exact ⟨Says.no rfl (by first | omega | exact fun q => q.elim), HB.out⟩
    · have e2 : (k == 2) = false := beq_eq_false_iff_ne.2 hk2
      go_enter Try.func12, Try.ntmps12
      go_upto_region 1 with fail
      refine wp_world H2.out ?_
      clear H2
      go_wp2_with fail
      go_ret
      exact ⟨Says.no rfl (by intro q; first | exact q.elim | exact hk2 q.1), HB.out⟩
  · have hd1 : d.toList ≠ [] := fun h => hd (toList_nil.1 h)
    have hd2 : d.toList.isEmpty = false := by cases h : d.toList; exact absurd h hd1; rfl
    go_enter Try.func12, Try.ntmps12
    go_upto_region 1 with fail
    refine wp_world H2.out ?_
    clear H2
    go_wp2_with fail
    go_ret
    exact ⟨Says.no rfl (by intro q; first | exact q.elim | exact hd q.2.1), HB.out⟩
end Go.Proofs.Ytbccjomnfclkdaa
namespace Go.Proofs.Ytbccjomnfclkdaa
open Go.RowKit
set_option maxHeartbeats 40000000 in
set_option maxRecDepth 100000 in
theorem rcheck_dir (w : World) (s : Int) (d : ByteArray) (np cp ci : Nat) (pp pi : Option Addr) (l : List It) (hi : Els w (.slice pi l.length ci) 34 (l.map It.cells)) (hok : ∀ x ∈ l, x.ok) (hsz : ∀ x ∈ l, x.name.size ≤ 9223372036854775807) :
    Calls Try.prog 12 #[.agg #[.int .i64 3, .string d, .int .i64 s, .slice pp np cp, .slice pi l.length ci]] w fun e w' => Says e (d.size = 0 ∧ s = 0 ∧ np = 0 ∧ itemsOk l) ∧ Below w.heap.size w w' := by
  obtain ⟨p', cap', b, o, hv, hc1, hc2, hpp, hat⟩ := hi.ex
  simp only [Value.slice.injEq] at hv
  obtain ⟨rfl, _, rfl⟩ := hv
  rw [List.length_map] at *
  generalize hni : l.length = ni at *
  have HNI := hid_in hni
  clear hni
  obtain ⟨w2, H2, HR, HB, HS⟩ := node_row w 3 s d (.slice pp np cp) (.slice pi ni ci)
  have c0 : w2.cell? ⟨w.heap.size, 0, none⟩ = some (.int .i64 3) := HR.out.cell 0
  have c1 : w2.cell? ⟨w.heap.size, 1, none⟩ = some (.string d) := HR.out.cell 1
  have c2 : w2.cell? ⟨w.heap.size, 2, none⟩ = some (.int .i64 s) := HR.out.cell 2
  have c3 : w2.cell? ⟨w.heap.size, 3, none⟩ = some (.slice pp np cp) := HR.out.cell 3
  have c4 : w2.cell? ⟨w.heap.size, 4, none⟩ = some (.slice pi ni ci) := HR.out.cell 4
  by_cases hd : d.size = 0
  · have hd1 : d.toList = [] := toList_nil.2 hd
    have hd2 : d.toList.isEmpty = true := by rw [hd1]; rfl
    by_cases hs : s = 0
    · subst hs
      by_cases hnp : np = 0
      · subst hnp
        by_cases h64 : ni ≤ 64
        · have HAT := hid_in (fun i x (hx : l[i]? = some x) => Els.item hat hx)
          have HP := hid_in hpp
          have HOK := hid_in hok
          have HSZ := hid_in hsz
          have h64' : ¬ ((64 : Int) < (ni : Int)) := by omega
          clear hi hat hpp hok hsz
          go_enter Try.func12, Try.ntmps12
          go_upto_region 1 with fail
          refine wp_world H2.out ?_
          clear H2
          go_wp2_with fail
          go_loopw [5] (fun vi W => ∃ i : Nat, i ≤ ni ∧ vi = .int .i64 (i : Int) ∧ Hid (Below w2.heap.size w2 W) ∧ Hid (∀ j, j < i → okAt l j)) (fun vi _ => ni - (intOf vi).toNat)
          case atStart => exact ⟨0, by omega, rfl, Below.refl _ _, fun j h => by omega⟩
          case round =>
            obtain ⟨i, hi, rfl, HBW, hall⟩ := hrel
            have HRW : Hid (Row wr w.heap.size [.int .i64 3, .string d, .int .i64 0, .slice pp 0 cp, .slice pi ni ci] 31) := HR.out.below HBW.out HR.out.lt
            have hwr : w.heap.size < wr.heap.size := HRW.out.lt
            clear c0 c1 c2 c3 c4
            have c4 : wr.cell? ⟨w.heap.size, 4, none⟩ = some (.slice pi ni ci) := HRW.out.cell 4
            by_cases hlt : i < ni
            · obtain ⟨x, hx⟩ : ∃ x, l[i]? = some x := ⟨_, List.getElem?_eq_getElem (by rw [HNI.out]; exact hlt)⟩
              have hne : (l.map It.cells) ≠ [] := by intro h; simp at h; rw [h] at hx; simp at hx
              obtain ⟨hq, hbl⟩ := HP.out hne
              subst hq
              have HX := hid_in hx
              have hxo := HOK.out x (List.mem_of_getElem? hx)
              have hxs := HSZ.out x (List.mem_of_getElem? hx)
              have HBWW : Hid (Below w.heap.size w wr) := HB.out.trans (HBW.out.mono HB.out.size)
              have HR2 : Hid (wr.rangeAt b (o + i * 34) x.cells) := rangeAt_below (HAT.out i x hx) HBWW.out hbl
              have HVL : Hid (x.cells.length = 34) := It.cells_length x hxo.sum.1
              have H1 := hid_in x.one
              have HNM := hid_in (fun W => rname_any (bl x.name) (bl_le _ hxs) W)
              rw [BA_bl] at HNM
              have HC : Hid (∀ (W : World), Row W wr.heap.size x.cells 51 → W.cell? ⟨wr.heap.size, 0, none⟩ = some (.string x.name) ∧ W.cell? ⟨wr.heap.size, 1, none⟩ = some (.int .i64 x.kind)) := fun W h => ⟨h.cell 0, h.cell 1⟩
              have HITM : Hid (itemOk x = ((x.kind == 2 || x.kind == 3) && isNameS (bl x.name))) := rfl
              generalize x.cells = V at HR2 HVL H1 HC
              generalize hnm : x.name = nm at *
              generalize hkk : x.kind = K at *
              have HNK : Hid (x.name = nm ∧ x.kind = K) := ⟨hnm, hkk⟩
              clear hx hne hxo hxs hnm hkk
              have hbw : b < wr.heap.size := Nat.lt_of_lt_of_le hbl HBWW.out.size
              go_upto_region 20 with (first | (refine wpList_load_mid rfl 51 _ rfl b _ rfl V _ HR2.out Try.underlying51 rfl (by rw [info51, HVL.out]) ?_) | (refine wpList_store_new rfl rfl 51 34 _ _ rfl _ V info51 rfl HVL H1 rfl rfl ?_; intro w5 hr5 hb5 hs5; have x0 := (HC.out _ hr5).1; have x1 := (HC.out _ hr5).2; have HB5 := hid_in hb5; have HS5 := hid_in hs5; clear hr5 hb5 hs5))
              go_cut [131] from 90 to 131 (fun v w' => ∃ r : Bool, v = .bool r ∧ (r = false ↔ okAt l i) ∧ ∃ m, w' = w5.drewN m)
              case first =>
                cases hb : isNameS (bl nm)
                · rw [hb] at HNM HITM
                  clear hb
                  have HF : Hid (¬ okAt l i) := fun h => by
                    have := (h x HX.out).1
                    rw [HITM.out] at this
                    simp at this
                  clear HITM
                  go_quiet (first | (go_at_call 28; exact Calls.quiet_of_same (HNM.out _)))
                  go_wp2_with fail
                  go_meet
                  exact ⟨true, rfl, ⟨fun h => (by cases h), fun h => absurd h HF.out⟩, _, rfl⟩
                · rw [hb] at HNM HITM
                  clear hb
                  by_cases h2 : K = 2
                  · have HT : Hid (itemOk x = true) := by show _ = _; rw [HITM.out]; simp [h2]
                    clear HITM
                    subst h2
                    cases i with
                    | zero =>
                      have HG : Hid (okAt l 0) := fun x' hx' => by
                        obtain rfl := Option.some.inj (HX.out.symm.trans hx')
                        exact ⟨HT.out, fun h => absurd h (by omega)⟩
                      go_quiet (first | (go_at_call 28; exact Calls.quiet_of_same (HNM.out _)))
                      go_wp2_with fail
                      go_meet
                      exact ⟨false, rfl, ⟨fun _ => HG.out, fun _ => rfl⟩, _, rfl⟩
                    | succ j =>
                      obtain ⟨y, hy⟩ : ∃ y, l[j]? = some y := ⟨_, List.getElem?_eq_getElem (by rw [HNI.out]; omega)⟩
                      have HY := hid_in hy
                      have y0w : wr.cell? ⟨b, o + j * 34, none⟩ = some (.string y.name) := rangeAt_below (HAT.out j y hy) HBWW.out hbl 0 _ rfl
                      clear hy
                      generalize hyn : y.name = yn at y0w
                      have HYN2 := hid_in hyn
                      clear hyn
                      have hj0 : (0 : Int) ≤ (j : Int) := by omega
                      have hj1 : (j : Int) < (ni : Int) := by omega
                      have e9 : IntKind.i64.wrap (j : Int) = (j : Int) := by rw [IntKind.wrap_i64]; omega
                      have y0 : w5.cell? ⟨b, o + j * 34, none⟩ = some (.string yn) := by rw [HB5.out.cell (p := ⟨b, o + j * 34, none⟩) hbw]; exact y0w
                      have c4' : w5.cell? ⟨w.heap.size, 4, none⟩ = some (.slice (some ⟨b, o, none⟩) ni ci) := by rw [HB5.out.cell (p := ⟨w.heap.size, 4, none⟩) hwr]; exact c4
                      cases hgg : geS yn nm
                      · have hgs : Op.bytesLess yn.toList nm.toList = true := by have := hgg; simpa [geS] using this
                        have HG : Hid (okAt l (j + 1)) := fun x' hx' => by
                          obtain rfl := Option.some.inj (HX.out.symm.trans hx')
                          refine ⟨HT.out, fun _ y' hy' => ?_⟩
                          obtain rfl := Option.some.inj (HY.out.symm.trans hy')
                          rw [HYN2.out, HNK.out.1]
                          exact hgg
                        clear hgg y0w
                        go_quiet (first | (go_at_call 28; exact Calls.quiet_of_same (HNM.out _)))
                        go_wp2_with fail
                        go_meet
                        exact ⟨false, rfl, ⟨fun _ => HG.out, fun _ => rfl⟩, _, rfl⟩
                      · have hgs : Op.bytesLess yn.toList nm.toList = false := by have := hgg; simpa [geS] using this
                        have HF : Hid (¬ okAt l (j + 1)) := fun h => by
                          have := (h x HX.out).2 (by omega) y HY.out
                          rw [HYN2.out, HNK.out.1, hgg] at this
                          cases this
                        clear hgg y0w
                        go_quiet (first | (go_at_call 28; exact Calls.quiet_of_same (HNM.out _)))
                        go_wp2_with fail
                        go_meet
                        exact ⟨true, rfl, ⟨fun h => (by cases h), fun h => absurd h HF.out⟩, _, rfl⟩
                  · by_cases h3 : K = 3
                    · have HT : Hid (itemOk x = true) := by show _ = _; rw [HITM.out]; simp [h3]
                      clear HITM
                      subst h3
                      cases i with
                      | zero =>
                        have HG : Hid (okAt l 0) := fun x' hx' => by
                          obtain rfl := Option.some.inj (HX.out.symm.trans hx')
                          exact ⟨HT.out, fun h => absurd h (by omega)⟩
                        go_quiet (first | (go_at_call 28; exact Calls.quiet_of_same (HNM.out _)))
                        go_wp2_with fail
                        go_meet
                        exact ⟨false, rfl, ⟨fun _ => HG.out, fun _ => rfl⟩, _, rfl⟩
                      | succ j =>
                        obtain ⟨y, hy⟩ : ∃ y, l[j]? = some y := ⟨_, List.getElem?_eq_getElem (by rw [HNI.out]; omega)⟩
                        have HY := hid_in hy
                        have y0w : wr.cell? ⟨b, o + j * 34, none⟩ = some (.string y.name) := rangeAt_below (HAT.out j y hy) HBWW.out hbl 0 _ rfl
                        clear hy
                        generalize hyn : y.name = yn at y0w
                        have HYN2 := hid_in hyn
                        clear hyn
                        have hj0 : (0 : Int) ≤ (j : Int) := by omega
                        have hj1 : (j : Int) < (ni : Int) := by omega
                        have e9 : IntKind.i64.wrap (j : Int) = (j : Int) := by rw [IntKind.wrap_i64]; omega
                        have y0 : w5.cell? ⟨b, o + j * 34, none⟩ = some (.string yn) := by rw [HB5.out.cell (p := ⟨b, o + j * 34, none⟩) hbw]; exact y0w
                        have c4' : w5.cell? ⟨w.heap.size, 4, none⟩ = some (.slice (some ⟨b, o, none⟩) ni ci) := by rw [HB5.out.cell (p := ⟨w.heap.size, 4, none⟩) hwr]; exact c4
                        cases hgg : geS yn nm
                        · have hgs : Op.bytesLess yn.toList nm.toList = true := by have := hgg; simpa [geS] using this
                          have HG : Hid (okAt l (j + 1)) := fun x' hx' => by
                            obtain rfl := Option.some.inj (HX.out.symm.trans hx')
                            refine ⟨HT.out, fun _ y' hy' => ?_⟩
                            obtain rfl := Option.some.inj (HY.out.symm.trans hy')
                            rw [HYN2.out, HNK.out.1]
                            exact hgg
                          clear hgg y0w
                          go_quiet (first | (go_at_call 28; exact Calls.quiet_of_same (HNM.out _)))
                          go_wp2_with fail
                          go_meet
                          exact ⟨false, rfl, ⟨fun _ => HG.out, fun _ => rfl⟩, _, rfl⟩
                        · have hgs : Op.bytesLess yn.toList nm.toList = false := by have := hgg; simpa [geS] using this
                          have HF : Hid (¬ okAt l (j + 1)) := fun h => by
                            have := (h x HX.out).2 (by omega) y HY.out
                            rw [HYN2.out, HNK.out.1, hgg] at this
                            cases this
                          clear hgg y0w
                          go_quiet (first | (go_at_call 28; exact Calls.quiet_of_same (HNM.out _)))
                          go_wp2_with fail
                          go_meet
                          exact ⟨true, rfl, ⟨fun h => (by cases h), fun h => absurd h HF.out⟩, _, rfl⟩
                    · have g2 : (K == 2) = false := beq_eq_false_iff_ne.2 h2
                      have g3 : (K == 3) = false := beq_eq_false_iff_ne.2 h3
                      have HF : Hid (¬ okAt l i) := fun h => by
                        have := (h x HX.out).1
                        rw [HITM.out, g2, g3] at this
                        simp at this
                      clear HITM
                      have k2 : (K != 2) = true := by simp [h2]
                      have k3 : (K != 3) = true := by simp [h3]
                      clear h2 h3 g2 g3
                      go_quiet (first | (go_at_call 28; exact Calls.quiet_of_same (HNM.out _)))
                      go_wp2_with fail
                      go_meet
                      exact ⟨true, rfl, ⟨fun h => (by cases h), fun h => absurd h HF.out⟩, _, rfl⟩
              obtain ⟨r, rfl, hr, m, rfl⟩ := hcut
              have HRR := hid_in hr
              clear hr
              cases r
              · go_wp2_with fail
                go_roundw
                case rel =>
                  go_light
                  exact ⟨i + 1, by omega, by go_num, below_drewN (HBW.out.trans (HB5.out.mono HBW.out.size)) _, fun k hk => by
                    rcases Nat.lt_or_ge k i with h | h
                    · exact hall.out k h
                    · obtain rfl : k = i := by omega
                      exact HRR.out.1 (by first | rfl | trivial)⟩
                case measure => simp [intOf]; omega
              · go_wp2_with fail
                go_ret
                exact ⟨Says.no rfl (by
                  intro q
                  have q2 : itemsOk l := by first | exact q | exact q.2.2.2
                  have := HRR.out.2 (q2.2 i (by rw [HNI.out]; exact hlt))
                  first | cases this | exact this), below_drewN (HBWW.out.trans (HB5.out.mono HBWW.out.size)) _⟩
            · obtain rfl : i = ni := by omega
              go_wp2_with fail
              go_ret
              have HBWW : Hid (Below w.heap.size w wr) := HB.out.trans (HBW.out.mono HB.out.size)
              have hok2 : itemsOk l := ⟨by rw [HNI.out]; omega, fun j hj => hall.out j (by rw [← HNI.out]; exact hj)⟩
              exact ⟨Says.yes rfl (by first | exact hok2 | exact ⟨hd, trivial, trivial, hok2⟩), HBWW.out⟩
        · have h64' : (64 : Int) < (ni : Int) := by omega
          have HN : Hid (¬ itemsOk l) := fun h => h64 (by rw [← HNI.out]; exact h.1)
          clear hi hat hpp hok hsz
          go_enter Try.func12, Try.ntmps12
          go_upto_region 1 with fail
          refine wp_world H2.out ?_
          clear H2
          go_wp2_with fail
          go_ret
          exact ⟨Says.no rfl (by intro q; first | exact HN.out q | exact HN.out q.2.2.2), HB.out⟩
      · have hnp' : ((np : Int) == 0) = false := by rw [beq_eq_false_iff_ne]; omega
        clear hi hat hpp hok hsz
        go_enter Try.func12, Try.ntmps12
        go_upto_region 1 with fail
        refine wp_world H2.out ?_
        clear H2
        go_wp2_with fail
        go_ret
        exact ⟨Says.no rfl (by intro q; first | exact q.elim | exact hnp q.2.2.1), HB.out⟩
    · have hs' : (s == 0) = false := beq_eq_false_iff_ne.2 hs
      clear hi hat hpp hok hsz
      go_enter Try.func12, Try.ntmps12
      go_upto_region 1 with fail
      refine wp_world H2.out ?_
      clear H2
      go_wp2_with fail
      go_ret
      exact ⟨Says.no rfl (by intro q; first | exact q.elim | exact hs q.2.1), HB.out⟩
  · have hd1 : d.toList ≠ [] := fun h => hd (toList_nil.1 h)
    have hd2 : d.toList.isEmpty = false := by cases h : d.toList; exact absurd h hd1; rfl
    clear hi hat hpp hok hsz
    go_enter Try.func12, Try.ntmps12
    go_upto_region 1 with fail
    refine wp_world H2.out ?_
    clear H2
    go_wp2_with fail
    go_ret
    exact ⟨Says.no rfl (by intro q; first | exact q.elim | exact hd q.1), HB.out⟩
end Go.Proofs.Ytbccjomnfclkdaa
namespace Go.Proofs.Ytbccjomnfclkdaa
open Go.RowKit
theorem rcheck_any (w : World) (v : Value) (n : Nd) (h : IsN w v n) (hs : n.short) : Calls Try.prog 12 #[v] w fun e w' => Says e (right n) ∧ Below w.heap.size w w' := by
  obtain ⟨vp, vi, hv, hp, hi⟩ := h.ex
  obtain ⟨pp, cp, pi, ci, hform⟩ := h.form
  rw [hv] at hform
  simp only [Value.agg.injEq, Array.mk.injEq, List.cons.injEq, and_true, true_and] at hform
  obtain ⟨rfl, rfl⟩ := hform
  rw [hv]
  have e0 : n.parts.length = 0 ↔ n.parts = [] := List.length_eq_zero_iff
  have e1 : n.items.length = 0 ↔ n.items = [] := List.length_eq_zero_iff
  by_cases h1 : n.kind = 1
  · rw [h1]
    refine (rcheck_chunk w n.size n.data n.parts.length n.items.length cp ci pp pi).mono ?_
    rintro e w' ⟨hsay, hb⟩
    refine ⟨hsay.mono ?_, hb⟩
    unfold right
    rw [e0, e1, h1]
    simp
  · by_cases h3 : n.kind = 3
    · rw [h3]
      refine (rcheck_dir w n.size n.data n.parts.length cp ci pp pi n.items hi h.ok.items hs.2).mono ?_
      rintro e w' ⟨hsay, hb⟩
      refine ⟨hsay.mono ?_, hb⟩
      unfold right
      rw [e0, h3]
      simp
    · refine (rcheck_file w n.kind n.size n.data n.parts.length n.items.length cp ci pp pi h1 h3).mono ?_
      rintro e w' ⟨hsay, hb⟩
      refine ⟨hsay.mono ?_, hb⟩
      unfold right
      rw [e1]
      simp [h1, h3]
end Go.Proofs.Ytbccjomnfclkdaa
