/-
  The walk of FaultKinds.
-/
import Derived.Test.YtaaojfgakgjlkaaDoorH1
import Derived.Deep.RegionHeld3
import Derived.Deep.CutRange
namespace Go.Proofs.YtaaojfgakgjlkaaDoor
open Go.RowKit

set_option maxHeartbeats 8000000 in
set_option maxRecDepth 100000 in
theorem kinds_any (p : Option Addr) (cap b o : Nat) (ss : List St) (w : World) (hp : ss ≠ [] → p = some ⟨b, o, none⟩ ∧ b < w.heap.size) (hs : Steps w b o ss) (hcap : ss.length ≤ cap) (hbig : cap ≤ 9223372036854775807)
    (hg : w.cell? ⟨0, 0, none⟩ = some (.iface 87 (.agg #[.pointer (some ⟨4, 30, none⟩)]))) (ht : Tab w.heap.size w) (hN : (ss.map fun s => s.op.length + s.path.length + 2).sum ≤ 10000000) :
    Calls Tryd.prog 4 #[.slice p ss.length cap] w fun e w' => e = .returned (.bool true) ∧ Below w.heap.size w w' := by
  have HAW := hid_in (awake_any w hg ht)
  have HS : Hid (∀ W, Below w.heap.size w W → Steps W b o ss) := fun W hW => hs.below hW (fun h => (hp h).2)
  have HPB : Hid (∀ W, Below w.heap.size w W → ss ≠ [] → p = some ⟨b, o, none⟩ ∧ b < W.heap.size) := fun W hW h => ⟨(hp h).1, Nat.lt_of_lt_of_le (hp h).2 hW.size⟩
  have HM := hid_in (fun (o : Option Tr) (ho : o ∈ pile ss) => mass_pile hN ho)
  have HT := hid_in ht
  have HCAP := hid_in hcap
  clear hp hs hg ht hN hcap
  go_enter Tryd.func4, Tryd.ntmps4
  go_wp2_with (first
    | (go_at_call 5; refine HAW.out.mono ?_; rintro e w1 ⟨rfl, hb1⟩; have HB1 := hid_in hb1; clear hb1)
    | (go_at_call 6; refine (long_any p cap b o ss w1 (HPB.out _ HB1.out) (HS.out _ HB1.out) HCAP.out hbig).mono ?_; rintro e w2 ⟨⟨x, rfl⟩, hb2⟩; have HB2 := hid_in (HB1.out.trans (hb2.mono HB1.out.size)); clear hb2)
    | (go_at_call 7; refine (made_any p cap b o ss w2 (HPB.out _ HB2.out) (HS.out _ HB2.out) HCAP.out hbig).mono ?_; rintro e w3 ⟨v3, rfl, hp3, hb3⟩; obtain ⟨p1, g1, c1, us, rfl, hl1, hq1, hc1, hi1⟩ := pileP_view hp3; have HB3 := hid_in (HB2.out.trans (hb3.mono HB2.out.size)); have HL1 := hid_in hl1; have HQ1 := hid_in hq1; have HC1 := hid_in hc1; have HI1 := hid_in hi1; clear hb3 hp3 hl1 hq1 hc1 hi1)
    | (go_at_call 8; refine (make_any p cap b o ss w3 (HPB.out _ HB3.out) (HS.out _ HB3.out) HCAP.out hbig).mono ?_; rintro e w4 ⟨v4, rfl, hp4, hb4⟩; obtain ⟨p2, g2, c2, uss, rfl, hl2, hq2, hc2, hi2⟩ := pileR_view hp4; have HB34 := hid_in hb4; have HB4 := hid_in (HB3.out.trans (hb4.mono HB3.out.size)); have HL2 := hid_in hl2; have HQ2 := hid_in hq2; have HC2 := hid_in hc2; have HI2 := hid_in hi2; clear hb4 hp4 hl2 hq2 hc2 hi2))
  any_goals (go_ret; exact ⟨rfl, HB2.out⟩)
  have HMM : Hid (∀ o ∈ pile ss, massO o ≤ 10000000) := HM.out
  generalize hn : (pile ss).length = n at *
  have Hn := hid_in hn
  have hn9 : n ≤ 9223372036854775807 := by
    rcases Nat.eq_zero_or_pos n with h0 | h0
    · omega
    · obtain ⟨_, h1, h2, _⟩ := HQ1.out h0; omega
  have t1 := ta42_42
  have t2 := ta42_44
  have t3 := ta44_42
  have t4 := ta44_44
  have t5 := ta31_42
  have t6 := ta31_44
  have t7 := ta0_42
  have t8 := ta0_44
  clear hn HM HAW
  go_loopw [5] (fun v W => ∃ i : Nat, i ≤ n ∧ v = .int .i64 (i : Int) ∧ Hid (Below w4.heap.size w4 W)) (fun v _ => n - (intOf v).toNat)
  case atStart => exact ⟨0, by omega, rfl, Below.refl _ _⟩
  case round =>
    obtain ⟨i, hi, rfl, hbw⟩ := hrel
    by_cases hlt : i < n
    · obtain ⟨u, hu⟩ : ∃ u, us[i]? = some u := ⟨_, List.getElem?_eq_getElem (by rw [HL1.out]; exact hlt)⟩
      obtain ⟨u5, hu5⟩ : ∃ u5, uss[i]? = some u5 := ⟨_, List.getElem?_eq_getElem (by rw [HL2.out]; exact hlt)⟩
      obtain ⟨oo, hoo⟩ : ∃ oo, (pile ss)[i]? = some oo := ⟨_, List.getElem?_eq_getElem (by rw [Hn.out]; exact hlt)⟩
      obtain ⟨hE0, hfit⟩ := HI1.out i oo u hoo hu
      obtain ⟨hR0, h5⟩ := HI2.out i oo u5 hoo hu5
      obtain ⟨rfl, hnc1, hc19, hg1⟩ := HQ1.out (by omega)
      obtain ⟨rfl, hnc2, hc29, hg2⟩ := HQ2.out (by omega)
      have hs34 := HB34.out.size
      have hs4 := hbw.out.size
      have hE : IsO w4.heap.size wr oo u := isO_below hbw.out (isO_mono hs34 (isO_below HB34.out hE0))
      have hR : IsRO w4.heap.size wr oo u5 := isRO_below hbw.out hR0
      have hmo := HMM.out oo (List.mem_of_getElem? hoo)
      have htw : Tab w4.heap.size wr := ⟨Nat.le_trans HT.out.1 HB4.out.size, (HT.out.below (HB4.out.trans (hbw.out.mono HB4.out.size))).2⟩
      have cu : wr.cell? ⟨g1, i, none⟩ = some u := (hbw.out.cell (p := ⟨g1, i, none⟩) (by show g1 < _; omega)).trans ((HB34.out.cell (p := ⟨g1, i, none⟩) hg1).trans (HC1.out i u hu))
      have cz : ∀ (y : Nat) z, u5[y]? = some z → wr.cell? ⟨g2, i * 5 + y, none⟩ = some z := fun y z hy => (hbw.out.cell (p := ⟨g2, i * 5 + y, none⟩) hg2).trans (HC2.out i y u5 z hu5 hy)
      have hg1' : g1 < wr.heap.size := by omega
      have hg2' : g2 < wr.heap.size := by omega
      have ki : (i : Int) < (n : Int) := by omega
      clear hu hu5 hoo hE0 hR0
      cases oo with
      | none =>
        obtain rfl : u = .nilIface := hE
        obtain rfl : u5 = noneR := hR
        have d0 : wr.cell? ⟨g2, i * 5, none⟩ = some (.int .i64 0) := cz 0 _ rfl
        clear cz h5 hfit hmo htw
        go_wp2_with fail
        go_region
        all_goals
          go_wp2_with fail
          go_region
          all_goals
            go_wp2_with fail
            exact ⟨⟨i + 1, by omega, by go_num, hbw.out.drew.drew⟩, by simp [intOf]; omega⟩
      | some T =>
        cases T with
        | num k =>
          have hE' : IsE w4.heap.size wr (.num k) u := hE
          have hR' : IsR w4.heap.size wr (.num k) u5 := hR
          unfold IsE at hE'
          unfold IsR at hR'
          obtain ⟨rfl, _, _⟩ := hE'
          obtain ⟨rfl, _, _⟩ := hR'
          have d0 : wr.cell? ⟨g2, i * 5, none⟩ = some (.int .i64 1) := cz 0 _ rfl
          clear hE hR cz h5 hfit hmo htw
          go_wp2_with fail
          go_region
          all_goals
            go_wp2_with fail
            go_region
            all_goals
              go_wp2_with fail
              exact ⟨⟨i + 1, by omega, by go_num, hbw.out.drew.drew⟩, by simp [intOf]; omega⟩
        | flt op path t =>
          have hE' : IsE w4.heap.size wr (.flt op path t) u := hE
          have hR' : IsR w4.heap.size wr (.flt op path t) u5 := hR
          have hE2 := hE'
          have hR2 := hR'
          unfold IsE at hE'
          unfold IsR at hR'
          obtain ⟨fb, ev, rfl, hfb, hrow, hEk⟩ := hE'
          obtain ⟨kg, kc, k5, rfl, hkg, hk1, hk9, hk5, hkc, hRk⟩ := hR'
          have hft := hfit _ rfl
          have hmm : mass (.flt op path t) ≤ 10000000 := hmo
          have hl : (textS (.flt op path t)).length ≤ 140737488355328 := by unfold Fit at hft; omega
          have hlk : (textS t).length ≤ 140737488355328 := by
            have h := hl
            unfold textS at h
            simp at h
            omega
          obtain ⟨a0, a1, a2, a3, a4, rfl⟩ := five hk5
          obtain ⟨b0, b1, _⟩ := cell_row3 hrow
          have up : ∀ W, Below wr.heap.size wr W → Below w4.heap.size wr W := fun W hW => hW.mono hs4
          have HC16 : Hid (∀ W, Below wr.heap.size wr W → Calls Tryd.prog 16 #[.pointer (some ⟨fb, 0, none⟩)] W fun e w' => e = .returned (.string (B (textS (.flt op path t)))) ∧ Below W.heap.size W w') := fun W hW => ferr_any _ w4.heap.size _ W (isE_below (up W hW) _ _ hE2) (Nat.le_trans hs4 hW.size) (htw.below (up W hW)) hl
          have HC15 : Hid (∀ W, Below wr.heap.size wr W → Calls Tryd.prog 15 #[.agg #[.int .i64 2, .int .i64 0, .string (B op), .string (B path), .slice (some ⟨kg, 0, none⟩) 1 kc]] W fun e w' => e = .returned (.string (B (textS (.flt op path t)))) ∧ Below W.heap.size W w') := fun W hW => rtext_any (some (.flt op path t)) w4.heap.size _ W (isR_below (up W hW) _ _ hR2) (Nat.le_trans hs4 hW.size) (htw.below (up W hW)) hl
          have HC17 : Hid (∀ W, Below wr.heap.size wr W → Calls Tryd.prog 17 #[.pointer (some ⟨fb, 0, none⟩)] W fun e w' => e = .returned ev ∧ w' = W) := fun W hW => funwrap_any fb _ _ ev W ((hW.block fb (by omega)).trans hrow)
          have HC14 : Hid (∀ W, Below wr.heap.size wr W → Calls Tryd.prog 14 #[ev] W fun e w' => e = .returned (.string (B (textS t))) ∧ Below W.heap.size W w') := fun W hW => text_any (some t) w4.heap.size _ W (isE_below (up W hW) _ _ hEk) (Nat.le_trans hs4 hW.size) (htw.below (up W hW)) hlk
          have HC15k : Hid (∀ W, Below wr.heap.size wr W → Calls Tryd.prog 15 #[.agg #[a0, a1, a2, a3, a4]] W fun e w' => e = .returned (.string (B (textS t))) ∧ Below W.heap.size W w') := fun W hW => rtext_any (some t) w4.heap.size _ W (isR_below (up W hW) _ _ hRk) (Nat.le_trans hs4 hW.size) (htw.below (up W hW)) hlk
          have HSS : Hid (∀ W, Below wr.heap.size wr W → W.cell? ⟨fb, 0, none⟩ = some (.string (B op)) ∧ W.cell? ⟨fb, 1, none⟩ = some (.string (B path)) ∧ W.cell? ⟨g2, i * 5, none⟩ = some (.int .i64 2) ∧ W.cell? ⟨g2, i * 5 + 1, none⟩ = some (.int .i64 0) ∧ W.cell? ⟨g2, i * 5 + 2, none⟩ = some (.string (B op)) ∧ W.cell? ⟨g2, i * 5 + 3, none⟩ = some (.string (B path)) ∧ W.cell? ⟨g2, i * 5 + 4, none⟩ = some (.slice (some ⟨kg, 0, none⟩) 1 kc) ∧ W.cell? ⟨kg, 0, none⟩ = some a0 ∧ W.cell? ⟨kg, 1, none⟩ = some a1 ∧ W.cell? ⟨kg, 2, none⟩ = some a2 ∧ W.cell? ⟨kg, 3, none⟩ = some a3 ∧ W.cell? ⟨kg, 4, none⟩ = some a4) := fun W hW => by
            have e1 : ∀ (y : Nat) z, wr.cell? ⟨fb, y, none⟩ = some z → W.cell? ⟨fb, y, none⟩ = some z := fun y z h => (hW.cell (p := ⟨fb, y, none⟩) (by show fb < _; omega)).trans h
            have e2 : ∀ (y : Nat) z, [iv 2, iv 0, .string (B op), .string (B path), .slice (some ⟨kg, 0, none⟩) 1 kc][y]? = some z → W.cell? ⟨g2, i * 5 + y, none⟩ = some z := fun y z h => (hW.cell (p := ⟨g2, i * 5 + y, none⟩) hg2').trans (cz y z h)
            have e3 : ∀ (y : Nat) z, [a0, a1, a2, a3, a4][y]? = some z → W.cell? ⟨kg, y, none⟩ = some z := fun y z h => (hW.cell (p := ⟨kg, y, none⟩) (by show kg < _; omega)).trans (hkc y z h)
            exact ⟨e1 0 _ b0, e1 1 _ b1, e2 0 _ rfl, e2 1 _ rfl, e2 2 _ rfl, e2 3 _ rfl, e2 4 _ rfl, e3 0 _ rfl, e3 1 _ rfl, e3 2 _ rfl, e3 3 _ rfl, e3 4 _ rfl⟩
          have hfw : fb < wr.heap.size := by omega
          have hkw : kg < wr.heap.size := by omega
          obtain ⟨d0, d1, d2, d3, d4, d5, d6, d7, d8, d9, d10, d11⟩ := HSS.out wr (Below.refl _ _)
          have HB5 : Hid (Below wr.heap.size wr wr.drew) := (Below.refl _ _).drew
          generalize B (textS (.flt op path t)) = tx at HC16 HC15
          generalize B (textS t) = ty at HC14 HC15k
          generalize B op = so at HC15 HSS d0 d4
          generalize B path = sp at HC15 HSS d1 d5
          clear hE hR cz h5 hfit hmo htw hft hmm hl hlk hE2 hR2 hrow hEk hkc hRk b0 b1 up hk5
          go_wp2_with fail
          go_cut [110] from 18 to 135 (fun v w' => v = .bool false ∧ Below wr.heap.size wr w')
          case first =>
            go_region_held3 (fun W => W.cell? ⟨fb, 0, none⟩ = some (.string so) ∧ W.cell? ⟨fb, 1, none⟩ = some (.string sp) ∧ W.cell? ⟨g2, i * 5, none⟩ = some (.int .i64 2) ∧ W.cell? ⟨g2, i * 5 + 1, none⟩ = some (.int .i64 0) ∧ W.cell? ⟨g2, i * 5 + 2, none⟩ = some (.string so) ∧ W.cell? ⟨g2, i * 5 + 3, none⟩ = some (.string sp) ∧ W.cell? ⟨g2, i * 5 + 4, none⟩ = some (.slice (some ⟨kg, 0, none⟩) 1 kc) ∧ W.cell? ⟨kg, 0, none⟩ = some a0 ∧ W.cell? ⟨kg, 1, none⟩ = some a1 ∧ W.cell? ⟨kg, 2, none⟩ = some a2 ∧ W.cell? ⟨kg, 3, none⟩ = some a3 ∧ W.cell? ⟨kg, 4, none⟩ = some a4) (first | (exact HSS.out _ HB5.out) | (exact HSS.out _ (Below.refl _ _))) (first
              | (go_at_call 16; refine (HC16.out _ HB5.out).mono ?_; rintro e w6 ⟨rfl, hb6⟩; have hq := hid_in (HB5.out.trans (hb6.mono HB5.out.size)); clear HB5 hb6; have HB5 := hq; clear hq)
              | (go_at_call 15; refine (HC15.out _ HB5.out).mono ?_; rintro e w6 ⟨rfl, hb6⟩; have hq := hid_in (HB5.out.trans (hb6.mono HB5.out.size)); clear HB5 hb6 HC15; have HB5 := hq; clear hq)
              | (go_at_call 15; refine (HC15k.out _ HB5.out).mono ?_; rintro e w6 ⟨rfl, hb6⟩; have hq := hid_in (HB5.out.trans (hb6.mono HB5.out.size)); clear HB5 hb6; have HB5 := hq; clear hq)
              | (go_at_call 17; refine (HC17.out _ HB5.out).mono ?_; rintro e w6 ⟨rfl, hw6⟩; subst hw6)
              | (go_at_call 14; refine (HC14.out _ HB5.out).mono ?_; rintro e w6 ⟨rfl, hb6⟩; have hq := hid_in (HB5.out.trans (hb6.mono HB5.out.size)); clear HB5 hb6; have HB5 := hq; clear hq))
            all_goals
              go_wp2_with fail
              go_meet
              exact ⟨rfl, HB5.out⟩
          case rest =>
            obtain ⟨rfl, hbc⟩ := hcut
            have HBC := hid_in (hbw.out.trans (hbc.mono hbw.out.size))
            clear hbc
            go_wp2_with fail
            go_region
            all_goals
              go_wp2_with fail
              exact ⟨⟨i + 1, by omega, by go_num, HBC.out.drew⟩, by simp [intOf]; omega⟩
        | lst ts =>
          have hE' : IsE w4.heap.size wr (.lst ts) u := hE
          have hR' : IsR w4.heap.size wr (.lst ts) u5 := hR
          have hE2 := hE'
          have hR2 := hR'
          unfold IsE at hE'
          unfold IsR at hR'
          obtain ⟨fb, fg, fc, vs, rfl, hfb, hrow, hfg, hf2, hfl, hf9, hfcl, hEk⟩ := hE'
          obtain ⟨kg, kc, kss, rfl, hkg, hk2, hkl, hk9, hk5, hkc, hRk⟩ := hR'
          have hft := hfit _ rfl
          have hmm : mass (.lst ts) ≤ 10000000 := hmo
          have hl : (textS (.lst ts)).length ≤ 140737488355328 := by unfold Fit at hft; omega
          have hml : (ts.list.map mass).sum ≤ 10000000 := by
            have h := hmm
            unfold mass at h
            rw [massL_list] at h
            omega
          have hvl := (isEs_list hEk).1
          have hv9 : vs.length ≤ 100000000 := by have := len_massL ts.list; omega
          have hlk : ∀ t ∈ ts.list, (textS t).length ≤ 140737488355328 := fun t ht => Nat.le_trans (kid_le ht) hl
          have up : ∀ W, Below wr.heap.size wr W → Below w4.heap.size wr W := fun W hW => hW.mono hs4
          have HC18 : Hid (∀ W, Below wr.heap.size wr W → Calls Tryd.prog 18 #[.pointer (some ⟨fb, 0, none⟩)] W fun e w' => e = .returned (.string (B (textS (.lst ts)))) ∧ Below W.heap.size W w') := fun W hW => lerr_any _ w4.heap.size _ W (isE_below (up W hW) _ _ hE2) (Nat.le_trans hs4 hW.size) (htw.below (up W hW)) hl
          have HC15 : Hid (∀ W, Below wr.heap.size wr W → Calls Tryd.prog 15 #[.agg #[.int .i64 3, .int .i64 0, .string { data := #[] }, .string { data := #[] }, .slice (some ⟨kg, 0, none⟩) kss.length kc]] W fun e w' => e = .returned (.string (B (textS (.lst ts)))) ∧ Below W.heap.size W w') := fun W hW => rtext_any (some (.lst ts)) w4.heap.size _ W (isR_below (up W hW) _ _ hR2) (Nat.le_trans hs4 hW.size) (htw.below (up W hW)) hl
          have HC19 : Hid (∀ W, Below wr.heap.size wr W → Calls Tryd.prog 19 #[.pointer (some ⟨fb, 0, none⟩), .slice (some ⟨kg, 0, none⟩) kss.length kc] W fun e w' => e = .returned (.bool true) ∧ Below W.heap.size W w') := fun W hW =>
            listed_any ts w4.heap.size fb fg fc kg kc vs kss W ((hW.block fb (by omega)).trans hrow) hfb hfg (fun j z hz => (hW.cell (p := ⟨fg, j, none⟩) (by show fg < _; omega)).trans (hfcl j z hz)) (isEs_below (up W hW) hEk) hf2 hv9 hkg hkl hk9 hk5 (fun j y z q h1 h2 => (hW.cell (p := ⟨kg, j * 5 + y, none⟩) (by show kg < _; omega)).trans (hkc j y z q h1 h2)) (isRs_below (up W hW) hRk) (Nat.le_trans hs4 hW.size) (htw.below (up W hW)) hlk
          obtain ⟨kn, hkn⟩ : ∃ kn, kss.length = kn := ⟨_, rfl⟩
          rw [hkn] at HC15 HC19 hkl hk2 cz
          have HSS : Hid (∀ W, Below wr.heap.size wr W → W.cell? ⟨g2, i * 5, none⟩ = some (.int .i64 3) ∧ W.cell? ⟨g2, i * 5 + 1, none⟩ = some (.int .i64 0) ∧ W.cell? ⟨g2, i * 5 + 2, none⟩ = some (.string { data := #[] }) ∧ W.cell? ⟨g2, i * 5 + 3, none⟩ = some (.string { data := #[] }) ∧ W.cell? ⟨g2, i * 5 + 4, none⟩ = some (.slice (some ⟨kg, 0, none⟩) kn kc)) := fun W hW => by
            have e2 : ∀ (y : Nat) z, [iv 3, iv 0, e0, e0, .slice (some ⟨kg, 0, none⟩) kn kc][y]? = some z → W.cell? ⟨g2, i * 5 + y, none⟩ = some z := fun y z h => (hW.cell (p := ⟨g2, i * 5 + y, none⟩) hg2').trans (cz y z h)
            exact ⟨e2 0 _ rfl, e2 1 _ rfl, e2 2 _ rfl, e2 3 _ rfl, e2 4 _ rfl⟩
          have hfw : fb < wr.heap.size := by omega
          have hkw : kg < wr.heap.size := by omega
          obtain ⟨d0, d1, d2, d3, d4⟩ := HSS.out wr (Below.refl _ _)
          generalize B (textS (.lst ts)) = tx at HC18 HC15
          clear hE hR cz h5 hfit hmo htw hft hmm hl hlk hE2 hR2 hrow hEk hkc hRk up hk5 hfcl hml hvl hv9 hkn
          go_wp2_with fail
          go_cut [110] from 18 to 135 (fun v w' => v = .bool false ∧ w' = wr.drew)
          case first =>
            go_region
            all_goals
              go_wp2_with fail
              go_meet
              exact ⟨rfl, rfl⟩
          case rest =>
            obtain ⟨rfl, rfl⟩ := hcut
            have HB5 : Hid (Below wr.heap.size wr wr.drew.drew) := (Below.refl _ _).drew.drew
            go_wp2_with fail
            go_region_held3 (fun W => W.cell? ⟨g2, i * 5, none⟩ = some (.int .i64 3) ∧ W.cell? ⟨g2, i * 5 + 1, none⟩ = some (.int .i64 0) ∧ W.cell? ⟨g2, i * 5 + 2, none⟩ = some (.string { data := #[] }) ∧ W.cell? ⟨g2, i * 5 + 3, none⟩ = some (.string { data := #[] }) ∧ W.cell? ⟨g2, i * 5 + 4, none⟩ = some (.slice (some ⟨kg, 0, none⟩) kn kc)) (first | (exact HSS.out _ HB5.out) | (exact HSS.out _ (Below.refl _ _)) | (exact HSS.out _ (Below.refl _ _).drew)) (first
              | (go_at_call 18; refine (HC18.out _ HB5.out).mono ?_; rintro e w6 ⟨rfl, hb6⟩; have hq := hid_in (HB5.out.trans (hb6.mono HB5.out.size)); clear HB5 hb6; have HB5 := hq; clear hq)
              | (go_at_call 15; refine (HC15.out _ HB5.out).mono ?_; rintro e w6 ⟨rfl, hb6⟩; have hq := hid_in (HB5.out.trans (hb6.mono HB5.out.size)); clear HB5 hb6; have HB5 := hq; clear hq)
              | (go_at_call 19; refine (HC19.out _ HB5.out).mono ?_; rintro e w6 ⟨rfl, hb6⟩; have hq := hid_in (HB5.out.trans (hb6.mono HB5.out.size)); clear HB5 hb6; have HB5 := hq; clear hq))
            all_goals
              go_wp2_with fail
              exact ⟨⟨i + 1, by omega, by go_num, hbw.out.trans (HB5.out.mono hbw.out.size)⟩, by simp [intOf]; omega⟩
    · go_wp2_with fail
      go_ret
      exact ⟨rfl, HB4.out.trans (hbw.out.mono HB4.out.size)⟩
end Go.Proofs.YtaaojfgakgjlkaaDoor
