/-
  The walk of FaultTells.
-/
import Derived.Test.YtaaojfgakgjlkaaDoorT5
import Derived.Deep.RegionHeld3
namespace Go.Proofs.YtaaojfgakgjlkaaDoor
open Go.RowKit

theorem deep_massT (T : Tr) : deepT T ≤ mass T := by
  refine Tr.rec (motive_1 := fun T => deepT T ≤ mass T) (motive_2 := fun ts => ∀ t r, ts = .cons t r → deepT t ≤ mass t) ?_ ?_ ?_ ?_ ?_ T
  · intro k; simp [deepT, mass]
  · intro op path t ih; simp only [deepT, mass]; omega
  · intro ts ih
    cases ts with
    | nil => simp [deepT, mass]
    | cons t r => have := ih t r rfl; simp only [deepT, mass, massL]; omega
  · intro t r h; cases h
  · intro t ts h1 _ t' r' h; cases h; exact h1
theorem deep_mass (o : Option Tr) : deepO o ≤ massO o := by
  cases o with
  | none => simp [deepO]
  | some T => exact deep_massT T
theorem opsO_le (o : Option Tr) : (opsO o).length ≤ deepO o := by
  cases o with
  | none => simp [opsO]
  | some T => exact ops_le T
theorem isRO_cells {n : Nat} {W : World} {o : Option Tr} {vs : List Value} (h : IsRO n W o vs) : ∃ (k c : Nat) (op path : ByteArray) (p : Option Addr) (m cap : Nat), vs = [iv k, iv c, .string op, .string path, .slice p m cap] ∧ (k = 0 ↔ o = none) := by
  cases o with
  | none => obtain rfl : vs = noneR := h; exact ⟨_, _, _, _, _, _, _, rfl, by simp⟩
  | some T =>
    have h' : IsR n W T vs := h
    cases T with
    | num k => unfold IsR at h'; obtain ⟨rfl, _⟩ := h'; exact ⟨_, _, _, _, _, _, _, rfl, by simp⟩
    | flt op path t => unfold IsR at h'; obtain ⟨g, cap, us, rfl, _⟩ := h'; exact ⟨_, _, _, _, _, _, _, rfl, by simp⟩
    | lst ts => unfold IsR at h'; obtain ⟨g, cap, uss, rfl, _⟩ := h'; exact ⟨_, _, _, _, _, _, _, rfl, by simp⟩
theorem old_cells {W W' : World} {p : Option Addr} {g c k : Nat} {xs : List Value} (hk : xs.length = k) (hq : 0 < k → p = some ⟨g, 0, none⟩ ∧ k ≤ c ∧ c ≤ 9223372036854775807 ∧ g < W.heap.size) (hc : ∀ (j : Nat) u, xs[j]? = some u → W.cell? ⟨g, j, none⟩ = some u) (hb : Below W.heap.size W W') : ∀ (j : Nat) u, xs[j]? = some u → W'.cell? ⟨g, j, none⟩ = some u := by
  intro j u hu
  have hj := (List.getElem?_eq_some_iff.1 hu).1
  exact (hb.cell (p := ⟨g, j, none⟩) (hq (by omega)).2.2.2).trans (hc j u hu)
set_option maxHeartbeats 8000000 in
set_option maxRecDepth 100000 in
theorem tells_any (p : Option Addr) (cap b o : Nat) (ss : List St) (w : World) (hp : ss ≠ [] → p = some ⟨b, o, none⟩ ∧ b < w.heap.size) (hs : Steps w b o ss) (hcap : ss.length ≤ cap) (hbig : cap ≤ 9223372036854775807)
    (hg : w.cell? ⟨0, 0, none⟩ = some (.iface 87 (.agg #[.pointer (some ⟨4, 30, none⟩)]))) (ht : Tab w.heap.size w) (hN : (ss.map fun s => s.op.length + s.path.length + 2).sum ≤ 10000000) :
    Calls Tryd.prog 3 #[.slice p ss.length cap] w fun e w' => e = .returned (.bool true) ∧ Below w.heap.size w w' := by
  have HAW := hid_in (awake_any w hg ht)
  have HG := hid_in hg
  have hw0 : 0 < w.heap.size := by have := ht.1; omega
  have HS : Hid (∀ W, Below w.heap.size w W → Steps W b o ss) := fun W hW => hs.below hW (fun h => (hp h).2)
  have HPB : Hid (∀ W, Below w.heap.size w W → ss ≠ [] → p = some ⟨b, o, none⟩ ∧ b < W.heap.size) := fun W hW h => ⟨(hp h).1, Nat.lt_of_lt_of_le (hp h).2 hW.size⟩
  have HM := hid_in (fun (o : Option Tr) (ho : o ∈ pile ss) => mass_pile hN ho)
  have HT := hid_in ht
  have HCAP := hid_in hcap
  clear hp hs hg ht hN hcap
  go_enter Tryd.func3, Tryd.ntmps3
  go_wp2_with (first
    | (go_at_call 5; refine HAW.out.mono ?_; rintro e w1 ⟨rfl, hb1⟩; have HB1 := hid_in hb1; clear hb1)
    | (go_at_call 6; refine (long_any p cap b o ss w1 (HPB.out _ HB1.out) (HS.out _ HB1.out) HCAP.out hbig).mono ?_; rintro e w2 ⟨⟨x, rfl⟩, hb2⟩; have HB2 := hid_in (HB1.out.trans (hb2.mono HB1.out.size)); clear hb2)
    | (go_at_call 7; refine (made_any p cap b o ss w2 (HPB.out _ HB2.out) (HS.out _ HB2.out) HCAP.out hbig).mono ?_; rintro e w3 ⟨v3, rfl, hp3, hb3⟩; obtain ⟨p1, g1, c1, us, rfl, hl1, hq1, hc1, hi1⟩ := pileP_view hp3; have HB3 := hid_in (HB2.out.trans (hb3.mono HB2.out.size)); have HL1 := hid_in hl1; have HQ1 := hid_in hq1; have HC1 := hid_in hc1; have HI1 := hid_in hi1; clear hb3 hp3 hl1 hq1 hc1 hi1)
    | (go_at_call 8; refine (make_any p cap b o ss w3 (HPB.out _ HB3.out) (HS.out _ HB3.out) HCAP.out hbig).mono ?_; rintro e w4 ⟨v4, rfl, hp4, hb4⟩; obtain ⟨p2, g2, c2, uss, rfl, hl2, hq2, hc2, hi2⟩ := pileR_view hp4; have HB34 := hid_in hb4; have HB4 := hid_in (HB3.out.trans (hb4.mono HB3.out.size)); have HL2 := hid_in hl2; have HQ2 := hid_in hq2; have HC2 := hid_in hc2; have HI2 := hid_in hi2; clear hb4 hp4 hl2 hq2 hc2 hi2))
  any_goals (go_ret; exact ⟨rfl, HB2.out⟩)
  have HMM : Hid (∀ o ∈ pile ss, massO o ≤ 10000000) := HM.out
  generalize hn : (pile ss).length = n at *
  have Hn := hid_in hn
  have hn9 : n ≤ 9223372036854775807 := by
    rcases Nat.eq_zero_or_pos n with h0 | h0
    · omega
    · obtain ⟨_, h1, h2, _⟩ := HQ1.out h0; omega
  clear hn HM HAW
  go_loopw [5] (fun v W => ∃ i : Nat, i ≤ n ∧ v = .int .i64 (i : Int) ∧ Hid (Below w4.heap.size w4 W)) (fun v _ => n - (intOf v).toNat)
  case atStart => exact ⟨0, by omega, rfl, Below.refl _ _⟩
  case round =>
    obtain ⟨i, hi, rfl, hbw⟩ := hrel
    by_cases hlt : i < n
    · obtain ⟨u, hu⟩ : ∃ u, us[i]? = some u := ⟨_, List.getElem?_eq_getElem (by rw [HL1.out]; exact hlt)⟩
      obtain ⟨u5, hu5⟩ : ∃ u5, uss[i]? = some u5 := ⟨_, List.getElem?_eq_getElem (by rw [HL2.out]; exact hlt)⟩
      obtain ⟨oo, hoo⟩ : ∃ oo, (pile ss)[i]? = some oo := ⟨_, List.getElem?_eq_getElem (by rw [Hn.out]; exact hlt)⟩
      obtain ⟨hE0, hfit⟩ := HI1.out i oo u hoo hu
      obtain ⟨hR0, h5⟩ := HI2.out i oo u5 hoo hu5
      obtain ⟨rfl, hnc1, hc19, hg1⟩ := HQ1.out (by omega)
      obtain ⟨rfl, hnc2, hc29, hg2⟩ := HQ2.out (by omega)
      have hs34 := HB34.out.size
      have hs4 := hbw.out.size
      have hE : IsO w4.heap.size wr oo u := isO_below hbw.out (isO_mono hs34 (isO_below HB34.out hE0))
      have hR : IsRO w4.heap.size wr oo u5 := isRO_below hbw.out hR0
      have hmo := HMM.out oo (List.mem_of_getElem? hoo)
      have htw : Tab w4.heap.size wr := ⟨Nat.le_trans HT.out.1 HB4.out.size, (HT.out.below (HB4.out.trans (hbw.out.mono HB4.out.size))).2⟩
      have cu : wr.cell? ⟨g1, i, none⟩ = some u := (hbw.out.cell (p := ⟨g1, i, none⟩) (by show g1 < _; omega)).trans ((HB34.out.cell (p := ⟨g1, i, none⟩) hg1).trans (HC1.out i u hu))
      have cz : ∀ (y : Nat) z, u5[y]? = some z → wr.cell? ⟨g2, i * 5 + y, none⟩ = some z := fun y z hy => (hbw.out.cell (p := ⟨g2, i * 5 + y, none⟩) hg2).trans (HC2.out i y u5 z hu5 hy)
      have hg1' : g1 < wr.heap.size := by omega
      have hg2' : g2 < wr.heap.size := by omega
      have ki : (i : Int) < (n : Int) := by omega
      clear hu hu5 hoo hE0 hR0
      have up : ∀ W, Below wr.heap.size wr W → Below w4.heap.size wr W := fun W hW => hW.mono hs4
      have hdp : deepO oo ≤ 100000000 := by have := deep_mass oo; omega
      have hl : (textO oo).length ≤ 140737488355328 := by
        cases oo with
        | none => simp [textO]
        | some T => have h := hfit T rfl; unfold Fit at h; have : mass T ≤ 10000000 := hmo; show (textS T).length ≤ _; omega
      have hgw : wr.cell? ⟨0, 0, none⟩ = some (.iface 87 (.agg #[.pointer (some ⟨4, 30, none⟩)])) := (hbw.out.cell (p := ⟨0, 0, none⟩) (by show 0 < _; have := HB4.out.size; omega)).trans ((HB4.out.cell (p := ⟨0, 0, none⟩) hw0).trans HG.out)
      obtain ⟨kd, cd, so, sp, q, qn, qc, rfl, hkd⟩ := isRO_cells hR
      have hnil : (u = .nilIface ∧ kd = 0) ∨ (∃ et ex, u = .iface et ex) ∧ 0 < kd := by
        cases oo with
        | none => exact .inl ⟨hE, hkd.2 rfl⟩
        | some T =>
          refine .inr ⟨isE_shape hE, ?_⟩
          rcases Nat.eq_zero_or_pos kd with h | h
          · cases hkd.1 h
          · exact h
      have HW9 : Hid (∀ W, Below wr.heap.size wr W → Calls Tryd.prog 9 #[.agg #[.int .i64 (kd : Int), .int .i64 (cd : Int), .string so, .string sp, .slice q qn qc]] W fun e w' => ∃ v, e = .returned (.tuple #[.int .i64 (codeO oo : Int), .string (B (pathO [] oo)), v]) ∧ w'.ownsRow W.heap.size 9 1 v (opsO oo).length ((opsO oo).map sv) ∧ Below W.heap.size W w') := fun W hW => way_any oo w4.heap.size _ W (isRO_below (up W hW) hR) (Nat.le_trans hs4 hW.size) hdp
      have HC10 : Hid (∀ W, Below wr.heap.size wr W → Calls Tryd.prog 10 #[u] W fun e w' => e = .returned (.int .i64 (codeO oo : Int)) ∧ Below W.heap.size W w') := fun W hW => code_any oo w4.heap.size _ W (isO_below (up W hW) hE) (Nat.le_trans hs4 hW.size) ((hW.cell (p := ⟨0, 0, none⟩) (by show 0 < _; have := HB4.out.size; omega)).trans hgw) hmo
      have HC11 : Hid (∀ W, Below wr.heap.size wr W → Calls Tryd.prog 11 #[u] W fun e w' => e = .returned (.string (B (pathO [] oo))) ∧ Below W.heap.size W w') := fun W hW => path_any oo w4.heap.size _ W (isO_below (up W hW) hE) (Nat.le_trans hs4 hW.size) hdp
      have HC13 : Hid (∀ W, Below wr.heap.size wr W → Calls Tryd.prog 13 #[u] W fun e w' => ∃ v', e = .returned v' ∧ w'.ownsRow W.heap.size 9 1 v' (opsO oo).length ((opsO oo).map sv) ∧ Below W.heap.size W w') := fun W hW => trace_any oo w4.heap.size _ W (isO_below (up W hW) hE) (Nat.le_trans hs4 hW.size) hdp
      have HC14 : Hid (∀ W, Below wr.heap.size wr W → Calls Tryd.prog 14 #[u] W fun e w' => e = .returned (.string (B (textO oo))) ∧ Below W.heap.size W w') := fun W hW => text_any oo w4.heap.size _ W (isO_below (up W hW) hE) (Nat.le_trans hs4 hW.size) (htw.below (up W hW)) hl
      have HC15 : Hid (∀ W, Below wr.heap.size wr W → Calls Tryd.prog 15 #[.agg #[.int .i64 (kd : Int), .int .i64 (cd : Int), .string so, .string sp, .slice q qn qc]] W fun e w' => e = .returned (.string (B (textO oo))) ∧ Below W.heap.size W w') := fun W hW => rtext_any oo w4.heap.size _ W (isRO_below (up W hW) hR) (Nat.le_trans hs4 hW.size) (htw.below (up W hW)) hl
      have HSS : Hid (∀ W, Below wr.heap.size wr W → W.cell? ⟨g1, i, none⟩ = some u ∧ W.cell? ⟨g2, i * 5, none⟩ = some (.int .i64 (kd : Int)) ∧ W.cell? ⟨g2, i * 5 + 1, none⟩ = some (.int .i64 (cd : Int)) ∧ W.cell? ⟨g2, i * 5 + 2, none⟩ = some (.string so) ∧ W.cell? ⟨g2, i * 5 + 3, none⟩ = some (.string sp) ∧ W.cell? ⟨g2, i * 5 + 4, none⟩ = some (.slice q qn qc)) := fun W hW => by
        have e2 : ∀ (y : Nat) z, [iv kd, iv cd, .string so, .string sp, .slice q qn qc][y]? = some z → W.cell? ⟨g2, i * 5 + y, none⟩ = some z := fun y z h => (hW.cell (p := ⟨g2, i * 5 + y, none⟩) hg2').trans (cz y z h)
        exact ⟨(hW.cell (p := ⟨g1, i, none⟩) hg1').trans cu, e2 0 _ rfl, e2 1 _ rfl, e2 2 _ rfl, e2 3 _ rfl, e2 4 _ rfl⟩
      have HDO : Hid ((opsO oo).length ≤ 100000000) := Nat.le_trans (opsO_le oo) hdp
      generalize hpb : B (pathO [] oo) = pb at HW9 HC11
      generalize htb : B (textO oo) = tx at HC14 HC15
      generalize hcb : codeO oo = cc at HW9 HC10
      clear hfit hmo htw hdp hl hgw hkd hE hR up hpb htb hcb cz h5
      obtain ⟨d0, d1, d2, d3, d4, d5⟩ := HSS.out wr (Below.refl _ _)
      rcases hnil with ⟨rfl, rfl⟩ | ⟨⟨et, ex, rfl⟩, hk0⟩
      · go_wp2_with fail
        go_region
        all_goals
          have HS1 : Hid (Below wr.heap.size wr wr.drew) := (Below.refl _ _).drew
          go_wp2_with (first
            | (go_at_call 9; refine (HW9.out _ HS1.out).mono ?_; rintro e w5 ⟨v5, rfl, ho5, hb5⟩; obtain ⟨p5, g5, c5, rfl, hq5, hc5⟩ := own_view ho5; have HQ5 := hid_in hq5; have HC5 := hid_in hc5; have HB5 := hid_in (HS1.out.trans hb5); have e5 := (HSS.out w5 HB5.out).1; clear ho5 hq5 hc5 hb5)
            | (go_at_call 10; refine (HC10.out _ HB5.out).mono ?_; rintro e w6 ⟨rfl, hb6⟩; have HB56 := hid_in hb6; have HB6 := hid_in (HB5.out.trans (hb6.mono HB5.out.size)); have e6 := (HSS.out w6 HB6.out).1; clear hb6)
            | (go_at_call 11; refine (HC11.out _ HB6.out).mono ?_; rintro e w7 ⟨rfl, hb7⟩; have HB57 := hid_in (HB56.out.trans (hb7.mono HB56.out.size)); have HB7 := hid_in (HB6.out.trans (hb7.mono HB6.out.size)); have e7 := (HSS.out w7 HB7.out).1; clear hb7)
            | (go_at_call 13; refine (HC13.out _ HB7.out).mono ?_; rintro e w8 ⟨v8, rfl, ho8, hb8⟩; obtain ⟨p8, g8, c8, rfl, hq8, hc8⟩ := own_view ho8; have HQ8 := hid_in hq8; have HC8 := hid_in hc8; have HB58 := hid_in (HB57.out.trans (hb8.mono HB57.out.size)); have HB8 := hid_in (HB7.out.trans (hb8.mono HB7.out.size)); clear ho8 hq8 hc8 hb8)
            | (go_at_call 12; refine (texts_any (opsO oo) p8 p5 g8 g5 c8 c5 w8 HQ8.out (fun h => ⟨(HQ5.out h).1, (HQ5.out h).2.1, (HQ5.out h).2.2.1, Nat.lt_of_lt_of_le (HQ5.out h).2.2.2 HB58.out.size⟩) HC8.out (old_cells (List.length_map _) HQ5.out HC5.out HB58.out) HDO.out).mono ?_; rintro e w9 ⟨rfl, hb9⟩; have HB9 := hid_in (HB8.out.trans (hb9.mono HB8.out.size)); clear hb9))
          have HX5 : Hid (Below wr.heap.size wr w9.drew) := HB9.out.drew
          go_region_held3 (fun W => W.cell? ⟨g1, i, none⟩ = some .nilIface ∧ W.cell? ⟨g2, i * 5, none⟩ = some (.int .i64 0) ∧ W.cell? ⟨g2, i * 5 + 1, none⟩ = some (.int .i64 (cd : Int)) ∧ W.cell? ⟨g2, i * 5 + 2, none⟩ = some (.string so) ∧ W.cell? ⟨g2, i * 5 + 3, none⟩ = some (.string sp) ∧ W.cell? ⟨g2, i * 5 + 4, none⟩ = some (.slice q qn qc)) (first | (exact HSS.out _ HX5.out) | (exact HSS.out _ HB9.out)) (first
            | (go_at_call 14; refine (HC14.out _ HX5.out).mono ?_; rintro e wx ⟨rfl, hbx⟩; have hq := hid_in (HX5.out.trans (hbx.mono HX5.out.size)); clear HX5 hbx; have HX5 := hq; clear hq)
            | (go_at_call 15; refine (HC15.out _ HX5.out).mono ?_; rintro e wx ⟨rfl, hbx⟩; have hq := hid_in (HX5.out.trans (hbx.mono HX5.out.size)); clear HX5 hbx; have HX5 := hq; clear hq))
          all_goals
            go_wp2_with fail
            exact ⟨⟨i + 1, by omega, by go_num, hbw.out.trans (HX5.out.mono hbw.out.size)⟩, by simp [intOf]; omega⟩
      · have hq0 : ((kd : Int) == 0) = false := by rw [beq_eq_false_iff_ne]; omega
        go_wp2_with fail
        go_region
        all_goals
          have HS1 : Hid (Below wr.heap.size wr wr.drew) := (Below.refl _ _).drew
          go_wp2_with (first
            | (go_at_call 9; refine (HW9.out _ HS1.out).mono ?_; rintro e w5 ⟨v5, rfl, ho5, hb5⟩; obtain ⟨p5, g5, c5, rfl, hq5, hc5⟩ := own_view ho5; have HQ5 := hid_in hq5; have HC5 := hid_in hc5; have HB5 := hid_in (HS1.out.trans hb5); have e5 := (HSS.out w5 HB5.out).1; clear ho5 hq5 hc5 hb5)
            | (go_at_call 10; refine (HC10.out _ HB5.out).mono ?_; rintro e w6 ⟨rfl, hb6⟩; have HB56 := hid_in hb6; have HB6 := hid_in (HB5.out.trans (hb6.mono HB5.out.size)); have e6 := (HSS.out w6 HB6.out).1; clear hb6)
            | (go_at_call 11; refine (HC11.out _ HB6.out).mono ?_; rintro e w7 ⟨rfl, hb7⟩; have HB57 := hid_in (HB56.out.trans (hb7.mono HB56.out.size)); have HB7 := hid_in (HB6.out.trans (hb7.mono HB6.out.size)); have e7 := (HSS.out w7 HB7.out).1; clear hb7)
            | (go_at_call 13; refine (HC13.out _ HB7.out).mono ?_; rintro e w8 ⟨v8, rfl, ho8, hb8⟩; obtain ⟨p8, g8, c8, rfl, hq8, hc8⟩ := own_view ho8; have HQ8 := hid_in hq8; have HC8 := hid_in hc8; have HB58 := hid_in (HB57.out.trans (hb8.mono HB57.out.size)); have HB8 := hid_in (HB7.out.trans (hb8.mono HB7.out.size)); clear ho8 hq8 hc8 hb8)
            | (go_at_call 12; refine (texts_any (opsO oo) p8 p5 g8 g5 c8 c5 w8 HQ8.out (fun h => ⟨(HQ5.out h).1, (HQ5.out h).2.1, (HQ5.out h).2.2.1, Nat.lt_of_lt_of_le (HQ5.out h).2.2.2 HB58.out.size⟩) HC8.out (old_cells (List.length_map _) HQ5.out HC5.out HB58.out) HDO.out).mono ?_; rintro e w9 ⟨rfl, hb9⟩; have HB9 := hid_in (HB8.out.trans (hb9.mono HB8.out.size)); clear hb9))
          have HX5 : Hid (Below wr.heap.size wr w9.drew) := HB9.out.drew
          go_region_held3 (fun W => W.cell? ⟨g1, i, none⟩ = some (.iface et ex) ∧ W.cell? ⟨g2, i * 5, none⟩ = some (.int .i64 (kd : Int)) ∧ W.cell? ⟨g2, i * 5 + 1, none⟩ = some (.int .i64 (cd : Int)) ∧ W.cell? ⟨g2, i * 5 + 2, none⟩ = some (.string so) ∧ W.cell? ⟨g2, i * 5 + 3, none⟩ = some (.string sp) ∧ W.cell? ⟨g2, i * 5 + 4, none⟩ = some (.slice q qn qc)) (first | (exact HSS.out _ HX5.out) | (exact HSS.out _ HB9.out)) (first
            | (go_at_call 14; refine (HC14.out _ HX5.out).mono ?_; rintro e wx ⟨rfl, hbx⟩; have hq := hid_in (HX5.out.trans (hbx.mono HX5.out.size)); clear HX5 hbx; have HX5 := hq; clear hq)
            | (go_at_call 15; refine (HC15.out _ HX5.out).mono ?_; rintro e wx ⟨rfl, hbx⟩; have hq := hid_in (HX5.out.trans (hbx.mono HX5.out.size)); clear HX5 hbx; have HX5 := hq; clear hq))
          all_goals
            go_wp2_with fail
            exact ⟨⟨i + 1, by omega, by go_num, hbw.out.trans (HX5.out.mono hbw.out.size)⟩, by simp [intOf]; omega⟩
    · go_wp2_with fail
      go_ret
      exact ⟨rfl, HB4.out.trans (hbw.out.mono HB4.out.size)⟩
end Go.Proofs.YtaaojfgakgjlkaaDoor
