/-
  listed: does a list tell these errors, each time anew?
-/
import Derived.Test.YtaaojfgakgjlkaaDoorF3
import Derived.Deep.RegionHeld3
namespace Go.Proofs.YtaaojfgakgjlkaaDoor
open Go.RowKit

theorem isE_one {n : Nat} {W : World} {T : Tr} {v : Value} (hv : IsE n W T v) : v.oneCell' = true := by
  cases T with
  | num k => unfold IsE at hv; obtain ⟨rfl, _⟩ := hv; rfl
  | flt op path t => unfold IsE at hv; obtain ⟨b, ev, rfl, _⟩ := hv; rfl
  | lst ts => unfold IsE at hv; obtain ⟨b, g, cap, vs, rfl, _⟩ := hv; rfl
theorem take_at {cur : Array Value} {vs : List Value} (h : cur.toList.take vs.length = vs) {j : Nat} {u : Value} (hu : vs[j]? = some u) : cur[j]? = some u := by
  have hj := (List.getElem?_eq_some_iff.1 hu).1
  rw [← h, List.getElem?_take, if_pos hj, Array.getElem?_toList] at hu
  exact hu
set_option maxHeartbeats 4000000 in
set_option maxRecDepth 100000 in
theorem listed_any (ts : TrL) (n : Nat) (b g cap g2 cap2 : Nat) (vs : List Value) (uss : List (List Value)) (w : World) (h : w.heap[b]? = some (.cells #[.slice (some ⟨g, 0, none⟩) vs.length cap] 65 (0, 0))) (hb : b < n) (hg : g < n) (hc : ∀ (j : Nat) u, vs[j]? = some u → w.cell? ⟨g, j, none⟩ = some u) (hA : IsEs n w ts vs) (h0 : 2 ≤ vs.length) (hl : vs.length ≤ 100000000)
    (hg2 : g2 < n) (_hcap : uss.length ≤ cap2) (_hcap2 : cap2 ≤ 9223372036854775807) (h5 : ∀ us ∈ uss, us.length = 5) (hc2 : ∀ (j i : Nat) us u, uss[j]? = some us → us[i]? = some u → w.cell? ⟨g2, j * 5 + i, none⟩ = some u) (hR : IsRs n w ts uss)
    (hn : n ≤ w.heap.size) (ht : Tab n w) (hlen : ∀ t ∈ ts.list, (textS t).length ≤ 140737488355328) :
    Calls Tryd.prog 19 #[.pointer (some ⟨b, 0, none⟩), .slice (some ⟨g2, 0, none⟩) uss.length cap2] w fun e w' => e = .returned (.bool true) ∧ Below w.heap.size w w' := by
  obtain ⟨hl1, hA1⟩ := isEs_list hA
  obtain ⟨hl2, hR1⟩ := isRs_list hR
  have HAL := hid_in hA1
  have HRL := hid_in hR1
  have HLE := hid_in hlen
  have HL1 := hid_in hl1
  have HN := hid_in hn
  have HT := hid_in ht
  have HU : Hid (∀ W, Below w.heap.size w W → Calls Tryd.prog 29 #[.pointer (some ⟨b, 0, none⟩)] W fun e w' => ∃ g3 cap3 cur, e = .returned (.slice (some ⟨g3, 0, none⟩) vs.length cap3) ∧ vs.length ≤ cap3 ∧ cap3 ≤ 9223372036854775807 ∧ W.heap.size ≤ g3 ∧ w'.heap[g3]? = some (.cells cur 30 (0, 0)) ∧ cur.toList.take vs.length = vs ∧ Below W.heap.size W w') := fun W hW =>
    lunwrap_any b g cap vs W ((hW.block b (by omega)).trans h) (fun j u hu => (hW.cell (p := ⟨g, j, none⟩) (by show g < _; omega)).trans (hc j u hu)) (fun u hu => by
      obtain ⟨x, hx⟩ := List.mem_iff_getElem?.1 hu
      obtain ⟨t, _, ht⟩ := hA1 x u hx
      exact isE_one ht) hl (by omega)
  have HC2 := hid_in hc2
  have H5 := hid_in h5
  have HG2 := hid_in hg2
  have hll : uss.length = vs.length := by rw [hl2, hl1]
  obtain ⟨k, hk⟩ : ∃ k, vs.length = k := ⟨_, rfl⟩
  rw [hll, hk] at _hcap ⊢
  rw [hk] at HU h0 hl
  have HK := hid_in hk
  have HK2 := hid_in (hll.trans hk)
  clear h hb hg hc hA hc2 h5 hg2 hR hn ht hlen hl1 hl2 hA1 hR1 hll hk
  go_enter Tryd.func19, Tryd.ntmps19
  go_wp2_with fail
  go_loopw [5] (fun v W => ∃ i : Nat, i ≤ 2 ∧ v = .int .i64 (i : Int) ∧ Hid (Below w.heap.size w W)) (fun v _ => 2 - (intOf v).toNat)
  case atStart => exact ⟨0, by omega, rfl, Below.refl _ _⟩
  case round =>
    obtain ⟨i, hi, rfl, hbw⟩ := hrel
    by_cases hlt : i < 2
    · go_wp2_with (first
        | (go_at_call 29; refine (HU.out wr hbw.out).mono ?_; rintro e w1 ⟨g3, cap3, cur, rfl, hc3, hc4, hg3, hgr, htk, hb1⟩; have HGR := hid_in hgr; have HTK := hid_in htk; have HB1 := hid_in (hbw.out.trans (hb1.mono hbw.out.size)); have hg3' : w.heap.size ≤ g3 := Nat.le_trans hbw.out.size hg3; clear hgr htk hb1 hg3))
      go_loopw [7] (fun v W => ∃ j : Nat, j ≤ k ∧ v = .int .i64 (j : Int) ∧ Hid (Below w.heap.size w W) ∧ Hid (∃ cur' : Array Value, W.heap[g3]? = some (.cells cur' 30 (0, 0)) ∧ ∀ (x : Nat) u, j ≤ x → vs[x]? = some u → cur'[x]? = some u)) (fun v _ => k - (intOf v).toNat)
      case atStart => exact ⟨0, by omega, rfl, HB1.out, cur, HGR.out, fun x u _ hu => take_at (by rw [HK.out]; exact HTK.out) hu⟩
      case round =>
        obtain ⟨j, hj, rfl, hbq, hcq⟩ := hrel
        by_cases hjl : j < k
        · obtain ⟨u, hu⟩ : ∃ u, vs[j]? = some u := ⟨_, List.getElem?_eq_getElem (by rw [HK.out]; exact hjl)⟩
          obtain ⟨us, hus⟩ : ∃ us, uss[j]? = some us := ⟨_, List.getElem?_eq_getElem (by rw [HK2.out]; exact hjl)⟩
          obtain ⟨t, htj, hE⟩ := HAL.out j u hu
          obtain ⟨t', htj', hE2⟩ := HRL.out j us hus
          obtain rfl : t = t' := by rw [htj] at htj'; exact Option.some.inj htj'
          have hlt2 := HLE.out t (List.mem_of_getElem? htj)
          obtain ⟨cur', hgr', hcc⟩ := hcq.out
          have cu : wr.cell? ⟨g3, j, none⟩ = some u := by rw [cell_of_row _ g3 j _ _ (0, 0) hgr']; exact hcc j u (Nat.le_refl _) hu
          have hgl : g3 < wr.heap.size := (Array.getElem?_eq_some_iff.1 hgr').1
          obtain ⟨a0, a1, a2, a3, a4, rfl⟩ := five (H5.out us (List.mem_of_getElem? hus))
          have HG := hid_in hgr'
          have HCC := hid_in hcc
          have HT14 : Hid (∀ W, Below wr.heap.size wr W → Calls Tryd.prog 14 #[u] W fun e w' => e = .returned (.string (B (textS t))) ∧ Below W.heap.size W w') := fun W hW =>
            text_any (some t) n u W (isE_below ((hbq.out.trans (hW.mono hbq.out.size)).mono HN.out) t u hE) (Nat.le_trans HN.out (Nat.le_trans hbq.out.size hW.size)) (HT.out.below ((hbq.out.trans (hW.mono hbq.out.size)).mono HN.out)) hlt2
          have HT15 : Hid (∀ W, Below wr.heap.size wr W → Calls Tryd.prog 15 #[.agg #[a0, a1, a2, a3, a4]] W fun e w' => e = .returned (.string (B (textS t))) ∧ Below W.heap.size W w') := fun W hW =>
            rtext_any (some t) n [a0, a1, a2, a3, a4] W (isR_below ((hbq.out.trans (hW.mono hbq.out.size)).mono HN.out) t _ hE2) (Nat.le_trans HN.out (Nat.le_trans hbq.out.size hW.size)) (HT.out.below ((hbq.out.trans (hW.mono hbq.out.size)).mono HN.out)) hlt2
          have cz : ∀ (y : Nat) z, [a0, a1, a2, a3, a4][y]? = some z → wr.cell? ⟨g2, j * 5 + y, none⟩ = some z := fun y z hy => (hbq.out.cell (p := ⟨g2, j * 5 + y, none⟩) (Nat.lt_of_lt_of_le HG2.out HN.out)).trans (HC2.out j y _ z hus hy)
          have hgl2 : g2 < wr.heap.size := Nat.lt_of_lt_of_le HG2.out (Nat.le_trans HN.out hbq.out.size)
          have HS : Hid (∀ W, Below wr.heap.size wr W → W.cell? ⟨g3, j, none⟩ = some u ∧ W.cell? ⟨g2, j * 5, none⟩ = some a0 ∧ W.cell? ⟨g2, j * 5 + 1, none⟩ = some a1 ∧ W.cell? ⟨g2, j * 5 + 2, none⟩ = some a2 ∧ W.cell? ⟨g2, j * 5 + 3, none⟩ = some a3 ∧ W.cell? ⟨g2, j * 5 + 4, none⟩ = some a4) := fun W hW => by
            have e2 : ∀ y z, [a0, a1, a2, a3, a4][y]? = some z → W.cell? ⟨g2, j * 5 + y, none⟩ = some z := fun y z hy => (hW.cell (p := ⟨g2, j * 5 + y, none⟩) hgl2).trans (cz y z hy)
            exact ⟨(hW.cell (p := ⟨g3, j, none⟩) hgl).trans cu, e2 0 _ rfl, e2 1 _ rfl, e2 2 _ rfl, e2 3 _ rfl, e2 4 _ rfl⟩
          have o0 := hid_in hus
          obtain ⟨tx, htx⟩ : ∃ tx, B (textS t) = tx := ⟨_, rfl⟩
          rw [htx] at HT14 HT15
          have kj : (j : Int) < (k : Int) := by omega
          clear hcq hgr' hcc cz hu hus htj htj' hE hE2 hlt2 cu htx
          go_wp2_with fail
          go_region_held3 (fun W => W.cell? ⟨g3, j, none⟩ = some u ∧ W.cell? ⟨g2, j * 5, none⟩ = some a0 ∧ W.cell? ⟨g2, j * 5 + 1, none⟩ = some a1 ∧ W.cell? ⟨g2, j * 5 + 2, none⟩ = some a2 ∧ W.cell? ⟨g2, j * 5 + 3, none⟩ = some a3 ∧ W.cell? ⟨g2, j * 5 + 4, none⟩ = some a4) (first | (exact HS.out _ HB6.out) | (exact HS.out _ HB5.out) | (exact HS.out _ (Below.refl _ _).drew) | (exact HS.out _ (Below.refl _ _))) (first
            | (go_at_call 14; refine (HT14.out _ HB5.out).mono ?_; rintro e w6 ⟨rfl, hb6⟩; have HB6 := hid_in (HB5.out.trans (hb6.mono HB5.out.size)); clear hb6)
            | (go_at_call 15; refine (HT15.out _ HB5.out).mono ?_; rintro e w6 ⟨rfl, hb6⟩; have HB6 := hid_in (HB5.out.trans (hb6.mono HB5.out.size)); clear hb6)
            | (go_at_call 14; refine (HT14.out _ (Below.refl _ _).drew).mono ?_; rintro e w5 ⟨rfl, hb5⟩; have HB5 := hid_in ((Below.refl wr.heap.size wr).drew.trans hb5); clear hb5)
            | (go_at_call 15; refine (HT15.out _ (Below.refl _ _).drew).mono ?_; rintro e w5 ⟨rfl, hb5⟩; have HB5 := hid_in ((Below.refl wr.heap.size wr).drew.trans hb5); clear hb5))
          all_goals
            have c6 := (HS.out w6 HB6.out).1
            have hg6 := (HB6.out.block g3 hgl).trans HG.out
            have f6 : w6.frozen? ⟨g3, j, none⟩ = false := by simp [World.frozen?, hg6]
            have HG6 := hid_in hg6
            clear hg6
            go_wp2_with fail
            refine ⟨⟨j + 1, by omega, by go_num, (hbq.out.trans (HB6.out.mono hbq.out.size)).setCell (p := ⟨g3, j, none⟩) hg3' _, cur'.set! j .nilIface, row_put HG6.out j _, fun x z hx hz => ?_⟩, by simp [intOf]; omega⟩
            have h1 := HCC.out x z (by omega) hz
            simp only [Array.set!_eq_setIfInBounds, Array.getElem?_setIfInBounds]
            rw [if_neg (by omega)]
            exact h1
        · go_wp2_with fail
          exact ⟨⟨i + 1, by omega, by go_num, hbq⟩, by simp [intOf]; omega⟩
    · go_wp2_with fail
      go_ret
      exact ⟨rfl, hbw.out⟩
end Go.Proofs.YtaaojfgakgjlkaaDoor
