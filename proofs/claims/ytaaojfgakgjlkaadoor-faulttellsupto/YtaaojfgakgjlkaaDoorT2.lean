/-
  Path, Trace, Texts.
-/
import Derived.Test.YtaaojfgakgjlkaaDoorT1
namespace Go.Proofs.YtaaojfgakgjlkaaDoor
open Go.RowKit

theorem own_view {W : World} {base k : Nat} {e : TypeId} {v : Value} {xs : List Value} (h : W.ownsRow base e 1 v k xs) : ∃ (p : Option Addr) (g c : Nat), v = .slice p k c ∧ (0 < k → p = some ⟨g, 0, none⟩ ∧ k ≤ c ∧ c ≤ 9223372036854775807 ∧ g < W.heap.size) ∧ ∀ (j : Nat) u, xs[j]? = some u → W.cell? ⟨g, j, none⟩ = some u := by
  have hl := h.1
  rcases h.2 with ⟨rfl, rfl⟩ | ⟨g, c, cur, rfl, hgb, hgr, hgc, hgm, hgs, hgt⟩
  · refine ⟨none, 0, 0, rfl, fun h => by omega, fun j u hu => ?_⟩
    have := (List.getElem?_eq_some_iff.1 hu).1
    omega
  · refine ⟨_, g, c, rfl, fun _ => ⟨rfl, hgc, by unfold maxLen at hgm; omega, (Array.getElem?_eq_some_iff.1 hgr).1⟩, fun j u hu => ?_⟩
    have hj := (List.getElem?_eq_some_iff.1 hu).1
    rw [cell_of_row W g j _ _ (0, 0) hgr]
    rw [← hgt, List.getElem?_take, if_pos (by omega), Array.getElem?_toList] at hu
    exact hu
def stepPath (p : Str) (x : Str × Str) : Str := if x.2 = [] then p else x.2
theorem path_ways (T : Tr) : ∀ p, pathT p T = (waysT T).foldl stepPath p := by
  refine Tr.rec (motive_1 := fun T => ∀ p, pathT p T = (waysT T).foldl stepPath p) (motive_2 := fun ts => ∀ t r, ts = .cons t r → ∀ p, pathT p t = (waysT t).foldl stepPath p) ?_ ?_ ?_ ?_ ?_ T
  · intro k p; simp [pathT, waysT]
  · intro op path t ih p; simp only [pathT, waysT, List.foldl_cons, stepPath]; exact ih _
  · intro ts ih p
    cases ts with
    | nil => simp [pathT, waysT]
    | cons t r => simp only [pathT, waysT]; exact ih t r rfl p
  · intro t r h; cases h
  · intro t ts h1 _ t' r' h; cases h; exact h1
theorem ops_ways (T : Tr) : opsT T = (waysT T).map (·.1) := by
  refine Tr.rec (motive_1 := fun T => opsT T = (waysT T).map (·.1)) (motive_2 := fun ts => ∀ t r, ts = .cons t r → opsT t = (waysT t).map (·.1)) ?_ ?_ ?_ ?_ ?_ T
  · intro k; simp [opsT, waysT]
  · intro op path t ih; simp [opsT, waysT, ih]
  · intro ts ih
    cases ts with
    | nil => simp [opsT, waysT]
    | cons t r => simp only [opsT, waysT]; exact ih t r rfl
  · intro t r h; cases h
  · intro t ts h1 _ t' r' h; cases h; exact h1
theorem ways_le (T : Tr) : (waysT T).length ≤ deepT T := by
  have h := ops_le T
  rw [ops_ways, List.length_map] at h
  exact h
theorem fold_take {ws : List (Str × Str)} {i : Nat} {x : Str × Str} (h : ws[i]? = some x) : (ws.take (i + 1)).foldl stepPath [] = stepPath ((ws.take i).foldl stepPath []) x := by
  rw [take_snocO h]; simp
set_option maxHeartbeats 4000000 in
set_option maxRecDepth 100000 in
theorem path_any (o : Option Tr) (n : Nat) (v : Value) (w : World) (hv : IsO n w o v) (hn : n ≤ w.heap.size) (hd : deepO o ≤ 100000000) :
    Calls Tryd.prog 11 #[v] w fun e w' => e = .returned (.string (B (pathO [] o))) ∧ Below w.heap.size w w' := by
  cases o with
  | none =>
    obtain rfl : v = .nilIface := hv
    clear hn hd
    go_enter Tryd.func11, Tryd.ntmps11
    go_wp2_with (first | (go_at_call 26; refine (faults_none w).mono ?_; rintro e w1 ⟨rfl, hb1⟩; have HB1 := hid_in hb1; clear hb1))
    refine wp_loop_rounds 1 ?_
    rw [rounds_succ]
    go_wp2_with fail
    go_ret
    exact ⟨rfl, HB1.out⟩
  | some T =>
    have hv' : IsE n w T v := hv
    obtain ⟨ty, x, rfl⟩ := isE_shape hv'
    have HF := hid_in (faults_some T n ty x w hv' hn hd)
    have HN := hid_in hn
    have HWL := hid_in (Nat.le_trans (ways_le T) hd)
    have HPT : Hid (pathO [] (some T) = (waysT T).foldl stepPath []) := path_ways T []
    rw [HPT.out]
    clear hv hv' hn hd
    go_enter Tryd.func11, Tryd.ntmps11
    go_wp2_with (first | (go_at_call 26; refine HF.out.mono ?_; rintro e w1 ⟨v', bs, rfl, ho1, hf1, hb1⟩; obtain ⟨p1, g1, c1, rfl, hq1, hc1⟩ := own_view ho1; have HF1 := hid_in hf1; have HQ := hid_in hq1; have HC := hid_in hc1; have HB1 := hid_in hb1; clear ho1 hf1 hq1 hc1 hb1))
    obtain ⟨k, hk⟩ : ∃ k, bs.length = k := ⟨_, rfl⟩
    rw [hk] at HQ ⊢
    have HK := hid_in hk
    have hk8 : k ≤ 100000000 := by have := HF1.out.1; have := HWL.out; omega
    clear hk
    go_loopw [3, 9] (fun v3 v9 W => ∃ i : Nat, i ≤ k ∧ v9 = .int .i64 (i : Int) ∧ v3 = .string (B (((waysT T).take i).foldl stepPath [])) ∧ W = w1) (fun _ v9 _ => k - (intOf v9).toNat)
    case atStart => exact ⟨0, by omega, rfl, rfl, rfl⟩
    case round =>
      obtain ⟨i, hi, rfl, rfl, rfl⟩ := hrel
      by_cases hlt : i < k
      · obtain ⟨rfl, hkc, hc9, hgl⟩ := HQ.out (by omega)
        obtain ⟨b, hb⟩ : ∃ b, bs[i]? = some b := ⟨_, List.getElem?_eq_getElem (by rw [HK.out]; exact hlt)⟩
        obtain ⟨x', hx'⟩ : ∃ x', (waysT T)[i]? = some x' := ⟨_, List.getElem?_eq_getElem (by rw [← HF1.out.1, HK.out]; exact hlt)⟩
        obtain ⟨hbn, d0, d1⟩ := HF1.out.2 i b x' hb hx'
        have cb : wr.cell? ⟨g1, i, none⟩ = some (.pointer (some ⟨b, 0, none⟩)) := HC.out i _ (by rw [List.getElem?_map, hb]; rfl)
        have HT := hid_in (fold_take hx')
        have tP := toL x'.2
        have ki : (i : Int) < (k : Int) := by omega
        clear hb hx' d0
        by_cases hp : x'.2 = []
        · rw [hp] at d1 tP
          go_wp2_with fail
          refine ⟨⟨i + 1, by omega, by go_num, ?_, trivial⟩, by simp [intOf]; omega⟩
          rw [HT.out]; unfold stepPath; rw [if_pos hp]
        · have hpe : x'.2.isEmpty = false := by simpa using hp
          go_wp2_with fail
          refine ⟨⟨i + 1, by omega, by go_num, ?_, trivial⟩, by simp [intOf]; omega⟩
          rw [HT.out]; unfold stepPath; rw [if_neg hp]
      · have hik : i = k := by omega
        subst hik
        have ht : (waysT T).take i = waysT T := List.take_of_length_le (by rw [← HF1.out.1, HK.out]; exact Nat.le_refl _)
        rw [ht]
        go_wp2_with fail
        go_ret
        exact ⟨rfl, HB1.out⟩
set_option maxHeartbeats 4000000 in
set_option maxRecDepth 100000 in
theorem trace_any (o : Option Tr) (n : Nat) (v : Value) (w : World) (hv : IsO n w o v) (hn : n ≤ w.heap.size) (hd : deepO o ≤ 100000000) :
    Calls Tryd.prog 13 #[v] w fun e w' => ∃ v', e = .returned v' ∧ w'.ownsRow w.heap.size 9 1 v' (opsO o).length ((opsO o).map sv) ∧ Below w.heap.size w w' := by
  cases o with
  | none =>
    obtain rfl : v = .nilIface := hv
    clear hn hd
    go_enter Tryd.func13, Tryd.ntmps13
    go_wp2_with (first | (go_at_call 26; refine (faults_none w).mono ?_; rintro e w1 ⟨rfl, hb1⟩; have HB1 := hid_in hb1; clear hb1))
    refine wp_loop_rounds 1 ?_
    rw [rounds_succ]
    go_wp2_with fail
    go_ret
    exact ⟨_, rfl, World.ownsRow_nil _ _ _ _, HB1.out⟩
  | some T =>
    obtain ⟨i9, hi9, hz0, hz1, hz2⟩ := info_parts info9
    have hv' : IsE n w T v := hv
    obtain ⟨ty, x, rfl⟩ := isE_shape hv'
    have HF := hid_in (faults_some T n ty x w hv' hn hd)
    have HN := hid_in hn
    have HWL := hid_in (Nat.le_trans (ways_le T) hd)
    have HPT : Hid (opsO (some T) = (waysT T).map (·.1)) := ops_ways T
    rw [HPT.out]
    clear hv hv' hn hd
    go_enter Tryd.func13, Tryd.ntmps13
    go_wp2_with (first | (go_at_call 26; refine HF.out.mono ?_; rintro e w1 ⟨v', bs, rfl, ho1, hf1, hb1⟩; obtain ⟨p1, g1, c1, rfl, hq1, hc1⟩ := own_view ho1; have HF1 := hid_in hf1; have HQ := hid_in hq1; have HC := hid_in hc1; have HB1 := hid_in hb1; clear ho1 hf1 hq1 hc1 hb1))
    obtain ⟨k, hk⟩ : ∃ k, bs.length = k := ⟨_, rfl⟩
    rw [hk] at HQ ⊢
    have HK := hid_in hk
    have hk8 : k ≤ 100000000 := by have := HF1.out.1; have := HWL.out; omega
    clear hk
    go_loopw [3, 9] (fun v3 v9 W => ∃ i : Nat, i ≤ k ∧ v9 = .int .i64 (i : Int) ∧ Hid (W.ownsRow w1.heap.size 9 1 v3 i (((waysT T).take i).map fun x => sv x.1)) ∧ Hid (Below w1.heap.size w1 W)) (fun _ v9 _ => k - (intOf v9).toNat)
    case atStart => exact ⟨0, by omega, rfl, World.ownsRow_nil _ _ _ _, Below.refl _ _⟩
    case round =>
      obtain ⟨i, hi, rfl, HO, HB⟩ := hrel
      by_cases hlt : i < k
      · obtain ⟨rfl, hkc, hc9, hgl⟩ := HQ.out (by omega)
        obtain ⟨b, hb⟩ : ∃ b, bs[i]? = some b := ⟨_, List.getElem?_eq_getElem (by rw [HK.out]; exact hlt)⟩
        obtain ⟨x', hx'⟩ : ∃ x', (waysT T)[i]? = some x' := ⟨_, List.getElem?_eq_getElem (by rw [← HF1.out.1, HK.out]; exact hlt)⟩
        obtain ⟨hbn, d0', d1⟩ := HF1.out.2 i b x' hb hx'
        have hs1 := HB1.out.size
        have hsw := HB.out.size
        have hbl : b < w1.heap.size := by have := HN.out; omega
        have d0 : wr.cell? ⟨b, 0, none⟩ = some (.string (B x'.1)) := (HB.out.cell (p := ⟨b, 0, none⟩) hbl).trans d0'
        have cb : wr.cell? ⟨g1, i, none⟩ = some (.pointer (some ⟨b, 0, none⟩)) := (HB.out.cell (p := ⟨g1, i, none⟩) hgl).trans (HC.out i _ (by rw [List.getElem?_map, hb]; rfl))
        have HT := hid_in (take_snocO hx')
        have ki : (i : Int) < (k : Int) := by omega
        clear hb hx' d0' d1
        go_wp2_with (first
          | (at_builtin; refine wpList_append_lies _ rfl _ _ 34 rfl w1.heap.size 9 i9 (.string ByteArray.empty) 1 16 Tryd.underlying34 hi9 hz0 hz1 hz2 rfl (by decide) u3 i _ rfl (HO.out.alloc _) ⟨wr.heap.size, 0, none⟩ 1 1 [.string (B x'.1)] rfl rfl (cell_one_new _ _ _) (by simp [Value.oneCell']) (by decide) (by unfold maxLen; omega) (by omega) (by simp; omega) (wr.heap.size + 1) (by simp) ?_; intro g2 cap2 w2 hown' hgrow hgg hgl2; have HB2 : Hid (Below w1.heap.size w1 w2) := (HB.out.alloc hsw _).grown hgrow (by simp; omega) (fun k e => own_ge HO.out k e); have HO2 := hid_in hown'; clear hown' hgrow hgg hgl2))
        refine ⟨⟨i + 1, by omega, by go_num, ?_, HB2⟩, by simp [intOf]; omega⟩
        rw [HT.out, List.map_append]
        exact HO2.out
      · have hik : i = k := by omega
        subst hik
        have ht : (waysT T).take i = waysT T := List.take_of_length_le (by rw [← HF1.out.1, HK.out]; exact Nat.le_refl _)
        rw [ht] at HO
        go_wp2_with fail
        go_ret
        refine ⟨_, rfl, ?_, HB1.out.trans (HB.out.mono HB1.out.size)⟩
        rw [List.length_map, ← HF1.out.1, HK.out, List.map_map]
        exact own_base HB1.out.size HO.out
set_option maxHeartbeats 4000000 in
set_option maxRecDepth 100000 in
theorem texts_any (xs : List Str) (p1 p2 : Option Addr) (g1 g2 c1 c2 : Nat) (w : World) (h1 : 0 < xs.length → p1 = some ⟨g1, 0, none⟩ ∧ xs.length ≤ c1 ∧ c1 ≤ 9223372036854775807 ∧ g1 < w.heap.size) (h2 : 0 < xs.length → p2 = some ⟨g2, 0, none⟩ ∧ xs.length ≤ c2 ∧ c2 ≤ 9223372036854775807 ∧ g2 < w.heap.size)
    (k1 : ∀ (j : Nat) u, (xs.map sv)[j]? = some u → w.cell? ⟨g1, j, none⟩ = some u) (k2 : ∀ (j : Nat) u, (xs.map sv)[j]? = some u → w.cell? ⟨g2, j, none⟩ = some u) (hl : xs.length ≤ 100000000) :
    Calls Tryd.prog 12 #[.slice p1 xs.length c1, .slice p2 xs.length c2] w fun e w' => e = .returned (.bool true) ∧ Below w.heap.size w w' := by
  have H1 := hid_in h1
  have H2 := hid_in h2
  have K1 := hid_in k1
  have K2 := hid_in k2
  clear h1 h2 k1 k2
  generalize hk : xs.length = k at *
  have HK := hid_in hk
  clear hk
  go_enter Tryd.func12, Tryd.ntmps12
  go_wp2_with fail
  go_loopw [5] (fun v W => ∃ i : Nat, i ≤ k ∧ v = .int .i64 (i : Int) ∧ Hid (Below w.heap.size w W)) (fun v _ => k - (intOf v).toNat)
  case atStart => exact ⟨0, by omega, rfl, Below.refl _ _⟩
  case round =>
    obtain ⟨i, hi, rfl, HB⟩ := hrel
    by_cases hlt : i < k
    · obtain ⟨rfl, a1, a2, a3⟩ := H1.out (by omega)
      obtain ⟨rfl, b1, b2, b3⟩ := H2.out (by omega)
      obtain ⟨x, hx⟩ : ∃ x, xs[i]? = some x := ⟨_, List.getElem?_eq_getElem (by rw [HK.out]; exact hlt)⟩
      have e1 : wr.cell? ⟨g1, i, none⟩ = some (.string (B x)) := (HB.out.cell (p := ⟨g1, i, none⟩) a3).trans (K1.out i _ (by rw [List.getElem?_map, hx]; rfl))
      have e2 : wr.cell? ⟨g2, i, none⟩ = some (.string (B x)) := (HB.out.cell (p := ⟨g2, i, none⟩) b3).trans (K2.out i _ (by rw [List.getElem?_map, hx]; rfl))
      have ki : (i : Int) < (k : Int) := by omega
      generalize B x = sx at e1 e2
      clear hx
      go_wp2_with fail
      go_region
      all_goals
        go_wp2_with fail
        exact ⟨⟨i + 1, by omega, by go_num, HB.out.drew⟩, by simp [intOf]; omega⟩
    · go_wp2_with fail
      go_ret
      exact ⟨rfl, HB.out⟩
end Go.Proofs.YtaaojfgakgjlkaaDoor
