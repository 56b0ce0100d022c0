/-
  The walk of the statement VpathNames.
-/
import Derived.Test.YtodfdinocnhaoaaL7
import Derived.Laws.AppendOwnNone
namespace Go.Proofs.Ytodfdinocnhaoaa
open Go.RowKit

theorem split_err {xs : List Str} (h : checkS xs ≠ 0) : splitS xs = ([], [], checkS xs) := by unfold splitS; rw [if_pos h]
theorem split_nil : splitS [] = ([], [], 132) := by decide +kernel
theorem split_ok {xs : List Str} (h : checkS xs = 0) (h0 : xs ≠ []) : splitS xs = (xs.dropLast, xs.getLastD [], 0) := by unfold splitS; rw [if_neg (by rw [h]; simp), if_neg h0]

set_option maxHeartbeats 1000000 in
set_option maxRecDepth 100000 in
theorem names_many (xs : List Str) (u : Value) (w : World) (hx : Val w u xs) (hl : 1000 < xs.length) : Calls Try.prog 4 #[u] w fun e w' => e = .returned (.bool true) ∧ Below w.heap.size w w' := by
  have HA := hid_in (awake_any w)
  obtain ⟨p, cap, rfl, hr⟩ := hx
  have hb : xs.length ≤ 9223372036854775807 := Nat.le_trans hr.le hr.big
  clear hr
  generalize xs.length = n at *
  go_enter Try.func4, Try.ntmps4
  go_wp2_with (first
    | (go_at_call 8; refine HA.out.mono ?_; rintro e w1 ⟨rfl, hbel⟩; have HB := hid_in hbel; clear hbel))
  go_ret
  exact ⟨rfl, HB.out⟩

theorem Nms.below {W W' : World} {base : Nat} {v : Value} {xs : List Str} (h : Nms W base v xs) (hb : Below W.heap.size W W') : Nms W' base v xs := by
  refine ⟨h.1, ?_⟩
  rcases h.2 with h | ⟨g, cap, cur, hv, h1, hg, rest⟩
  · exact .inl h
  · exact .inr ⟨g, cap, cur, hv, h1, (hb.block g (Array.getElem?_eq_some_iff.1 hg).1).trans hg, rest⟩
theorem rd_news2 {W : World} {a : Addr} {cap : Nat} {xs : List Str} (h : Rd W (some a) xs cap) (o : Obj) : ∀ (j : Nat) u, (xs.map sv)[j]? = some u → (W.alloc o).cell? (a.add j) = some u := by
  intro j u hu
  obtain ⟨b, o', h1, h2⟩ := h.cells
  rw [List.getElem?_map] at hu
  cases hx : xs[j]? with
  | none => rw [hx] at hu; cases hu
  | some x =>
    rw [hx] at hu; cases hu
    obtain ⟨he, hlt⟩ := h1 (by rintro rfl; simp at hx)
    cases he
    have h3 := h2 j x hx
    rw [show (⟨b, o', none⟩ : Addr).add j = ⟨b, o' + j, none⟩ by by_cases h0 : j = 0 <;> simp [Addr.add, h0]]
    rw [Below.cell (Below.alloc (Below.refl W.heap.size W) (Nat.le_refl _) o) (p := ⟨b, o' + j, none⟩) hlt]
    exact h3

theorem own_of {W : World} {base : Nat} {v : Value} {xs : List Str} (h : W.ownsRow base 9 1 v (0 + xs.length) ([] ++ xs.map sv)) : Val W v xs := by
  rw [Nat.zero_add, List.nil_append] at h
  exact Nms.val (show Nms W base v xs from h)
theorem below_app {W W' : World} {o : Obj} {g : Nat} (h : (W.alloc o).grownBy W' (Value.ownBlock (.slice (some ⟨W.heap.size, 0, none⟩) g g))) : Below W.heap.size W W' :=
  ((Below.refl W.heap.size W).alloc (Nat.le_refl _) o).grown h (by simp) (fun k e => by simp [Value.ownBlock] at e; omega)
theorem rd_of {W : World} {p : Option Addr} {cap : Nat} {xs : List Str} (h : Val W (.slice p xs.length cap) xs) : Rd W p xs cap := by
  obtain ⟨q, c, hq, hr⟩ := h
  simp only [Value.slice.injEq, true_and] at hq
  obtain ⟨rfl, rfl⟩ := hq
  exact hr

set_option maxHeartbeats 2000000 in
set_option maxRecDepth 100000 in
theorem names_err (xs : List Str) (a : Addr) (cap : Nat) (w : World) (hu : Val w (.slice (some a) xs.length cap) xs) (hl : xs.length ≤ 1000) (hb : Lib.lens xs + xs.length ≤ 140737488355328) (hc : checkS xs ≠ 0) : Calls Try.prog 4 #[.slice (some a) xs.length cap] w fun e w' => e = .returned (.bool true) ∧ Below w.heap.size w w' := by
  have HA := hid_in (awake_any w)
  obtain ⟨i9, hi9, hz0, hz1, hz2⟩ := info_parts info9
  have HSP := hid_in (fun (W : World) (v : Value) (hv : Val W v xs) => split_v hv hb (by omega))
  rw [split_err hc] at HSP
  simp only at HSP
  have HRC := hid_in (fun (W : World) (v : Value) (hv : Val W v xs) => rcheck_v hv hb)
  have HCK := hid_in (fun (W : World) (v : Value) (hv : Val W v xs) => check_v hv hb)
  have HSH := hid_in (fun (W : World) (v : Value) (hv : Val W v xs) => show_v hv hb)
  have HRS := hid_in (fun (W : World) (v : Value) (hv : Val W v xs) => rshow_v hv hb)
  obtain ⟨sx, hsx⟩ : ∃ sx, Hid (B (showS xs) = sx) := ⟨_, rfl⟩
  rw [hsx.out] at HSH HRS
  have hk0 : (checkS xs != 0) = true := by simpa using hc
  have hkk : (checkS xs != checkS xs) = false := by simp
  have hkk2 : (checkS xs == checkS xs) = true := by simp
  have hsz := toL []
  generalize B [] = sz at HSP hsz
  clear hc hb
  generalize checkS xs = k at *
  go_enter Try.func4, Try.ntmps4
  go_wp2_with (first
    | (go_at_call 8; refine HA.out.mono ?_; rintro e w1 ⟨rfl, hbel⟩; have hu := hu.below hbel; have HB := hid_in hbel; clear hbel)
    | (at_builtin; refine wpList_append_own _ rfl _ _ 23 rfl w1.heap.size 9 i9 (.string ByteArray.empty) 1 16 Try.underlying23 hi9 hz0 hz1 hz2 rfl (by decide) (.slice (some ⟨w1.heap.size, 0, none⟩) 0 0) 0 [] rfl (row_empty _ _ (Nat.le_refl _)) a xs.length cap (xs.map sv) rfl (by rw [List.length_map, Nat.mul_one]) (rd_news2 (rd_of hu) _) news_one (by unfold maxLen; omega) (by omega) (by simp) ?_; intro v' w2 hown' hgrow _; have ho := own_of hown'; have hu := hu.below (below_app hgrow); have HB := hid_in (below2 HB.out (below_app hgrow)); clear hown' hgrow)
    | (go_at_call 14; refine (HSP.out _ _ (by assumption)).mono ?_; rintro e w3 ⟨v3, rfl, hn, hbel⟩; have HB := hid_in (below2 HB.out hbel); have hu := hu.below hbel; have ho := ho.below hbel; obtain ⟨p3, k3, hv3⟩ := hn.shape; subst hv3; clear hbel hn)
    | (go_at_call 15; refine (HRC.out _ _ (by assumption)).mono ?_; rintro e w4 ⟨rfl, hw⟩; obtain rfl := hw.symm)
    | (go_at_call 16; refine (HCK.out _ _ (by assumption)).mono ?_; rintro e w5 ⟨rfl, hw⟩; obtain rfl := hw.symm)
    | (go_at_call 17; refine (HSH.out _ _ (by assumption)).mono ?_; rintro e w6 ⟨rfl, hbel⟩; have HB := hid_in (below2 HB.out hbel); have hu := hu.below hbel; have ho := ho.below hbel; skip; clear hbel)
    | (go_at_call 12; refine (HRS.out _ _ (by assumption)).mono ?_; rintro e w7 ⟨rfl, hd⟩; have HB := hid_in (below_ex HB.out hd); have hu := hu.drew hd; have ho := ho.drew hd; skip; clear hd))
  go_ret
  exact ⟨rfl, HB.out⟩

theorem val_empty {xs : List Str} (h : xs = []) (W : World) : Val (W.alloc (.cells #[] 9)) (.slice (some ⟨W.heap.size, 0, none⟩) 0 0) xs := by
  rw [h]
  exact Nms.val (show Nms _ W.heap.size _ [] from row_empty _ _ (Nat.le_refl _))
theorem own_nil {xs : List Str} (hx : xs = []) {W : World} {base : Nat} {v : Value} (h : W.ownsRow base 9 1 v (0 + 0) ([] ++ [])) : Val W v xs := by
  rw [hx]
  exact Nms.val (show Nms W base v [] from h)

set_option maxHeartbeats 2000000 in
set_option maxRecDepth 100000 in
theorem names_root_some (a : Addr) (cap : Nat) (w : World) (hu0 : Val w (.slice (some a) 0 cap) []) : Calls Try.prog 4 #[.slice (some a) 0 cap] w fun e w' => e = .returned (.bool true) ∧ Below w.heap.size w w' := by
  obtain ⟨xs, hxs⟩ : ∃ xs : List Str, Hid (xs = []) := ⟨[], rfl⟩
  have hlz : Hid (xs.length = 0) := by show _ = _; rw [hxs.out]; rfl
  have hb : Lib.lens xs + xs.length ≤ 140737488355328 := by rw [hxs.out]; decide
  have hl : xs.length ≤ 1000 := by rw [hlz.out]; omega
  have hu : Val w (.slice (some a) 0 cap) xs := by rw [hxs.out]; exact hu0
  clear hu0
  have HA := hid_in (awake_any w)
  obtain ⟨i9, hi9, hz0, hz1, hz2⟩ := info_parts info9
  have HSP := hid_in (fun (W : World) (v : Value) (hv : Val W v xs) => split_v hv hb (by omega))
  rw [show splitS xs = ([], [], 132) by rw [hxs.out]; exact split_nil] at HSP
  simp only at HSP
  have HRC := hid_in (fun (W : World) (v : Value) (hv : Val W v xs) => rcheck_v hv hb)
  have HCK := hid_in (fun (W : World) (v : Value) (hv : Val W v xs) => check_v hv hb)
  have HSH := hid_in (fun (W : World) (v : Value) (hv : Val W v xs) => show_v hv hb)
  have HRS := hid_in (fun (W : World) (v : Value) (hv : Val W v xs) => rshow_v hv hb)
  obtain ⟨sx, hsx⟩ : ∃ sx, Hid (B (showS xs) = sx) := ⟨_, rfl⟩
  rw [hsx.out] at HSH HRS
  rw [show checkS xs = 0 by rw [hxs.out]; decide +kernel] at HRC HCK
  have hsz := toL []
  generalize B [] = sz at HSP hsz
  clear hb hl
  go_enter Try.func4, Try.ntmps4
  go_wp2_with (first
    | (go_at_call 8; refine HA.out.mono ?_; rintro e w1 ⟨rfl, hbel⟩; have hu := hu.below hbel; have HB := hid_in hbel; clear hbel)
    | (at_builtin; refine wpList_append_own _ rfl _ _ 23 rfl w1.heap.size 9 i9 (.string ByteArray.empty) 1 16 Try.underlying23 hi9 hz0 hz1 hz2 rfl (by decide) (.slice (some ⟨w1.heap.size, 0, none⟩) 0 0) 0 [] rfl (row_empty _ _ (Nat.le_refl _)) a 0 cap [] rfl rfl (by intro j u h; simp at h) (by intro u h; cases h) (by unfold maxLen; omega) (by omega) (by simp) ?_; intro v' w2 hown' hgrow _; have ho := own_nil hxs.out hown'; have hu := hu.below (below_app hgrow); have HB := hid_in (below2 HB.out (below_app hgrow)); clear hown' hgrow)
    | (go_at_call 14; refine (HSP.out _ _ (by assumption)).mono ?_; rintro e w3 ⟨v3, rfl, hn, hbel⟩; have HB := hid_in (below2 HB.out hbel); have hu := hu.below hbel; have ho := ho.below hbel; obtain ⟨p3, k3, hv3⟩ := hn.shape; subst hv3; clear hbel hn)
    | (go_at_call 15; refine (HRC.out _ _ (by assumption)).mono ?_; rintro e w4 ⟨rfl, hw⟩; obtain rfl := hw.symm)
    | (go_at_call 16; refine (HCK.out _ _ (by assumption)).mono ?_; rintro e w5 ⟨rfl, hw⟩; obtain rfl := hw.symm)
    | (go_at_call 17; refine (HSH.out _ _ (by assumption)).mono ?_; rintro e w6 ⟨rfl, hbel⟩; have HB := hid_in (below2 HB.out hbel); have hu := hu.below hbel; have ho := ho.below hbel; skip; clear hbel)
    | (go_at_call 12; refine (HRS.out _ _ (by assumption)).mono ?_; rintro e w7 ⟨rfl, hd⟩; have HB := hid_in (below_ex HB.out hd); have hu := hu.drew hd; have ho := ho.drew hd; skip; clear hd))
  go_ret
  exact ⟨rfl, HB.out⟩

set_option maxHeartbeats 2000000 in
set_option maxRecDepth 100000 in
theorem names_root_none (w : World) : Calls Try.prog 4 #[.slice none 0 0] w fun e w' => e = .returned (.bool true) ∧ Below w.heap.size w w' := by
  obtain ⟨xs, hxs⟩ : ∃ xs : List Str, Hid (xs = []) := ⟨[], rfl⟩
  have hlz : Hid (xs.length = 0) := by show _ = _; rw [hxs.out]; rfl
  have hb : Lib.lens xs + xs.length ≤ 140737488355328 := by rw [hxs.out]; decide
  have hl : xs.length ≤ 1000 := by rw [hlz.out]; omega
  have hu : Val w (.slice none 0 0) xs := by rw [hxs.out]; exact Val.none w
  have HA := hid_in (awake_any w)
  obtain ⟨i9, hi9, _, _, _⟩ := info_parts info9
  have HSP := hid_in (fun (W : World) (v : Value) (hv : Val W v xs) => split_v hv hb (by omega))
  rw [show splitS xs = ([], [], 132) by rw [hxs.out]; exact split_nil] at HSP
  simp only at HSP
  have HRC := hid_in (fun (W : World) (v : Value) (hv : Val W v xs) => rcheck_v hv hb)
  have HCK := hid_in (fun (W : World) (v : Value) (hv : Val W v xs) => check_v hv hb)
  have HSH := hid_in (fun (W : World) (v : Value) (hv : Val W v xs) => show_v hv hb)
  have HRS := hid_in (fun (W : World) (v : Value) (hv : Val W v xs) => rshow_v hv hb)
  obtain ⟨sx, hsx⟩ : ∃ sx, Hid (B (showS xs) = sx) := ⟨_, rfl⟩
  rw [hsx.out] at HSH HRS
  rw [show checkS xs = 0 by rw [hxs.out]; decide +kernel] at HRC HCK
  have hsz := toL []
  generalize B [] = sz at HSP hsz
  clear hb hl
  go_enter Try.func4, Try.ntmps4
  go_wp2_with (first
    | (go_at_call 8; refine HA.out.mono ?_; rintro e w1 ⟨rfl, hbel⟩; have hu := hu.below hbel; have HB := hid_in hbel; clear hbel)
    | (at_builtin; refine wpList_append_own_none rfl _ _ 23 rfl w1.heap.size 9 i9 1 Try.underlying23 hi9 (.slice (some ⟨w1.heap.size, 0, none⟩) 0 0) 0 [] rfl (row_empty _ _ (Nat.le_refl _)) rfl ?_; have ho : Val (w1.alloc (.cells #[] 9)) (.slice (some ⟨w1.heap.size, 0, none⟩) 0 0) xs := val_empty hxs.out w1; have hbel : Below w1.heap.size w1 (w1.alloc (.cells #[] 9)) := (Below.refl _ _).alloc (Nat.le_refl _) _; have hu := hu.below hbel; have HB := hid_in (below2 HB.out hbel); clear hbel)
    | (go_at_call 14; refine (HSP.out _ _ (by assumption)).mono ?_; rintro e w3 ⟨v3, rfl, hn, hbel⟩; have HB := hid_in (below2 HB.out hbel); have hu := hu.below hbel; have ho := ho.below hbel; obtain ⟨p3, k3, hv3⟩ := hn.shape; subst hv3; clear hbel hn)
    | (go_at_call 15; refine (HRC.out _ _ (by assumption)).mono ?_; rintro e w4 ⟨rfl, hw⟩; obtain rfl := hw.symm)
    | (go_at_call 16; refine (HCK.out _ _ (by assumption)).mono ?_; rintro e w5 ⟨rfl, hw⟩; obtain rfl := hw.symm)
    | (go_at_call 17; refine (HSH.out _ _ (by assumption)).mono ?_; rintro e w6 ⟨rfl, hbel⟩; have HB := hid_in (below2 HB.out hbel); have hu := hu.below hbel; have ho := ho.below hbel; skip; clear hbel)
    | (go_at_call 12; refine (HRS.out _ _ (by assumption)).mono ?_; rintro e w7 ⟨rfl, hd⟩; have HB := hid_in (below_ex HB.out hd); have hu := hu.drew hd; have ho := ho.drew hd; skip; clear hd))
  go_ret
  exact ⟨rfl, HB.out⟩

theorem row_set {W : World} {g : Nat} {cur : Array Value} (h : W.heap[g]? = some (.cells cur 9 (0, 0))) (i : Nat) (v : Value) : ∃ cur' : Array Value, (W.setCell ⟨g, i, none⟩ v).heap[g]? = some (.cells cur' 9 (0, 0)) ∧ cur'.size = cur.size := by
  refine ⟨cur.set! i v, ?_, by simp⟩
  simp only [World.setCell, Array.getElem?_modify, if_true, h]
  simp
theorem row_at {W : World} {g : Nat} {cur : Array Value} (h : W.heap[g]? = some (.cells cur 9 (0, 0))) (i : Nat) (hi : i < cur.size) : (∃ x, W.cell? ⟨g, i, none⟩ = some x) ∧ W.frozen? ⟨g, i, none⟩ = false := by
  refine ⟨⟨cur[i], ?_⟩, by simp [World.frozen?, h]⟩
  rw [cell_of_row W g i _ _ (0, 0) h]
  exact Array.getElem?_eq_getElem hi
theorem val_cell {W : World} {b o cap : Nat} {xs : List Str} (h : Val W (.slice (some ⟨b, o, none⟩) xs.length cap) xs) {j : Nat} {x : Str} (hx : xs[j]? = some x) : W.cell? ⟨b, o + j, none⟩ = some (.string (B x)) := by
  obtain ⟨b', o', h1, h2⟩ := (rd_of h).cells
  obtain ⟨he, _⟩ := h1 (by rintro rfl; simp at hx)
  cases he
  exact h2 j x hx
theorem val_take {W : World} {p : Option Addr} {cap k : Nat} {xs : List Str} (h : Val W (.slice p xs.length cap) xs) (hk : xs.length = k + 1) : Val W (.slice p k cap) xs.dropLast := by
  refine ⟨p, cap, by simp [hk], ?_⟩
  have := (rd_of h).take k (by omega)
  rw [show xs.dropLast = xs.take k by rw [List.dropLast_eq_take, hk]; rfl]
  exact this

set_option maxHeartbeats 2000000 in
set_option maxRecDepth 100000 in
theorem names_ok (xs : List Str) (b o : Nat) (cap : Nat) (w : World) (hu0 : Val w (.slice (some ⟨b, o, none⟩) xs.length cap) xs) (hl : xs.length ≤ 1000) (hb : Lib.lens xs + xs.length ≤ 140737488355328) (hc : checkS xs = 0) (h0 : xs ≠ []) : Calls Try.prog 4 #[.slice (some ⟨b, o, none⟩) xs.length cap] w fun e w' => e = .returned (.bool true) ∧ Below w.heap.size w w' := by
  have HA := hid_in (awake_any w)
  obtain ⟨i9, hi9, hz0, hz1, hz2⟩ := info_parts info9
  have HSP := hid_in (fun (W : World) (v : Value) (hv : Val W v xs) => split_v hv hb (by omega))
  rw [split_ok hc h0] at HSP
  simp only at HSP
  have HRC := hid_in (fun (W : World) (v : Value) (hv : Val W v xs) => rcheck_v hv hb)
  have HCK := hid_in (fun (W : World) (v : Value) (hv : Val W v xs) => check_v hv hb)
  have HSH := hid_in (fun (W : World) (v : Value) (hv : Val W v xs) => show_v hv hb)
  have HRS := hid_in (fun (W : World) (v : Value) (hv : Val W v xs) => rshow_v hv hb)
  obtain ⟨sx, hsx⟩ : ∃ sx, Hid (B (showS xs) = sx) := ⟨_, rfl⟩
  rw [hsx.out] at HSH HRS
  rw [hc] at HRC HCK
  obtain ⟨k, hk⟩ : ∃ k, xs.length = k + 1 := ⟨xs.length - 1, by have := List.length_pos_iff.2 h0; omega⟩
  have hlast : Hid (xs[k]? = some (xs.getLastD [])) := by
    show _ = _
    rw [List.getLastD_eq_getLast?, List.getLast?_eq_getElem?, hk]
    have hlt : k < xs.length := by omega
    simp [List.getElem?_eq_getElem hlt]
  have HDL : Hid (xs.dropLast.length = k) := by show _ = _; simp [hk]
  have hcap : k + 1 ≤ cap := by have := (rd_of hu0).le; omega
  have hcapb := (rd_of hu0).big
  have hcapi : (k : Int) ≤ cap := by omega
  have HK := hid_in hk
  have hu : Val w (.slice (some ⟨b, o, none⟩) (k + 1) cap) xs := by rw [← hk]; exact hu0
  obtain ⟨sl, hsl⟩ : ∃ sl, Hid (B (xs.getLastD []) = sl) := ⟨_, rfl⟩
  rw [hsl.out] at HSP
  have HCL := hid_in (fun (W : World) (hv : Val W (.slice (some ⟨b, o, none⟩) (k + 1) cap) xs) => val_cell (by rw [HK.out]; exact hv) hlast.out)
  rw [hsl.out] at HCL
  have HTK := hid_in (fun (W : World) (hv : Val W (.slice (some ⟨b, o, none⟩) (k + 1) cap) xs) => val_take (by rw [HK.out]; exact hv) HK.out)
  rw [hk]
  rw [hk] at hl
  have hk0 : ((k : Int) + 1 == 0) = false := by rw [beq_eq_false_iff_ne]; omega
  clear hc hb h0 hu0 hk
  go_enter Try.func4, Try.ntmps4
  go_wp2_with (first
    | (go_at_call 8; refine HA.out.mono ?_; rintro e w1 ⟨rfl, hbel⟩; have hu := hu.below hbel; have HB := hid_in hbel; clear hbel)
    | (at_builtin; refine wpList_append_own _ rfl _ _ 23 rfl w1.heap.size 9 i9 (.string ByteArray.empty) 1 16 Try.underlying23 hi9 hz0 hz1 hz2 rfl (by decide) (.slice (some ⟨w1.heap.size, 0, none⟩) 0 0) 0 [] rfl (row_empty _ _ (Nat.le_refl _)) ⟨b, o, none⟩ (k + 1) cap (xs.map sv) rfl (by rw [List.length_map, HK.out, Nat.mul_one]) (rd_news2 (rd_of (by rw [HK.out]; exact hu)) _) news_one (by unfold maxLen; omega) (by omega) (by simp) ?_; intro v' w2 hown' hgrow _; have ho := own_of (by rw [HK.out]; exact hown'); have hu := hu.below (below_app hgrow); have HB := hid_in (below2 HB.out (below_app hgrow)); have HO2 := hid_in ho; have HU2 := hid_in hu; have HW2 := hid_in HB.out.size; clear hown' hgrow)
    | (go_at_call 14; refine (HSP.out _ _ (by assumption)).mono ?_; rintro e w3 ⟨v3, rfl, hn, hbel⟩; have HB := hid_in (below2 HB.out hbel); have hu := hu.below hbel; have ho := ho.below hbel; obtain ⟨p3, k3, hv3⟩ := hn.shape; have hv3n : v3 = .slice p3 k k3 := by { rw [hv3, HDL.out] }; have hdr := hn; have hdv := hn.val; have HB2 := hid_in hbel; rw [hv3n] at hdr hdv; subst hv3n; clear hv3; clear hbel hn)
    | (go_at_call 15; refine (HRC.out _ _ (by assumption)).mono ?_; rintro e w4 ⟨rfl, hw⟩; obtain rfl := hw.symm)
    | (go_at_call 16; refine (HCK.out _ _ (by assumption)).mono ?_; rintro e w5 ⟨rfl, hw⟩; obtain rfl := hw.symm)
    | (go_at_call 17; refine (HSH.out _ _ (by assumption)).mono ?_; rintro e w6 ⟨rfl, hbel⟩; have HB := hid_in (below2 HB.out hbel); have hu := hu.below hbel; have ho := ho.below hbel; have hdr := hdr.below hbel; have hdv := hdv.below hbel; have HB2 := hid_in (below2 HB2.out hbel); clear hbel)
    | (go_at_call 12; refine (HRS.out _ _ (by assumption)).mono ?_; rintro e w7 ⟨rfl, hd⟩; have HB := hid_in (below_ex HB.out hd); have hu := hu.drew hd; have ho := ho.drew hd; have hdr := hdr.below (below_ex (Below.refl _ _) hd); have hdv := hdv.drew hd; have HB2 := hid_in (below_ex HB2.out hd); clear hd)
    | (go_at_call 13; refine (texts_eq (by assumption) (HTK.out _ (by assumption))).mono ?_; rintro e w8 ⟨rfl, hd⟩; have HB := hid_in (below_ex HB.out hd); have hu := hu.drew hd; have hcl := HCL.out _ hu; have hdr := hdr.below (below_ex (Below.refl _ _) hd); have HB2 := hid_in (below_ex HB2.out hd); clear hd))
  rcases hdr.2 with ⟨hd1, hd2⟩ | ⟨g, cap', cur, hd1, hbg, hg, hkk, _, hsz, _⟩
  · simp only [Value.slice.injEq] at hd1
    obtain ⟨rfl, rfl, rfl⟩ := hd1
    have HT := hid_in (HO2.out.below HB2.out)
    have HT2 := hid_in (HU2.out.below HB2.out)
    clear hd2 hdr hdv hu ho hcl
    go_loopw [9] (fun vi w' => w' = w8 ∧ vi = .int .i64 0) (fun _ _ => 0)
    case atStart => exact ⟨rfl, rfl⟩
    case round =>
      obtain ⟨hw, rfl⟩ := hrel
      obtain rfl := hw.symm
      go_wp2_with (first | (go_at_call 13; refine (texts_eq HT.out HT2.out).mono ?_; rintro e w9 ⟨rfl, hd⟩; have HB := hid_in (below_ex HB.out hd); clear hd))
      go_ret
      exact ⟨rfl, HB.out⟩
  · simp only [Value.slice.injEq] at hd1
    obtain ⟨rfl, hkd, rfl⟩ := hd1
    rw [HDL.out] at hkk
    rw [Nat.mul_one] at hsz
    have HG : Hid (∃ cur : Array Value, w8.heap[g]? = some (.cells cur 9 (0, 0)) ∧ cur.size = k3) := ⟨cur, hg, hsz⟩
    clear hg hsz hdr hdv hu ho hcl hkd
    go_loopw [9] (fun vi w' => Hid (∃ cur : Array Value, w'.heap[g]? = some (.cells cur 9 (0, 0)) ∧ cur.size = k3) ∧ Hid (Below w2.heap.size w2 w') ∧ Hid (Below w.heap.size w w') ∧ ∃ i : Nat, i ≤ k ∧ vi = .int .i64 (i : Int)) (fun vi _ => k - (intOf vi).toNat)
    case atStart => exact ⟨HG, HB2, HB, 0, by omega, rfl⟩
    case round =>
      obtain ⟨hg, hb2, hbw, i, hi, rfl⟩ := hrel
      by_cases hlt : i < k
      · obtain ⟨x, hx⟩ : ∃ x, wr.cell? ⟨g, i, none⟩ = some x := by obtain ⟨cur, h1, h2⟩ := hg.out; exact (row_at h1 i (by omega)).1
        have hf : wr.frozen? ⟨g, i, none⟩ = false := by obtain ⟨cur, h1, h2⟩ := hg.out; exact (row_at h1 i (by omega)).2
        go_wp2_with fail
        go_roundw
        case rel =>
          go_light
          refine ⟨?_, hb2.out.setCell (p := ⟨g, i, none⟩) hbg _, hbw.out.setCell (p := ⟨g, i, none⟩) (Nat.le_trans HW2.out hbg) _, i + 1, by omega, by go_num⟩
          obtain ⟨cur, h1, h2⟩ := hg.out
          obtain ⟨cur', h3, h4⟩ := row_set h1 i (.string { data := #[115, 112, 111, 105, 108, 116] })
          exact ⟨cur', h3, by omega⟩
        case measure => simp [intOf]; omega
      · have hik : i = k := by omega
        have HT := hid_in (HO2.out.below hb2.out)
        have HT2 := hid_in (HU2.out.below hb2.out)
        subst hik
        go_wp2_with (first | (go_at_call 13; refine (texts_eq HT.out HT2.out).mono ?_; rintro e w9 ⟨rfl, hd⟩; have HB := hid_in (below_ex hbw.out hd); clear hd))
        go_ret
        exact ⟨rfl, HB.out⟩

theorem names_any (xs : List Str) (u : Value) (w : World) (hu : Val w u xs) (hb : Lib.lens xs + xs.length ≤ 140737488355328) : Calls Try.prog 4 #[u] w fun e w' => e = .returned (.bool true) ∧ Below w.heap.size w w' := by
  by_cases hl : 1000 < xs.length
  · exact names_many xs u w hu hl
  · by_cases h0 : xs = []
    · subst h0
      obtain ⟨p, cap, rfl, hr⟩ := hu
      cases p with
      | none =>
        obtain ⟨_, rfl⟩ := hr.nil rfl
        exact names_root_none w
      | some a => exact names_root_some a cap w hr.val
    · obtain ⟨p, cap, b, o, rfl, _, _, hp, _⟩ := val_at hu
      obtain rfl := hp h0
      by_cases hc : checkS xs = 0
      · exact names_ok xs b o cap w hu (by omega) hb hc h0
      · exact names_err xs _ cap w hu (by omega) hb hc
end Go.Proofs.Ytodfdinocnhaoaa
