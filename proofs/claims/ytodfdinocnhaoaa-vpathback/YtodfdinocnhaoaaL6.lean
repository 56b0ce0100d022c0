/-
  The walk of the statement VpathBack.
-/
import Derived.Test.YtodfdinocnhaoaaL7
namespace Go.Proofs.Ytodfdinocnhaoaa
open Go.RowKit

theorem check_path {xs : List Str} (h : IsPath xs) (h8 : xs.length ≤ 8) : checkS xs = 0 := by
  unfold checkS
  rw [if_neg (by rw [List.all_eq_true.2 h]; simp), if_neg (by omega)]
theorem back_parse {s : Str} {xs : List Str} (h : parseS s = (xs, 0)) : parseS (showS xs) = (xs, 0) := by
  have h1 := parse_path_ok s
  have h2 := parse_sum s
  rw [h] at h1 h2
  simp only at h1 h2
  have hl : (showS xs).length ≤ 256 := by
    by_cases h0 : xs = []
    · subst h0; decide
    · rw [show_len2 h0]; exact h2
  rw [parse_show h1.1 hl, if_neg (by have := h1.2; omega)]
theorem wide_take {m : Nat} {xs : List Str} {i : Nat} {x : Str} (h : xs[i]? = some x) : wideS m (xs.take (i + 1)) = wideS m (xs.take i) ++ ((47 :: dots m) ++ x ++ [47]) := by
  unfold wideS; rw [take_snoc h]; simp
theorem wide_len (m : Nat) (xs : List Str) : (wideS m xs).length = Lib.lens xs + (2 * m + 2) * xs.length := by
  induction xs with
  | nil => rfl
  | cons x r ih =>
    simp only [wideS, List.map_cons, List.flatten_cons, List.length_append, List.length_cons, List.length_nil, dots_len, Lib.lens, List.sum_cons] at ih ⊢
    rw [ih, Nat.mul_add]; omega

set_option maxHeartbeats 1000000 in
set_option maxRecDepth 100000 in
theorem back_err (s : Str) (c : Nat) (hs : s.length ≤ 9223372036854775807) (w : World) (h : (parseS s).2 ≠ 0) : Calls Try.prog 6 #[.string (B s), .int .u8 (c : Int)] w fun e w' => e = .returned (.bool true) ∧ Below w.heap.size w w' := by
  have HA := hid_in (awake_any w)
  have HP := hid_in (parse_any s hs)
  rw [parse_err s h] at HP
  have hk : ((parseS s).2 != 0) = true := by simpa using h
  generalize (parseS s).2 = k at HP hk
  clear h
  generalize B s = t at HP ⊢
  go_enter Try.func6, Try.ntmps6
  go_wp2_with (first
    | (go_at_call 8; refine HA.out.mono ?_; rintro e w1 ⟨rfl, hbel⟩; have HB := hid_in hbel; clear hbel)
    | (go_at_call 9; refine (HP.out _).mono ?_; rintro e w2 ⟨v2, rfl, hn, hbel⟩; have HB2 := hid_in (below2 HB.out hbel); obtain ⟨p2, k2, hv2⟩ := hn.shape; clear hbel hn; subst hv2))
  go_ret
  exact ⟨rfl, HB2.out⟩

set_option maxHeartbeats 2000000 in
set_option maxRecDepth 100000 in
theorem back_any (s : Str) (c : Nat) (hc : c < 256) (hs : s.length ≤ 9223372036854775807) (w : World) (xs : List Str) (h : parseS s = (xs, 0)) : Calls Try.prog 6 #[.string (B s), .int .u8 (c : Int)] w fun e w' => e = .returned (.bool true) ∧ Below w.heap.size w w' := by
  have HA := hid_in (awake_any w)
  have HP := hid_in (parse_any s hs)
  have HPI := hid_in (parse_path_ok s)
  have HSU := hid_in (parse_sum s)
  have hbp := back_parse h
  rw [h] at HP HPI HSU
  simp only at HP HPI HSU
  clear h
  have hsl : (showS xs).length ≤ 257 := by have := show_len xs; have := HSU.out; omega
  have HPA := hid_in (parse_any (showS xs) (by omega))
  have HCA := hid_in (clean_any (showS xs) (by omega))
  rw [(clean_of hbp).1, (clean_of hbp).2] at HCA
  rw [hbp] at HPA
  simp only at HPA
  have HCK := hid_in (fun (W : World) (v : Value) (hv : Val W v xs) => check_v hv (by have := HSU.out; omega))
  rw [check_path HPI.out.1 HPI.out.2] at HCK
  have HSH := hid_in (fun (W : World) (v : Value) (hv : Val W v xs) => show_v hv (by have := HSU.out; omega))
  obtain ⟨tx, htx⟩ : ∃ tx, Hid (B (showS xs) = tx) := ⟨_, rfl⟩
  rw [htx.out] at HPA HCA HSH
  have ttx : Hid (tx.toList = showS xs) := by show _ = _; rw [← htx.out]; exact toL _
  have hx8 := HPI.out.2
  clear hbp
  generalize B s = t at HP ⊢
  have hm4 : (c : Int) % 4 = ((c % 4 : Nat) : Int) := by omega
  have hm5 : (c : Int).tmod 4 = ((c % 4 : Nat) : Int) := by rw [Int.tmod_eq_emod_of_nonneg (by omega)]; exact hm4
  go_enter Try.func6, Try.ntmps6
  go_wp2_with (first
    | (go_at_call 8; refine HA.out.mono ?_; rintro e w1 ⟨rfl, hbel⟩; have HB := hid_in hbel; clear hbel)
    | (go_at_call 9; refine (HP.out _).mono ?_; clear HP; rintro e w2 ⟨v2, rfl, hn, hbel⟩; have HB := hid_in (below2 HB.out hbel); have hv := hn.val; obtain ⟨p2, k2, hv2⟩ := hn.shape; clear hbel hn; subst hv2)
    | (go_at_call 17; refine (HSH.out _ _ (by assumption)).mono ?_; rintro e w3 ⟨rfl, hbel⟩; have HB := hid_in (below2 HB.out hbel); have hv := hv.below hbel; clear hbel)
    | (go_at_call 9; refine (HPA.out _).mono ?_; rintro e w4 ⟨v4, rfl, hn, hbel⟩; have HB := hid_in (below2 HB.out hbel); have hv := hv.below hbel; have hav := hn.val; clear hbel hn)
    | (go_at_call 11; refine (HCA.out _).mono ?_; clear HCA; rintro e w6 ⟨rfl, hbel⟩; have HB := hid_in (below2 HB.out hbel); have hv := hv.below hbel; have hav := hav.below hbel; clear hbel)
    | (go_at_call 13; refine (texts_eq (by assumption) (by assumption)).mono ?_; rintro e w7 ⟨rfl, hd⟩; have HB := hid_in (below_ex HB.out hd); have hv := hv.drew hd; clear hd)
    | (go_at_call 16; refine (HCK.out _ _ (by assumption)).mono ?_; rintro e w9 ⟨rfl, hw⟩; obtain rfl := hw.symm))
  obtain ⟨p5, cap5, b, o, hsl5, _, _, hp5, hcell⟩ := val_at hv
  simp only [Value.slice.injEq, true_and] at hsl5
  obtain ⟨rfl, rfl⟩ := hsl5
  have HCE := hid_in hcell
  have HPP := hid_in hp5
  obtain ⟨m, hm⟩ : ∃ m, Hid (m = c % 4) := ⟨_, rfl⟩
  have hmc : (c : Int) % 4 = (m : Int) := by rw [hm.out]; exact hm4
  have hmt : (c : Int).tmod 4 = (m : Int) := by rw [hm.out]; exact hm5
  have hm3 : m ≤ 3 := by rw [hm.out]; omega
  clear hm4 hm5 hcell hp5 hv hav
  have hwl := fun i => wide_len m (xs.take i)
  have hwb : Hid (∀ i, (wideS m (xs.take i)).length ≤ 320) := by
    intro i
    rw [hwl i]
    have h1 := lens_take xs i
    have h2 := HSU.out
    have h3 : (xs.take i).length ≤ 8 := by rw [List.length_take]; omega
    have h4 : (2 * m + 2) * (xs.take i).length ≤ 8 * 8 := Nat.mul_le_mul (by omega) h3
    omega
  clear hwl
  generalize hn : xs.length = n at *
  have Hn := hid_in hn
  clear hn
  go_loopw [12, 13] (fun v12 v13 w' => w' = w7 ∧ ∃ i : Nat, i ≤ n ∧ v13 = .int .i64 (i : Int) ∧ v12 = .string (B (wideS m (xs.take i)))) (fun _ v13 _ => n - (intOf v13).toNat)
  case atStart => exact ⟨rfl, 0, by omega, rfl, rfl⟩
  case round =>
    obtain ⟨hw, i, hi, rfl, rfl⟩ := hrel
    obtain rfl := hw.symm
    by_cases hlt : i < n
    · obtain ⟨x, hxi⟩ : ∃ d, xs[i]? = some d := ⟨_, List.getElem?_eq_getElem (by rw [Hn.out]; exact hlt)⟩
      have cx := HCE.out i x hxi
      obtain rfl := HPP.out (by rintro rfl; simp at hxi)
      have hwi := hwb.out i
      have hwi1 := hwb.out (i + 1)
      have E0 := hid_in (append_B (wideS m (xs.take i)) [47])
      have n0 : ¬ 9223372036854775807 < (B (wideS m (xs.take i))).size + 1 := by rw [B_size]; omega
      have HTK := hid_in (wide_take (m := m) hxi)
      rw [HTK.out] at hwi1
      simp only [List.length_append, List.length_cons, dots_len, List.length_nil] at hwi1
      clear hxi
      obtain ⟨z, hz⟩ : ∃ z, Hid (z = wideS m (xs.take i)) := ⟨_, rfl⟩
      rw [← hz.out] at E0 n0 hwi hwi1 HTK ⊢
      have e0 : B z ++ { data := #[47] } = B (z ++ [47]) := E0.out
      clear E0
      go_wp2_with fail
      go_loopw [12, 14] (fun v12 v14 w' => w' = w7 ∧ ∃ k : Nat, k ≤ m ∧ v14 = .int .i64 (k : Int) ∧ v12 = .string (B (z ++ 47 :: dots k))) (fun _ v14 _ => m - (intOf v14).toNat)
      case atStart => exact ⟨rfl, 0, by omega, rfl, rfl⟩
      case round =>
        obtain ⟨hw, k, hk, rfl, rfl⟩ := hrel
        obtain rfl := hw.symm
        by_cases hkm : k < m
        · have e1 : B (z ++ 47 :: dots k) ++ { data := #[46, 47] } = B (z ++ 47 :: dots (k + 1)) := by
            have := append_B (z ++ 47 :: dots k) [46, 47]
            rw [show (z ++ 47 :: dots k) ++ [46, 47] = z ++ 47 :: dots (k + 1) by simp [dots]] at this
            exact this
          have n1 : ¬ 9223372036854775807 < (B (z ++ 47 :: dots k)).size + 2 := by rw [B_size]; simp [dots_len]; omega
          have E1 := hid_in e1
          clear e1
          obtain ⟨y, hy⟩ : ∃ y, Hid (y = B (z ++ 47 :: dots k)) := ⟨_, rfl⟩
          rw [← hy.out] at n1 E1 ⊢
          go_wp2_with fail
          exact ⟨⟨trivial, k + 1, by omega, by go_num, by rw [E1.out]⟩, by simp [intOf]; omega⟩
        · have hkm2 : k = m := by omega
          subst hkm2
          have e1 : B (z ++ 47 :: dots k) ++ B x = B (z ++ 47 :: dots k ++ x) := append_B _ _
          have e2 : B (z ++ 47 :: dots k ++ x) ++ { data := #[47] } = B (wideS k (xs.take (i + 1))) := by
            rw [HTK.out]
            have := append_B (z ++ 47 :: dots k ++ x) [47]
            rw [show (z ++ 47 :: dots k ++ x) ++ [47] = z ++ (47 :: dots k ++ x ++ [47]) by simp] at this
            exact this
          have n1 : ¬ 9223372036854775807 < (B (z ++ 47 :: dots k)).size + (B x).size := by rw [B_size, B_size]; simp [dots_len]; omega
          have n2 : ¬ 9223372036854775807 < (B (z ++ 47 :: dots k ++ x)).size + 1 := by rw [B_size]; simp [dots_len]; omega
          have E2 := hid_in e2
          clear e2
          obtain ⟨y, hy⟩ : ∃ y, Hid (y = B (z ++ 47 :: dots k)) := ⟨_, rfl⟩
          rw [← hy.out] at n1 e1 ⊢
          generalize B (z ++ 47 :: dots k ++ x) = y2 at e1 E2 n2
          generalize B x = bx at cx e1 n1
          go_wp2_with fail
          go_roundw
          case rel =>
            go_light
            exact ⟨trivial, i + 1, by omega, by go_num, by rw [E2.out]⟩
          case measure => simp [intOf]; omega
    · have hin : i = n := by omega
      subst hin
      have hti : xs.take i = xs := List.take_of_length_le (by rw [Hn.out]; omega)
      rw [hti]
      have hwl : (wideS m xs).length ≤ 320 := by have := hwb.out i; rw [hti] at this; exact this
      have hsz : (B (wideS m xs)).size = (wideS m xs).length := B_size _
      by_cases h0 : xs = []
      · have hi0 : ((i : Int) == 0) = true := by rw [beq_iff_eq]; have := Hn.out; rw [h0] at this; simp at this; omega
        have HCW := hid_in (clean_any [47, 46, 46, 47, 46, 47] (by simp))
        have hcw : parseS [47, 46, 46, 47, 46, 47] = (xs, 0) := by rw [h0]; decide +kernel
        rw [(clean_of hcw).1, (clean_of hcw).2, htx.out] at HCW
        clear hcw h0 hti hwl hsz
        generalize B (wideS m xs) = y
        go_wp2_with (first | (go_at_call 11; refine (HCW.out _).mono ?_; rintro e w10 ⟨rfl, hbel⟩; have HB := hid_in (below2 HB.out hbel); clear hbel))
        go_ret
        exact ⟨rfl, HB.out⟩
      · have hi0 : ((i : Int) == 0) = false := by
          rw [beq_eq_false_iff_ne]
          have h1 := Hn.out
          have h2 : 0 < xs.length := List.length_pos_iff.2 h0
          omega
        by_cases hlong : 256 < (wideS m xs).length
        · clear h0 hti
          generalize (wideS m xs).length = a at *
          generalize B (wideS m xs) = y at hsz ⊢
          go_wp2_with fail
          go_ret
          exact ⟨rfl, HB.out⟩
        · have HCW := hid_in (clean_any (wideS m xs) (by omega))
          have hcw := wide_parse m HPI.out.1 h0 (by rw [Hn.out]; exact hx8) (by omega)
          rw [(clean_of hcw).1, (clean_of hcw).2, htx.out] at HCW
          have hle : (wideS m xs).length ≤ 256 := by omega
          clear hcw h0 hti hlong
          generalize (wideS m xs).length = a at *
          generalize B (wideS m xs) = y at hsz HCW ⊢
          go_wp2_with (first | (go_at_call 11; refine (HCW.out _).mono ?_; rintro e w10 ⟨rfl, hbel⟩; have HB := hid_in (below2 HB.out hbel); clear hbel))
          go_ret
          exact ⟨rfl, HB.out⟩

theorem back_s (s : ByteArray) (c : Nat) (hc : c < 256) (hs : (bl s).length ≤ 9223372036854775807) (w : World) : Calls Try.prog 6 #[.string s, .int .u8 (c : Int)] w fun e w' => e = .returned (.bool true) ∧ Below w.heap.size w w' := by
  have h : Calls Try.prog 6 #[.string (B (bl s)), .int .u8 (c : Int)] w fun e w' => e = .returned (.bool true) ∧ Below w.heap.size w w' := by
    by_cases h1 : (parseS (bl s)).2 = 0
    · exact back_any _ c hc hs w _ (Prod.ext rfl h1)
    · exact back_err _ c hs w h1
  rw [B_bl] at h
  exact h
end Go.Proofs.Ytodfdinocnhaoaa
