/-
  The walk of the statement VpathBelow.
-/
import Derived.Test.YtodfdinocnhaoaaQ2
import Derived.Test.YtodfdinocnhaoaaL3
namespace Go.Proofs.Ytodfdinocnhaoaa
open Go.RowKit

theorem below2 {w w1 w2 : World} (h1 : Below w.heap.size w w1) (h2 : Below w1.heap.size w1 w2) : Below w.heap.size w w2 := h1.trans (h2.mono h1.size)

set_option maxHeartbeats 1000000 in
set_option maxRecDepth 100000 in
theorem below_err (s nm : Str) (hs : s.length ≤ 9223372036854775807) (w : World) (h : (parseS s).2 ≠ 0) : Calls Try.prog 7 #[.string (B s), .string (B nm)] w fun e w' => e = .returned (.bool true) ∧ Below w.heap.size w w' := by
  have HA := hid_in (awake_any w)
  have HP := hid_in (parse_any s hs)
  have hk : ((parseS s).2 != 0) = true := by simpa using h
  generalize (parseS s).2 = k at HP hk
  clear h
  generalize B s = t at HP ⊢
  generalize B nm = u
  go_enter Try.func7, Try.ntmps7
  go_wp2_with (first
    | (go_at_call 8; refine HA.out.mono ?_; rintro e w1 ⟨rfl, hbel⟩; have HB := hid_in hbel; clear hbel)
    | (go_at_call 9; refine (HP.out _).mono ?_; rintro e w2 ⟨v2, rfl, hn, hbel⟩; have HB2 := hid_in (below2 HB.out hbel); clear hbel hn))
  go_ret
  exact ⟨rfl, HB2.out⟩

set_option maxHeartbeats 1000000 in
set_option maxRecDepth 100000 in
theorem below_noname (s nm : Str) (hs : s.length ≤ 9223372036854775807) (hn : nm.length ≤ 9223372036854775807) (w : World) (h : (parseS s).2 = 0) (hnm : isNameS nm = false) : Calls Try.prog 7 #[.string (B s), .string (B nm)] w fun e w' => e = .returned (.bool true) ∧ Below w.heap.size w w' := by
  have HA := hid_in (awake_any w)
  have HP := hid_in (parse_any s hs)
  have HN := hid_in (rname_any nm hn)
  rw [hnm] at HN
  rw [h] at HP
  clear h hnm
  generalize B s = t at HP ⊢
  generalize B nm = u at HN ⊢
  go_enter Try.func7, Try.ntmps7
  go_wp2_with (first
    | (go_at_call 8; refine HA.out.mono ?_; rintro e w1 ⟨rfl, hbel⟩; have HB := hid_in hbel; clear hbel)
    | (go_at_call 9; refine (HP.out _).mono ?_; rintro e w2 ⟨v2, rfl, hn, hbel⟩; have HB2 := hid_in (below2 HB.out hbel); clear hbel hn)
    | (go_at_call 22; refine (HN.out _).mono ?_; rintro e w3 ⟨rfl, hw⟩; obtain rfl := hw.symm))
  go_ret
  exact ⟨rfl, HB2.out⟩

set_option maxHeartbeats 2000000 in
set_option maxRecDepth 100000 in
theorem below_some (s nm : Str) (hs : s.length ≤ 9223372036854775807) (w : World) (xs : List Str) (h : parseS s = (xs, 0)) (hnm : isNameS nm = true) (h0 : xs ≠ []) : Calls Try.prog 7 #[.string (B s), .string (B nm)] w fun e w' => e = .returned (.bool true) ∧ Below w.heap.size w w' := by
  have HA := hid_in (awake_any w)
  have HP := hid_in (parse_any s hs)
  have HPI := hid_in (parse_path_ok s)
  have HSU := hid_in (parse_sum s)
  rw [h] at HP HPI HSU
  simp only at HP HPI HSU
  clear h
  have hn16 := (name_facts hnm).2.2.2.1
  have HN := hid_in (rname_any nm (by omega))
  rw [hnm] at HN
  have HNM := hid_in hnm
  have hx8 := HPI.out.2
  have H0 := hid_in h0
  have h1 : 1 ≤ xs.length := by cases xs; exact absurd rfl H0.out; simp
  have hsl : (showS xs).length ≤ 257 := by have := show_len xs; have := HSU.out; omega
  obtain ⟨T, hT⟩ : ∃ T, Hid (T = showS xs ++ [47]) := ⟨showS xs ++ [47], rfl⟩
  have hTn : Hid (T ++ nm = showS (xs ++ [nm])) := by show _ = _; rw [hT.out]; exact show_snoc H0.out nm
  have hTl : T.length = (showS xs).length + 1 := by rw [hT.out]; simp
  have sS : (B (showS xs)).size = (showS xs).length := B_size _
  have sT : (B T).size = T.length := B_size _
  have sN : (B nm).size = nm.length := B_size _
  have eT : B (showS xs) ++ { data := #[47] } = B T := by rw [hT.out]; exact append_B _ [47]
  have nT : ¬ 9223372036854775807 < (B (showS xs)).size + 1 := by omega
  have eU : B T ++ B nm = B (T ++ nm) := append_B _ _
  have sU : (B (T ++ nm)).size = T.length + nm.length := by rw [B_size]; simp
  have eV : B (T ++ nm) ++ { data := #[47, 46, 46] } = B ((T ++ nm) ++ [47, 46, 46]) := append_B _ [47, 46, 46]
  have HSH := hid_in (fun (W : World) (v : Value) (hv : Val W v xs) => show_v hv (by have := HSU.out; omega))
  obtain ⟨tx, htx⟩ : ∃ tx, Hid (B (showS xs) = tx) := ⟨_, rfl⟩
  rw [htx.out] at eT sS HSH
  have ttx : tx.toList = showS xs := by rw [← htx.out]; exact toL _
  have HTT := hid_in ttx
  clear h0 hnm ttx
  by_cases hlong : 256 < T.length + nm.length + 3
  · generalize B s = t at HP ⊢
    generalize B nm = u at HN sN eU ⊢
    clear eU eV sU
    generalize B T = ty at eT sT
    generalize (showS xs).length = a at *
    generalize nm.length = c at *
    skip
    go_enter Try.func7, Try.ntmps7
    go_wp2_with (first
      | (go_at_call 8; refine HA.out.mono ?_; rintro e w1 ⟨rfl, hbel⟩; have HB := hid_in hbel; clear hbel)
      | (go_at_call 9; refine (HP.out _).mono ?_; clear HP; rintro e w2 ⟨v2, rfl, hn, hbel⟩; have HB2 := hid_in (below2 HB.out hbel); have HV := hid_in hn.val; obtain ⟨p2, k2, hv2⟩ := hn.shape; clear hbel hn; subst hv2)
      | (go_at_call 22; refine (HN.out _).mono ?_; rintro e w3 ⟨rfl, hw⟩; obtain rfl := hw.symm)
      | (go_at_call 17; refine (HSH.out _ _ HV.out).mono ?_; rintro e w3 ⟨rfl, hbel⟩; have HB3 := hid_in (below2 HB2.out hbel); have HV3 := hid_in (HV.out.below hbel); clear hbel))
    go_ret
    exact ⟨rfl, HB3.out⟩
  · have hl : T.length + nm.length + 3 ≤ 256 := by omega
    have tU : (T ++ nm).length ≤ 9223372036854775807 := by simp; omega
    have tV : ((T ++ nm) ++ [47, 46, 46]).length ≤ 9223372036854775807 := by simp; omega
    have HPA := hid_in (parse_any (T ++ nm) tU)
    have HCA := hid_in (clean_any ((T ++ nm) ++ [47, 46, 46]) tV)
    have hbp := below_parse hTn.out HPI.out.1 HNM.out hl hx8
    have hbb := below_back hTn.out HPI.out.1 HNM.out hl hx8
    rw [(clean_of hbb).1, (clean_of hbb).2, htx.out] at HCA
    rw [hbp] at HPA
    clear hbp hbb tU tV hlong
    have nU : ¬ 9223372036854775807 < (B T).size + (B nm).size := by omega
    have nV : ¬ 9223372036854775807 < (B (T ++ nm)).size + 3 := by omega
    have hun := toL nm
    have HUN := hid_in hun
    clear hun
    by_cases h8 : xs.length = 8
    · rw [if_pos h8] at HPA
      simp only at HPA
      have h8b : ((xs.length : Int) == 8) = true := by rw [beq_iff_eq]; omega
      clear HCA eV nV h8
      generalize B s = t at HP ⊢
      generalize B nm = u at HN sN eU nU HUN ⊢
      generalize B (T ++ nm) = tu at eU sU HPA
      generalize B T = ty at eT sT eU nU
      generalize (showS xs).length = a at *
      generalize nm.length = c at *
      skip
      go_enter Try.func7, Try.ntmps7
      go_wp2_with (first
        | (go_at_call 8; refine HA.out.mono ?_; rintro e w1 ⟨rfl, hbel⟩; have HB := hid_in hbel; clear hbel)
        | (go_at_call 9; refine (HP.out _).mono ?_; clear HP; rintro e w2 ⟨v2, rfl, hn, hbel⟩; have HB2 := hid_in (below2 HB.out hbel); have HV := hid_in hn.val; obtain ⟨p2, k2, hv2⟩ := hn.shape; clear hbel hn; subst hv2)
        | (go_at_call 22; refine (HN.out _).mono ?_; rintro e w3 ⟨rfl, hw⟩; obtain rfl := hw.symm)
        | (go_at_call 17; refine (HSH.out _ _ HV.out).mono ?_; rintro e w3 ⟨rfl, hbel⟩; have HB3 := hid_in (below2 HB2.out hbel); have HV3 := hid_in (HV.out.below hbel); clear hbel)
        | (go_at_call 9; refine (HPA.out _).mono ?_; rintro e w4 ⟨v4, rfl, hn, hbel⟩; have HB4 := hid_in (below2 HB3.out hbel); obtain ⟨p4, k4, hv4⟩ := hn.shape; clear hbel hn; subst hv4))
      go_ret
      exact ⟨rfl, HB4.out⟩
    · rw [if_neg h8] at HPA
      simp only at HPA
      have hx7 : xs.length < 8 := by omega
      have hbw := below_within xs nm
      have EW1 := hid_in hbw.1
      have EW2 := hid_in hbw.2.1
      have EC := hid_in hbw.2.2
      have hbs := below_split HPI.out.1 HNM.out hx7
      have hls : Lib.lens (xs ++ [nm]) + (xs ++ [nm]).length ≤ 140737488355328 := by
        have := HSU.out
        simp [Lib.lens] at this ⊢
        omega
      have HSP := hid_in (fun (W : World) (v : Value) (hv : Val W v (xs ++ [nm])) => split_v hv hls (by simp; omega))
      rw [hbs] at HSP
      simp only at HSP
      have h8b : ((xs.length : Int) == 8) = false := by rw [beq_eq_false_iff_ne]; omega
      clear hbw hbs hls h8
      generalize B s = t at HP ⊢
      generalize B nm = u at HN sN eU nU HUN HSP ⊢
      generalize B ((T ++ nm) ++ [47, 46, 46]) = tv at eV HCA
      generalize B (T ++ nm) = tu at eU sU HPA eV nV
      generalize B T = ty at eT sT eU nU
      generalize (showS xs).length = a at *
      generalize hcl : nm.length = c at *
      clear hcl
      skip
      go_enter Try.func7, Try.ntmps7
      go_wp2_with (first
        | (go_at_call 8; refine HA.out.mono ?_; rintro e w1 ⟨rfl, hbel⟩; have HB := hid_in hbel; clear hbel)
        | (go_at_call 9; refine (HP.out _).mono ?_; clear HP; rintro e w2 ⟨v2, rfl, hn, hbel⟩; have HB := hid_in (below2 HB.out hbel); have hv := hn.val; obtain ⟨p2, k2, hv2⟩ := hn.shape; clear hbel hn; subst hv2)
        | (go_at_call 22; refine (HN.out _).mono ?_; rintro e w3 ⟨rfl, hw⟩; obtain rfl := hw.symm)
        | (go_at_call 17; refine (HSH.out _ _ (by assumption)).mono ?_; rintro e w3 ⟨rfl, hbel⟩; have HB := hid_in (below2 HB.out hbel); have hv := hv.below hbel; clear hbel)
        | (go_at_call 9; refine (HPA.out _).mono ?_; rintro e w4 ⟨v4, rfl, hn, hbel⟩; have HB := hid_in (below2 HB.out hbel); have hv := hv.below hbel; have hbv := hn.val; clear hbel hn)
        | (go_at_call 14; refine (HSP.out _ _ (by assumption)).mono ?_; rintro e w5 ⟨v5, rfl, hn, hbel⟩; have HB := hid_in (below2 HB.out hbel); have hv := hv.below hbel; have hbv := hbv.below hbel; have hdv := hn.val; clear hbel hn)
        | (go_at_call 11; refine (HCA.out _).mono ?_; rintro e w6 ⟨rfl, hbel⟩; have HB := hid_in (below2 HB.out hbel); have hv := hv.below hbel; have hbv := hbv.below hbel; have hdv := hdv.below hbel; clear hbel)
        | (go_at_call 13; refine (texts_eq (by assumption) (by assumption)).mono ?_; rintro e w7 ⟨rfl, hd⟩; have HB := hid_in (below_ex HB.out hd); have hv := hv.drew hd; have hbv := hbv.drew hd; clear hd)
        | (go_at_call 20; refine (within_v (by assumption) (by assumption)).mono ?_; (first | rw [EW1.out] | rw [EW2.out]); rintro e w8 ⟨rfl, hd⟩; have HB := hid_in (below_ex HB.out hd); have hv := hv.drew hd; have hbv := hbv.drew hd; clear hd)
        | (go_at_call 18; refine (compare_v (by assumption) (by assumption)).mono ?_; rw [EC.out]; rintro e w9 ⟨rfl, hw⟩; obtain rfl := hw.symm))
      go_ret
      exact ⟨rfl, HB.out⟩

set_option maxHeartbeats 2000000 in
set_option maxRecDepth 100000 in
theorem below_root (s nm : Str) (hs : s.length ≤ 9223372036854775807) (w : World) (xs : List Str) (h : parseS s = (xs, 0)) (hnm : isNameS nm = true) (h0 : xs = []) : Calls Try.prog 7 #[.string (B s), .string (B nm)] w fun e w' => e = .returned (.bool true) ∧ Below w.heap.size w w' := by
  have HA := hid_in (awake_any w)
  have HP := hid_in (parse_any s hs)
  have HPI := hid_in (parse_path_ok s)
  have HSU := hid_in (parse_sum s)
  rw [h] at HP HPI HSU
  simp only at HP HPI HSU
  clear h
  have hn16 := (name_facts hnm).2.2.2.1
  have HN := hid_in (rname_any nm (by omega))
  rw [hnm] at HN
  have HNM := hid_in hnm
  have hx8 := HPI.out.2
  have H0 := hid_in h0
  have hx0 : ¬ 0 < xs.length := by rw [H0.out]; simp
  have hsl : (showS xs).length ≤ 257 := by have := show_len xs; have := HSU.out; omega
  obtain ⟨T, hT⟩ : ∃ T, Hid (T = showS xs) := ⟨showS xs, rfl⟩
  have hTn : Hid (T ++ nm = showS (xs ++ [nm])) := by show _ = _; rw [hT.out]; rw [H0.out]; exact show_one nm
  have hTl : T.length = (showS xs).length + 0 := by rw [hT.out]; simp
  have sS : (B (showS xs)).size = (showS xs).length := B_size _
  have sT : (B T).size = T.length := B_size _
  have sN : (B nm).size = nm.length := B_size _
  have eT : B (showS xs) = B T := by rw [hT.out]
  have eU : B T ++ B nm = B (T ++ nm) := append_B _ _
  have sU : (B (T ++ nm)).size = T.length + nm.length := by rw [B_size]; simp
  have eV : B (T ++ nm) ++ { data := #[47, 46, 46] } = B ((T ++ nm) ++ [47, 46, 46]) := append_B _ [47, 46, 46]
  have HSH := hid_in (fun (W : World) (v : Value) (hv : Val W v xs) => show_v hv (by have := HSU.out; omega))
  obtain ⟨tx, htx⟩ : ∃ tx, Hid (B (showS xs) = tx) := ⟨_, rfl⟩
  rw [htx.out] at eT sS HSH
  have ttx : tx.toList = showS xs := by rw [← htx.out]; exact toL _
  have HTT := hid_in ttx
  clear h0 hnm ttx
  by_cases hlong : 256 < T.length + nm.length + 3
  · generalize B s = t at HP ⊢
    generalize B nm = u at HN sN eU ⊢
    clear eU eV sU
    generalize B T = ty at eT sT
    generalize (showS xs).length = a at *
    generalize nm.length = c at *
    subst eT
    go_enter Try.func7, Try.ntmps7
    go_wp2_with (first
      | (go_at_call 8; refine HA.out.mono ?_; rintro e w1 ⟨rfl, hbel⟩; have HB := hid_in hbel; clear hbel)
      | (go_at_call 9; refine (HP.out _).mono ?_; clear HP; rintro e w2 ⟨v2, rfl, hn, hbel⟩; have HB2 := hid_in (below2 HB.out hbel); have HV := hid_in hn.val; obtain ⟨p2, k2, hv2⟩ := hn.shape; clear hbel hn; subst hv2)
      | (go_at_call 22; refine (HN.out _).mono ?_; rintro e w3 ⟨rfl, hw⟩; obtain rfl := hw.symm)
      | (go_at_call 17; refine (HSH.out _ _ HV.out).mono ?_; rintro e w3 ⟨rfl, hbel⟩; have HB3 := hid_in (below2 HB2.out hbel); have HV3 := hid_in (HV.out.below hbel); clear hbel))
    go_ret
    exact ⟨rfl, HB3.out⟩
  · have hl : T.length + nm.length + 3 ≤ 256 := by omega
    have tU : (T ++ nm).length ≤ 9223372036854775807 := by simp; omega
    have tV : ((T ++ nm) ++ [47, 46, 46]).length ≤ 9223372036854775807 := by simp; omega
    have HPA := hid_in (parse_any (T ++ nm) tU)
    have HCA := hid_in (clean_any ((T ++ nm) ++ [47, 46, 46]) tV)
    have hbp := below_parse hTn.out HPI.out.1 HNM.out hl hx8
    have hbb := below_back hTn.out HPI.out.1 HNM.out hl hx8
    rw [(clean_of hbb).1, (clean_of hbb).2, htx.out] at HCA
    rw [hbp] at HPA
    clear hbp hbb tU tV hlong
    have nU : ¬ 9223372036854775807 < (B T).size + (B nm).size := by omega
    have nV : ¬ 9223372036854775807 < (B (T ++ nm)).size + 3 := by omega
    have hun := toL nm
    have HUN := hid_in hun
    clear hun
    by_cases h8 : xs.length = 8
    · exfalso; omega
    · rw [if_neg h8] at HPA
      simp only at HPA
      have hx7 : xs.length < 8 := by omega
      have hbw := below_within xs nm
      have EW1 := hid_in hbw.1
      have EW2 := hid_in hbw.2.1
      have EC := hid_in hbw.2.2
      have hbs := below_split HPI.out.1 HNM.out hx7
      have hls : Lib.lens (xs ++ [nm]) + (xs ++ [nm]).length ≤ 140737488355328 := by
        have := HSU.out
        simp [Lib.lens] at this ⊢
        omega
      have HSP := hid_in (fun (W : World) (v : Value) (hv : Val W v (xs ++ [nm])) => split_v hv hls (by simp; omega))
      rw [hbs] at HSP
      simp only at HSP
      have h8b : ((xs.length : Int) == 8) = false := by rw [beq_eq_false_iff_ne]; omega
      clear hbw hbs hls h8
      generalize B s = t at HP ⊢
      generalize B nm = u at HN sN eU nU HUN HSP ⊢
      generalize B ((T ++ nm) ++ [47, 46, 46]) = tv at eV HCA
      generalize B (T ++ nm) = tu at eU sU HPA eV nV
      generalize B T = ty at eT sT eU nU
      generalize (showS xs).length = a at *
      generalize hcl : nm.length = c at *
      clear hcl
      subst eT
      go_enter Try.func7, Try.ntmps7
      go_wp2_with (first
        | (go_at_call 8; refine HA.out.mono ?_; rintro e w1 ⟨rfl, hbel⟩; have HB := hid_in hbel; clear hbel)
        | (go_at_call 9; refine (HP.out _).mono ?_; clear HP; rintro e w2 ⟨v2, rfl, hn, hbel⟩; have HB := hid_in (below2 HB.out hbel); have hv := hn.val; obtain ⟨p2, k2, hv2⟩ := hn.shape; clear hbel hn; subst hv2)
        | (go_at_call 22; refine (HN.out _).mono ?_; rintro e w3 ⟨rfl, hw⟩; obtain rfl := hw.symm)
        | (go_at_call 17; refine (HSH.out _ _ (by assumption)).mono ?_; rintro e w3 ⟨rfl, hbel⟩; have HB := hid_in (below2 HB.out hbel); have hv := hv.below hbel; clear hbel)
        | (go_at_call 9; refine (HPA.out _).mono ?_; rintro e w4 ⟨v4, rfl, hn, hbel⟩; have HB := hid_in (below2 HB.out hbel); have hv := hv.below hbel; have hbv := hn.val; clear hbel hn)
        | (go_at_call 14; refine (HSP.out _ _ (by assumption)).mono ?_; rintro e w5 ⟨v5, rfl, hn, hbel⟩; have HB := hid_in (below2 HB.out hbel); have hv := hv.below hbel; have hbv := hbv.below hbel; have hdv := hn.val; clear hbel hn)
        | (go_at_call 11; refine (HCA.out _).mono ?_; rintro e w6 ⟨rfl, hbel⟩; have HB := hid_in (below2 HB.out hbel); have hv := hv.below hbel; have hbv := hbv.below hbel; have hdv := hdv.below hbel; clear hbel)
        | (go_at_call 13; refine (texts_eq (by assumption) (by assumption)).mono ?_; rintro e w7 ⟨rfl, hd⟩; have HB := hid_in (below_ex HB.out hd); have hv := hv.drew hd; have hbv := hbv.drew hd; clear hd)
        | (go_at_call 20; refine (within_v (by assumption) (by assumption)).mono ?_; (first | rw [EW1.out] | rw [EW2.out]); rintro e w8 ⟨rfl, hd⟩; have HB := hid_in (below_ex HB.out hd); have hv := hv.drew hd; have hbv := hbv.drew hd; clear hd)
        | (go_at_call 18; refine (compare_v (by assumption) (by assumption)).mono ?_; rw [EC.out]; rintro e w9 ⟨rfl, hw⟩; obtain rfl := hw.symm))
      go_ret
      exact ⟨rfl, HB.out⟩

theorem below_s (s nm : ByteArray) (hs : (bl s).length ≤ 9223372036854775807) (hn : (bl nm).length ≤ 9223372036854775807) (w : World) : Calls Try.prog 7 #[.string s, .string nm] w fun e w' => e = .returned (.bool true) ∧ Below w.heap.size w w' := by
  have h : Calls Try.prog 7 #[.string (B (bl s)), .string (B (bl nm))] w fun e w' => e = .returned (.bool true) ∧ Below w.heap.size w w' := by
    by_cases h1 : (parseS (bl s)).2 = 0
    · cases h2 : isNameS (bl nm)
      · exact below_noname _ _ hs hn w h1 h2
      · by_cases h3 : (parseS (bl s)).1 = []
        · exact below_root _ _ hs w _ (Prod.ext rfl h1) h2 h3
        · exact below_some _ _ hs w _ (Prod.ext rfl h1) h2 h3
    · exact below_err _ _ hs w h1
  rw [B_bl, B_bl] at h
  exact h
end Go.Proofs.Ytodfdinocnhaoaa
