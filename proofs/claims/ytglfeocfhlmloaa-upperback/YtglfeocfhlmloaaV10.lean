/-
  The walk of (*wire.In).Text.
-/
import Derived.Test.YtglfeocfhlmloaaV06
import Derived.Test.YtglfeocfhlmloaaV07
import Derived.Test.YtglfeocfhlmloaaV08
import Derived.Test.YtglfeocfhlmloaaV09
namespace Go.Proofs.Ytglfeocfhlmloaa.Nd
open Go.RowKit
theorem conv_none (C : Nat) (w : World) (p : Option Addr) : (convert 43 9 (.slice p 0 C)).run Try.prog w = .ok (.string ByteArray.empty) w := by
  rcases p with _ | ⟨b', o', m'⟩
  · exact run_convert_bytes_nil w 43 5 Try.underlying43 Try.underlying5 0 C 9 Try.underlying9
  · rw [run_convert_bytes_string w 43 9 5 _ _ _ Try.underlying43 Try.underlying5 Try.underlying9]
    rw [run_bytesToString w _ 0 C [] (by simp [loadCells, loadCellsFrom, Sem.run_pure])]
    rfl
namespace Wire
/-- a text that is read: what it is, what is left, what is wrong -/
def rtext (most : Int) (bs : List Nat) : List Nat × List Nat × Nat :=
  if (rnum bs).2.2 ≠ 0 then ([], (rnum bs).2.1, (rnum bs).2.2) else if most.toNat < (rnum bs).1 then ([], [], 2) else if (rnum bs).2.1.length < (rnum bs).1 then ([], [], 20) else ((rnum bs).2.1.take (rnum bs).1, (rnum bs).2.1.drop (rnum bs).1, 0)
end Wire
theorem rnumF_err : ∀ (f k acc : Nat) (bs : List Nat), (Wire.rnumF f k acc bs).2.2 ≠ 0 → (Wire.rnumF f k acc bs).1 = 0 ∧ (Wire.rnumF f k acc bs).2.1 = []
  | 0, _, _, _, _ => ⟨rfl, rfl⟩
  | _ + 1, _, _, [], _ => ⟨rfl, rfl⟩
  | f + 1, k, acc, c :: r, h => by
    simp only [Wire.rnumF] at h ⊢
    split at h
    · rename_i hb
      rw [if_pos hb]
      exact ⟨rfl, rfl⟩
    · rename_i hb
      rw [if_neg hb]
      split at h
      · exact absurd rfl h
      · rename_i hc
        rw [if_neg hc]
        exact rnumF_err f _ _ r h
set_option maxRecDepth 20000 in
set_option maxHeartbeats 400000 in
theorem itext_bad {B : Nat} (w : World) (g e : Nat) (bs : List Nat) (most : Int) (hm1 : -9223372036854775808 ≤ most) (hm2 : most ≤ 9223372036854775807) (he : e ≠ 0) (hi : InIs B w g bs e) :
    Calls Try.prog 89 #[.pointer (some ⟨g, 0, none⟩), .int .i64 most] w fun r w' => r = .returned (.string ByteArray.empty) ∧ w' = w := by
  have HI := hid_in hi
  clear hi
  have hcv := conv_none 0 w none
  go_enter Try.func89, Try.ntmps89
  go_wp2_with fail
  refine (inum_bad _ g e bs he HI.out).mono ?_
  rintro e1 w1 ⟨rfl, rfl⟩
  rcases (show most < 0 ∨ 0 ≤ most by omega) with h0 | h0
  · go_wp2_with fail
    refine (take_bad _ g e 0 bs he HI.out).mono ?_
    rintro e2 w2 ⟨rfl, rfl⟩
    go_wp2
    go_ret
    exact ⟨rfl, rfl⟩
  · go_wp2_with fail
    refine (take_bad _ g e 0 bs he HI.out).mono ?_
    rintro e2 w2 ⟨rfl, rfl⟩
    go_wp2
    go_ret
    exact ⟨rfl, rfl⟩
set_option maxRecDepth 20000 in
set_option maxHeartbeats 1000000 in
theorem itext_any {B : Nat} (w : World) (g : Nat) (bs : List Nat) (most : Int) (hm1 : -9223372036854775808 ≤ most) (hm2 : most ≤ 9223372036854775807) (hlt : ∀ x ∈ bs, x < 256) (hi : InIs B w g bs 0) :
    Calls Try.prog 89 #[.pointer (some ⟨g, 0, none⟩), .int .i64 most] w fun r w' => r = .returned (.string (str (Wire.rtext most bs).1)) ∧ InIs B w' g (Wire.rtext most bs).2.1 (Wire.rtext most bs).2.2 ∧ w.grownBy w' (some g) ∧ w'.heap.size = w.heap.size := by
  have HI := hid_in (inum_any w g bs hlt hi)
  have hn64 := rnum_lt bs
  obtain ⟨n, r, e, HN⟩ : ∃ n r e, Hid (Wire.rnum bs = (n, r, e)) := ⟨_, _, _, rfl⟩
  have HE : Hid (e ≠ 0 → n = 0 ∧ r = []) := by
    have := rnumF_err 10 0 0 bs
    show _ → _
    intro h
    have h1 : (Wire.rnum bs).2.2 ≠ 0 := by rw [HN.out]; exact h
    have h2 := this h1
    have h3 : (Wire.rnum bs).1 = 0 ∧ (Wire.rnum bs).2.1 = [] := h2
    rw [HN.out] at h3
    exact h3
  have HT : Hid (Wire.rtext most bs = if e ≠ 0 then ([], r, e) else if most.toNat < n then ([], [], 2) else if r.length < n then ([], [], 20) else (r.take n, r.drop n, 0)) := by
    show _ = _
    unfold Wire.rtext
    rw [HN.out]
  obtain ⟨T, HTT⟩ : ∃ T, Hid (Wire.rtext most bs = T) := ⟨_, rfl⟩
  rw [HN.out] at HI hn64
  have HT2 : Hid (T = if e ≠ 0 then ([], r, e) else if most.toNat < n then ([], [], 2) else if r.length < n then ([], [], 20) else (r.take n, r.drop n, 0)) := HTT.out.symm.trans HT.out
  rw [HTT.out]
  clear hi hlt HN HT HTT
  simp only at hn64
  go_enter Try.func89, Try.ntmps89
  go_wp2_with fail
  refine HI.out.mono ?_
  rintro e1 w1 ⟨rfl, h1, h2, h3⟩
  have H1 := hid_in h1
  have H2 := hid_in h2
  have H3 := hid_in h3
  clear h1 h2 h3 HI
  by_cases he : e = 0
  · subst he
    rcases (show most < 0 ∨ 0 ≤ most by omega) with h0 | h0
    · by_cases hlong : 0 < n
      · have HV : Hid (T = ([], [], 2)) := by
          refine HT2.out.trans ?_
          rw [if_neg (by simp), if_pos (by omega)]
        obtain ⟨p2, cap2, b2, off2, hrow, _, _, _⟩ := H1.out.ex
        have HFF := hid_in (fail_any (B := B) w1 g 2 _ _ hrow)
        have k1 : (0 : Int) < (n : Int) := by omega
        clear hrow
        go_wp2_with fail
        refine HFF.out.mono ?_
        rintro e w2 ⟨rfl, h1, h2, h3⟩
        have H4 := hid_in h1
        have H5 := hid_in h2
        have H6 := hid_in h3
        clear h1 h2 h3
        go_wp2
        go_ret
        rw [HV.out]
        exact ⟨rfl, H4.out, grownBy_trans H2.out H5.out, H6.out.trans H3.out⟩
      · have k1 : ¬ ((0 : Int) < (n : Int)) := by omega
        have k2 : (n : Int) ≤ (0 : Int) := by omega
        by_cases hz : n = 0
        · subst hz
          have HV : Hid (T = ([], r, 0)) := by
            refine HT2.out.trans ?_
            rw [if_neg (by simp), if_neg (by omega), if_neg (by omega)]
            simp
          go_wp2_with fail
          refine (take_zero _ g r H1.out).mono ?_
          rintro e w2 ⟨p3, cap3, rfl, h1, h2, h3⟩
          have H4 := hid_in h1
          have H5 := hid_in h2
          have H6 := hid_in h3
          have hcv := conv_none cap3 w2 p3
          clear h1 h2 h3
          go_wp2
          go_ret
          rw [HV.out]
          exact ⟨rfl, H4.out, grownBy_trans H2.out H5.out, H6.out.trans H3.out⟩
        · by_cases hs : r.length < n
          · have HV : Hid (T = ([], [], 20)) := by
              refine HT2.out.trans ?_
              rw [if_neg (by simp), if_neg (by omega), if_pos hs]
            go_wp2_with fail
            refine (take_short _ g n r hs H1.out).mono ?_
            rintro e w2 ⟨rfl, h1, h2, h3⟩
            have H4 := hid_in h1
            have H5 := hid_in h2
            have H6 := hid_in h3
            have hcv := conv_none 0 w2 none
            clear h1 h2 h3
            go_wp2
            go_ret
            rw [HV.out]
            exact ⟨rfl, H4.out, grownBy_trans H2.out H5.out, H6.out.trans H3.out⟩
          · have HV : Hid (T = (r.take n, r.drop n, 0)) := by
              refine HT2.out.trans ?_
              rw [if_neg (by simp), if_neg (by omega), if_neg hs]
            have hl : (r.take n).length = n := by rw [List.length_take]; omega
            go_wp2_with fail
            refine (take_some _ g n r (by omega) (by omega) H1.out).mono ?_
            rintro e w2 ⟨b3, off3, cap3, rfl, hsl, h1, h2, h3⟩
            have H4 := hid_in h1
            have H5 := hid_in h2
            have H6 := hid_in h3
            have hcv := conv_sl hsl
            rw [hl] at hcv
            clear h1 h2 h3 hsl hl
            go_wp2
            go_ret
            rw [HV.out]
            exact ⟨rfl, H4.out, grownBy_trans H2.out H5.out, H6.out.trans H3.out⟩
    · obtain ⟨M, rfl⟩ := Int.eq_ofNat_of_zero_le h0
      clear h0
      by_cases hlong : M < n
      · have HV : Hid (T = ([], [], 2)) := by
          refine HT2.out.trans ?_
          rw [if_neg (by simp), if_pos (by omega)]
        obtain ⟨p2, cap2, b2, off2, hrow, _, _, _⟩ := H1.out.ex
        have HFF := hid_in (fail_any (B := B) w1 g 2 _ _ hrow)
        have k1 : (M : Int) < (n : Int) := by omega
        clear hrow
        go_wp2_with fail
        refine HFF.out.mono ?_
        rintro e w2 ⟨rfl, h1, h2, h3⟩
        have H4 := hid_in h1
        have H5 := hid_in h2
        have H6 := hid_in h3
        clear h1 h2 h3
        go_wp2
        go_ret
        rw [HV.out]
        exact ⟨rfl, H4.out, grownBy_trans H2.out H5.out, H6.out.trans H3.out⟩
      · have k1 : ¬ ((M : Int) < (n : Int)) := by omega
        have k2 : (n : Int) ≤ (M : Int) := by omega
        by_cases hz : n = 0
        · subst hz
          have HV : Hid (T = ([], r, 0)) := by
            refine HT2.out.trans ?_
            rw [if_neg (by simp), if_neg (by omega), if_neg (by omega)]
            simp
          go_wp2_with fail
          refine (take_zero _ g r H1.out).mono ?_
          rintro e w2 ⟨p3, cap3, rfl, h1, h2, h3⟩
          have H4 := hid_in h1
          have H5 := hid_in h2
          have H6 := hid_in h3
          have hcv := conv_none cap3 w2 p3
          clear h1 h2 h3
          go_wp2
          go_ret
          rw [HV.out]
          exact ⟨rfl, H4.out, grownBy_trans H2.out H5.out, H6.out.trans H3.out⟩
        · by_cases hs : r.length < n
          · have HV : Hid (T = ([], [], 20)) := by
              refine HT2.out.trans ?_
              rw [if_neg (by simp), if_neg (by omega), if_pos hs]
            go_wp2_with fail
            refine (take_short _ g n r hs H1.out).mono ?_
            rintro e w2 ⟨rfl, h1, h2, h3⟩
            have H4 := hid_in h1
            have H5 := hid_in h2
            have H6 := hid_in h3
            have hcv := conv_none 0 w2 none
            clear h1 h2 h3
            go_wp2
            go_ret
            rw [HV.out]
            exact ⟨rfl, H4.out, grownBy_trans H2.out H5.out, H6.out.trans H3.out⟩
          · have HV : Hid (T = (r.take n, r.drop n, 0)) := by
              refine HT2.out.trans ?_
              rw [if_neg (by simp), if_neg (by omega), if_neg hs]
            have hl : (r.take n).length = n := by rw [List.length_take]; omega
            go_wp2_with fail
            refine (take_some _ g n r (by omega) (by omega) H1.out).mono ?_
            rintro e w2 ⟨b3, off3, cap3, rfl, hsl, h1, h2, h3⟩
            have H4 := hid_in h1
            have H5 := hid_in h2
            have H6 := hid_in h3
            have hcv := conv_sl hsl
            rw [hl] at hcv
            clear h1 h2 h3 hsl hl
            go_wp2
            go_ret
            rw [HV.out]
            exact ⟨rfl, H4.out, grownBy_trans H2.out H5.out, H6.out.trans H3.out⟩
  · obtain ⟨rfl, rfl⟩ := HE.out he
    have HV : Hid (T = ([], [], e)) := by
      refine HT2.out.trans ?_
      rw [if_pos he]
    have hcv := conv_none 0 w1 none
    rcases (show most < 0 ∨ 0 ≤ most by omega) with h0 | h0
    · go_wp2_with fail
      refine (take_bad _ g e 0 [] he H1.out).mono ?_
      rintro e2 w2 ⟨rfl, rfl⟩
      go_wp2
      go_ret
      rw [HV.out]
      exact ⟨rfl, H1.out, H2.out, H3.out⟩
    · go_wp2_with fail
      refine (take_bad _ g e 0 [] he H1.out).mono ?_
      rintro e2 w2 ⟨rfl, rfl⟩
      go_wp2
      go_ret
      rw [HV.out]
      exact ⟨rfl, H1.out, H2.out, H3.out⟩
end Go.Proofs.Ytglfeocfhlmloaa.Nd
