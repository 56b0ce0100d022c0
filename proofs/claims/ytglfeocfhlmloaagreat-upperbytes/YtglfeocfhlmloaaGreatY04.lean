/-
  No byte taken; the walk of (*wire.In).Text. The walk of (*wire.In).Text.
-/
import Derived.Test.YtglfeocfhlmloaaGreatY00
import Derived.Test.YtglfeocfhlmloaaGreatY01
import Derived.Test.YtglfeocfhlmloaaGreatY02
import Derived.Test.YtglfeocfhlmloaaGreatY03
namespace Go.Proofs.YtglfeocfhlmloaaGreat.Nd
open Go.RowKit
theorem slice_to0 (p : Option Addr) (L C : Nat) (w : World) : (Instr.slice 23 (.slice p L C) none (some (.int .i64 0)) none).run Tryz.prog w = .ok (.slice p 0 C) w := by
  have ht : Tryz.prog.underlying 23 = some (.slice (Tryz.prog.elem 23)) := by kernel_rfl
  have he : Tryz.prog.elem 23 = 5 := by kernel_rfl
  have hsz : (sizeOf 5).run Tryz.prog w = .ok 1 w := by kernel_rfl
  rw [run_slice_h w 23 p L C ht .i64 0 (by omega) (by omega), he, hsz]
  rcases p with _ | ⟨b, o, s⟩ <;> simp [sliced, Addr.add]
theorem slice_from0 (p : Option Addr) (L C : Nat) (w : World) : (Instr.slice 23 (.slice p L C) (some (.int .i64 0)) none none).run Tryz.prog w = .ok (.slice p L C) w := by
  have ht : Tryz.prog.underlying 23 = some (.slice (Tryz.prog.elem 23)) := by kernel_rfl
  have he : Tryz.prog.elem 23 = 5 := by kernel_rfl
  have hsz : (sizeOf 5).run Tryz.prog w = .ok 1 w := by kernel_rfl
  rw [run_slice_l w 23 p L C ht .i64 0 (by omega) (by omega), he, hsz]
  rcases p with _ | ⟨b, o, s⟩ <;> simp [sliced, Addr.add]
set_option maxHeartbeats 400000 in
/-- none of the bytes -/
theorem take_zero {B : Nat} (w : World) (g : Nat) (bs : List Nat) (hi : InIs B w g bs 0) :
    Calls Tryz.prog 94 #[.pointer (some ⟨g, 0, none⟩), .int .i64 0] w fun r w' => ∃ p cap, r = .returned (.tuple #[.slice p 0 cap, .bool true]) ∧ InIs B w' g bs 0 ∧ w.grownBy w' (some g) ∧ w'.heap.size = w.heap.size := by
  obtain ⟨p, cap, b, off, hr, hsl, hno, hne⟩ := hi.ex
  have c0 : w.cell? ⟨g, 0, none⟩ = some (.slice p bs.length cap) := hr.cell 0
  have c1 : w.cell? ⟨g, 1, none⟩ = some (.int .i64 0) := hr.cell 1
  have f0 := hr.frozen 0
  have HR := hid_in hr
  have HSL := hid_in hsl
  have HNO := hid_in hno
  have HNE := hid_in hne
  have k1 : (0 : Int) ≤ (bs.length : Int) := by omega
  have hs1 := slice_to0 p bs.length cap
  have hs2 := slice_from0 p bs.length cap
  clear hi hr hsl hno hne
  go_enter Tryz.func94, Tryz.ntmps94
  go_wp2
  go_ret2
  have hg := grownBy_setCell w ⟨g, 0, none⟩ (.slice p bs.length cap)
  refine ⟨p, cap, rfl, ⟨p, cap, b, off, HR.out.set_same 0 _, HSL.out.grown hg (fun h => by simpa using (HNE.out h).1), HNO.out, HNE.out⟩, hg, by simp [World.setCell]⟩
end Go.Proofs.YtglfeocfhlmloaaGreat.Nd
namespace Go.Proofs.YtglfeocfhlmloaaGreat.Nd
open Go.RowKit
theorem conv_none (C : Nat) (w : World) (p : Option Addr) : (convert 23 9 (.slice p 0 C)).run Tryz.prog w = .ok (.string ByteArray.empty) w := by
  rcases p with _ | ⟨b', o', m'⟩
  · exact run_convert_bytes_nil w 23 5 Tryz.underlying23 Tryz.underlying5 0 C 9 Tryz.underlying9
  · rw [run_convert_bytes_string w 23 9 5 _ _ _ Tryz.underlying23 Tryz.underlying5 Tryz.underlying9]
    rw [run_bytesToString w _ 0 C [] (by simp [loadCells, loadCellsFrom, Sem.run_pure])]
    rfl
namespace Wire
/-- a text that is read: what it is, what is left, what is wrong -/
def rtext (most : Int) (bs : List Nat) : List Nat × List Nat × Nat :=
  if (rnum bs).2.2 ≠ 0 then ([], (rnum bs).2.1, (rnum bs).2.2) else if most.toNat < (rnum bs).1 then ([], [], 2) else if (rnum bs).2.1.length < (rnum bs).1 then ([], [], 20) else ((rnum bs).2.1.take (rnum bs).1, (rnum bs).2.1.drop (rnum bs).1, 0)
end Wire
theorem rnumF_err : ∀ (f k acc : Nat) (bs : List Nat), (Wire.rnumF f k acc bs).2.2 ≠ 0 → (Wire.rnumF f k acc bs).1 = 0 ∧ (Wire.rnumF f k acc bs).2.1 = []
  | 0, _, _, _, _ => ⟨rfl, rfl⟩
  | _ + 1, _, _, [], _ => ⟨rfl, rfl⟩
  | f + 1, k, acc, c :: r, h => by
    simp only [Wire.rnumF] at h ⊢
    split at h
    · rename_i hb
      rw [if_pos hb]
      exact ⟨rfl, rfl⟩
    · rename_i hb
      rw [if_neg hb]
      split at h
      · exact absurd rfl h
      · rename_i hc
        rw [if_neg hc]
        exact rnumF_err f _ _ r h
theorem rnumF_sub : ∀ (f k acc : Nat) (bs : List Nat), ∃ n, (Wire.rnumF f k acc bs).2.1 = bs.drop n ∧ n ≤ bs.length
  | 0, _, _, bs => ⟨bs.length, by simp [Wire.rnumF], by omega⟩
  | _ + 1, _, _, [] => ⟨0, rfl, by simp⟩
  | f + 1, k, acc, c :: r => by
    simp only [Wire.rnumF]
    split
    · exact ⟨(c :: r).length, by simp, by omega⟩
    · split
      · exact ⟨1, rfl, by simp⟩
      · obtain ⟨n, h1, h2⟩ := rnumF_sub f (k + 1) (acc + c % 128 * 128 ^ k) r
        exact ⟨n + 1, h1, by simp; omega⟩
set_option maxRecDepth 20000 in
set_option maxHeartbeats 400000 in
theorem itext_bad {B : Nat} (w : World) (g e : Nat) (bs : List Nat) (most : Int) (hm1 : -9223372036854775808 ≤ most) (hm2 : most ≤ 9223372036854775807) (he : e ≠ 0) (hi : InIs B w g bs e) :
    Calls Tryz.prog 73 #[.pointer (some ⟨g, 0, none⟩), .int .i64 most] w fun r w' => r = .returned (.string ByteArray.empty) ∧ w' = w := by
  have HI := hid_in hi
  clear hi
  have hcv := conv_none 0 w none
  go_enter Tryz.func73, Tryz.ntmps73
  go_wp2_with fail
  refine (inum_bad _ g e bs he HI.out).mono ?_
  rintro e1 w1 ⟨rfl, rfl⟩
  rcases (show most < 0 ∨ 0 ≤ most by omega) with h0 | h0
  · go_wp2_with fail
    refine (take_bad _ g e 0 bs he HI.out).mono ?_
    rintro e2 w2 ⟨rfl, rfl⟩
    go_wp2
    go_ret
    exact ⟨rfl, rfl⟩
  · go_wp2_with fail
    refine (take_bad _ g e 0 bs he HI.out).mono ?_
    rintro e2 w2 ⟨rfl, rfl⟩
    go_wp2
    go_ret
    exact ⟨rfl, rfl⟩
set_option maxRecDepth 20000 in
set_option maxHeartbeats 1000000 in
theorem itext_any {B : Nat} (w : World) (g : Nat) (bs : List Nat) (most : Int) (hm1 : -9223372036854775808 ≤ most) (hm2 : most ≤ 9223372036854775807) (hlt : ∀ x ∈ bs, x < 256) (hi : InIs B w g bs 0) :
    Calls Tryz.prog 73 #[.pointer (some ⟨g, 0, none⟩), .int .i64 most] w fun r w' => r = .returned (.string (str (Wire.rtext most bs).1)) ∧ InIs B w' g (Wire.rtext most bs).2.1 (Wire.rtext most bs).2.2 ∧ w.grownBy w' (some g) ∧ w'.heap.size = w.heap.size := by
  have HI := hid_in (inum_any w g bs hlt hi)
  have hn64 := rnum_lt bs
  obtain ⟨n, r, e, HN⟩ : ∃ n r e, Hid (Wire.rnum bs = (n, r, e)) := ⟨_, _, _, rfl⟩
  have HE : Hid (e ≠ 0 → n = 0 ∧ r = []) := by
    have := rnumF_err 10 0 0 bs
    show _ → _
    intro h
    have h1 : (Wire.rnum bs).2.2 ≠ 0 := by rw [HN.out]; exact h
    have h2 := this h1
    have h3 : (Wire.rnum bs).1 = 0 ∧ (Wire.rnum bs).2.1 = [] := h2
    rw [HN.out] at h3
    exact h3
  have HT : Hid (Wire.rtext most bs = if e ≠ 0 then ([], r, e) else if most.toNat < n then ([], [], 2) else if r.length < n then ([], [], 20) else (r.take n, r.drop n, 0)) := by
    show _ = _
    unfold Wire.rtext
    rw [HN.out]
  obtain ⟨T, HTT⟩ : ∃ T, Hid (Wire.rtext most bs = T) := ⟨_, rfl⟩
  rw [HN.out] at HI hn64
  have HT2 : Hid (T = if e ≠ 0 then ([], r, e) else if most.toNat < n then ([], [], 2) else if r.length < n then ([], [], 20) else (r.take n, r.drop n, 0)) := HTT.out.symm.trans HT.out
  rw [HTT.out]
  clear hi hlt HN HT HTT
  simp only at hn64
  go_enter Tryz.func73, Tryz.ntmps73
  go_wp2_with fail
  refine HI.out.mono ?_
  rintro e1 w1 ⟨rfl, h1, h2, h3⟩
  have H1 := hid_in h1
  have H2 := hid_in h2
  have H3 := hid_in h3
  clear h1 h2 h3 HI
  by_cases he : e = 0
  · subst he
    rcases (show most < 0 ∨ 0 ≤ most by omega) with h0 | h0
    · by_cases hlong : 0 < n
      · have HV : Hid (T = ([], [], 2)) := by
          refine HT2.out.trans ?_
          rw [if_neg (by simp), if_pos (by omega)]
        obtain ⟨p2, cap2, b2, off2, hrow, _, _, _⟩ := H1.out.ex
        have HFF := hid_in (fail_any (B := B) w1 g 2 _ _ hrow)
        have k1 : (0 : Int) < (n : Int) := by omega
        clear hrow
        go_wp2_with fail
        refine HFF.out.mono ?_
        rintro e w2 ⟨rfl, h1, h2, h3⟩
        have H4 := hid_in h1
        have H5 := hid_in h2
        have H6 := hid_in h3
        clear h1 h2 h3
        go_wp2
        go_ret
        rw [HV.out]
        exact ⟨rfl, H4.out, grownBy_trans H2.out H5.out, H6.out.trans H3.out⟩
      · have k1 : ¬ ((0 : Int) < (n : Int)) := by omega
        have k2 : (n : Int) ≤ (0 : Int) := by omega
        by_cases hz : n = 0
        · subst hz
          have HV : Hid (T = ([], r, 0)) := by
            refine HT2.out.trans ?_
            rw [if_neg (by simp), if_neg (by omega), if_neg (by omega)]
            simp
          go_wp2_with fail
          refine (take_zero _ g r H1.out).mono ?_
          rintro e w2 ⟨p3, cap3, rfl, h1, h2, h3⟩
          have H4 := hid_in h1
          have H5 := hid_in h2
          have H6 := hid_in h3
          have hcv := conv_none cap3 w2 p3
          clear h1 h2 h3
          go_wp2
          go_ret
          rw [HV.out]
          exact ⟨rfl, H4.out, grownBy_trans H2.out H5.out, H6.out.trans H3.out⟩
        · by_cases hs : r.length < n
          · have HV : Hid (T = ([], [], 20)) := by
              refine HT2.out.trans ?_
              rw [if_neg (by simp), if_neg (by omega), if_pos hs]
            go_wp2_with fail
            refine (take_short _ g n r hs H1.out).mono ?_
            rintro e w2 ⟨rfl, h1, h2, h3⟩
            have H4 := hid_in h1
            have H5 := hid_in h2
            have H6 := hid_in h3
            have hcv := conv_none 0 w2 none
            clear h1 h2 h3
            go_wp2
            go_ret
            rw [HV.out]
            exact ⟨rfl, H4.out, grownBy_trans H2.out H5.out, H6.out.trans H3.out⟩
          · have HV : Hid (T = (r.take n, r.drop n, 0)) := by
              refine HT2.out.trans ?_
              rw [if_neg (by simp), if_neg (by omega), if_neg hs]
            have hl : (r.take n).length = n := by rw [List.length_take]; omega
            go_wp2_with fail
            refine (take_some _ g n r (by omega) (by omega) H1.out).mono ?_
            rintro e w2 ⟨b3, off3, cap3, rfl, hsl, h1, h2, h3⟩
            have H4 := hid_in h1
            have H5 := hid_in h2
            have H6 := hid_in h3
            have hcv := conv_sl hsl
            rw [hl] at hcv
            clear h1 h2 h3 hsl hl
            go_wp2
            go_ret
            rw [HV.out]
            exact ⟨rfl, H4.out, grownBy_trans H2.out H5.out, H6.out.trans H3.out⟩
    · obtain ⟨M, rfl⟩ := Int.eq_ofNat_of_zero_le h0
      clear h0
      by_cases hlong : M < n
      · have HV : Hid (T = ([], [], 2)) := by
          refine HT2.out.trans ?_
          rw [if_neg (by simp), if_pos (by omega)]
        obtain ⟨p2, cap2, b2, off2, hrow, _, _, _⟩ := H1.out.ex
        have HFF := hid_in (fail_any (B := B) w1 g 2 _ _ hrow)
        have k1 : (M : Int) < (n : Int) := by omega
        clear hrow
        go_wp2_with fail
        refine HFF.out.mono ?_
        rintro e w2 ⟨rfl, h1, h2, h3⟩
        have H4 := hid_in h1
        have H5 := hid_in h2
        have H6 := hid_in h3
        clear h1 h2 h3
        go_wp2
        go_ret
        rw [HV.out]
        exact ⟨rfl, H4.out, grownBy_trans H2.out H5.out, H6.out.trans H3.out⟩
      · have k1 : ¬ ((M : Int) < (n : Int)) := by omega
        have k2 : (n : Int) ≤ (M : Int) := by omega
        by_cases hz : n = 0
        · subst hz
          have HV : Hid (T = ([], r, 0)) := by
            refine HT2.out.trans ?_
            rw [if_neg (by simp), if_neg (by omega), if_neg (by omega)]
            simp
          go_wp2_with fail
          refine (take_zero _ g r H1.out).mono ?_
          rintro e w2 ⟨p3, cap3, rfl, h1, h2, h3⟩
          have H4 := hid_in h1
          have H5 := hid_in h2
          have H6 := hid_in h3
          have hcv := conv_none cap3 w2 p3
          clear h1 h2 h3
          go_wp2
          go_ret
          rw [HV.out]
          exact ⟨rfl, H4.out, grownBy_trans H2.out H5.out, H6.out.trans H3.out⟩
        · by_cases hs : r.length < n
          · have HV : Hid (T = ([], [], 20)) := by
              refine HT2.out.trans ?_
              rw [if_neg (by simp), if_neg (by omega), if_pos hs]
            go_wp2_with fail
            refine (take_short _ g n r hs H1.out).mono ?_
            rintro e w2 ⟨rfl, h1, h2, h3⟩
            have H4 := hid_in h1
            have H5 := hid_in h2
            have H6 := hid_in h3
            have hcv := conv_none 0 w2 none
            clear h1 h2 h3
            go_wp2
            go_ret
            rw [HV.out]
            exact ⟨rfl, H4.out, grownBy_trans H2.out H5.out, H6.out.trans H3.out⟩
          · have HV : Hid (T = (r.take n, r.drop n, 0)) := by
              refine HT2.out.trans ?_
              rw [if_neg (by simp), if_neg (by omega), if_neg hs]
            have hl : (r.take n).length = n := by rw [List.length_take]; omega
            go_wp2_with fail
            refine (take_some _ g n r (by omega) (by omega) H1.out).mono ?_
            rintro e w2 ⟨b3, off3, cap3, rfl, hsl, h1, h2, h3⟩
            have H4 := hid_in h1
            have H5 := hid_in h2
            have H6 := hid_in h3
            have hcv := conv_sl hsl
            rw [hl] at hcv
            clear h1 h2 h3 hsl hl
            go_wp2
            go_ret
            rw [HV.out]
            exact ⟨rfl, H4.out, grownBy_trans H2.out H5.out, H6.out.trans H3.out⟩
  · obtain ⟨rfl, rfl⟩ := HE.out he
    have HV : Hid (T = ([], [], e)) := by
      refine HT2.out.trans ?_
      rw [if_pos he]
    have hcv := conv_none 0 w1 none
    rcases (show most < 0 ∨ 0 ≤ most by omega) with h0 | h0
    · go_wp2_with fail
      refine (take_bad _ g e 0 [] he H1.out).mono ?_
      rintro e2 w2 ⟨rfl, rfl⟩
      go_wp2
      go_ret
      rw [HV.out]
      exact ⟨rfl, H1.out, H2.out, H3.out⟩
    · go_wp2_with fail
      refine (take_bad _ g e 0 [] he H1.out).mono ?_
      rintro e2 w2 ⟨rfl, rfl⟩
      go_wp2
      go_ret
      rw [HV.out]
      exact ⟨rfl, H1.out, H2.out, H3.out⟩
end Go.Proofs.YtglfeocfhlmloaaGreat.Nd
