/-
  The walk of the reference's Text. The reference's Text, all cases in one.
-/
import Derived.Test.YtglfeocfhlmloaaGreatY00
import Derived.Test.YtglfeocfhlmloaaGreatY01
import Derived.Test.YtglfeocfhlmloaaGreatY02
import Derived.Test.YtglfeocfhlmloaaGreatY03
import Derived.Test.YtglfeocfhlmloaaGreatY04
import Derived.Test.YtglfeocfhlmloaaGreatY05
import Derived.Test.YtglfeocfhlmloaaGreatY06
namespace Go.Proofs.YtglfeocfhlmloaaGreat.Nd
open Go.RowKit
theorem rtextI_bad {B : Nat} (w : World) (g : Nat) (t : TypeId) (bs : List Nat) (k e : Nat) (most : Int) (he : e ≠ 0) (hi : RIs B w g t bs k e) :
    Calls Tryz.prog 33 #[.pointer (some ⟨g, 0, none⟩), .int .i64 most] w fun r w' => r = .returned (.string ByteArray.empty) ∧ w' = w := by
  have HC := hid_in (rnumI_bad w g t bs k e he hi)
  obtain ⟨p, cap, b, off, hr, hsl, hne⟩ := hi.ex
  have c2 : w.cell? ⟨g, 2, none⟩ = some (.int .i64 (e : Int)) := hr.cell 2
  have k1 : ¬ ((e : Int) = 0) := by omega
  clear hi hr hsl hne
  go_enter Tryz.func33, Tryz.ntmps33
  go_wp2_with fail
  refine HC.out.mono ?_
  rintro e1 w1 ⟨rfl, rfl⟩
  go_wp2
  go_ret
  exact ⟨rfl, rfl⟩
theorem slice_win (b o L C k n : Nat) (p : Option Addr) (h1 : k + n ≤ C) : ∃ q, (p = some ⟨b, o, none⟩ → 0 < n → q = some ⟨b, o + k, none⟩) ∧ ∀ w, (Instr.slice 23 (.slice p L C) (some (.int .i64 (k : Int))) (some (.int .i64 ((k : Int) + (n : Int)))) none).run Tryz.prog w = .ok (.slice q n (C - k)) w := by
  have ht : Tryz.prog.underlying 23 = some (.slice (Tryz.prog.elem 23)) := by kernel_rfl
  have he : Tryz.prog.elem 23 = 5 := by kernel_rfl
  refine ⟨if C = k then p else p.map (·.add (k * 1)), fun h0 hn => by subst h0; rw [if_neg (by omega)]; simp [Addr.add], fun w => ?_⟩
  have hsz : (sizeOf 5).run Tryz.prog w = .ok 1 w := by kernel_rfl
  rw [run_slice_lh w 23 p L C ht .i64 .i64 _ _ (by omega) (by omega) (by omega), he, hsz]
  have e1 : ((k : Int) + (n : Int)).toNat = k + n := by omega
  simp [sliced, Result.andThen, e1]
theorem conv_win {w : World} {p q : Option Addr} {bs : List Nat} {cap b off : Nat} (k n : Nat) (hsl : Sl w p bs cap b off) (hk : k + n ≤ bs.length) (hq : p = some ⟨b, off, none⟩ → 0 < n → q = some ⟨b, off + k, none⟩) :
    (convert 23 9 (.slice q n (cap - k))).run Tryz.prog w = .ok (.string (str ((bs.drop k).take n))) w := by
  rcases Nat.eq_zero_or_pos n with rfl | hn
  · rw [List.take_zero]; exact conv_none _ w q
  · have hc1 := hsl.cap1
    have hc2 := hsl.cap2
    obtain rfl := hsl.at_ (by omega)
    obtain rfl := hq rfl hn
    have hp := hsl.part k n (cap - k) (by omega) (by omega) (by omega)
    have hl : ((bs.drop k).take n).length = n := by rw [List.length_take, List.length_drop]; omega
    have := conv_sl hp
    rw [hl] at this
    exact this
theorem ris_move {B : Nat} {w : World} {g : Nat} {t : TypeId} {bs : List Nat} {k e : Nat} (k' : Nat) (hi : RIs B w g t bs k e) (hk : k' ≤ bs.length) : RIs B (w.setCell ⟨g, 1, none⟩ (.int .i64 (k' : Int))) g t bs k' e := by
  obtain ⟨p, cap, b, off, hr, hsl, hne⟩ := hi.ex
  exact ⟨⟨p, cap, b, off, hr.set_same 1 _, hsl.grown (grownBy_setCell w ⟨g, 1, none⟩ _) (fun h => by simpa using (hne h).1), hne⟩, hk⟩
set_option maxRecDepth 20000 in
set_option maxHeartbeats 400000 in
/-- a text whose length stands there, and that is short enough -/
theorem rtextI_some {B : Nat} (w : World) (g : Nat) (t : TypeId) (bs : List Nat) (k1 n M : Nat) (hM : M ≤ 9223372036854775807) (hn : n ≤ M)
    (R : World → Prop) (hc : Calls Tryz.prog 32 #[.pointer (some ⟨g, 0, none⟩)] w fun r w' => r = .returned (.int .u64 (n : Int)) ∧ RIs B w' g t bs k1 0 ∧ R w') (hs : n ≤ (bs.drop k1).length) :
    Calls Tryz.prog 33 #[.pointer (some ⟨g, 0, none⟩), .int .i64 (M : Int)] w fun r w' => r = .returned (.string (str ((bs.drop k1).take n))) ∧ ∃ w1, R w1 ∧ RIs B w' g t bs (k1 + n) 0 ∧ Grew w1 w' (· = g) := by
  have HC := hid_in hc
  clear hc
  go_enter Tryz.func33, Tryz.ntmps33
  go_wp2_with fail
  refine HC.out.mono ?_
  rintro e1 w1 ⟨rfl, hi, hR⟩
  have HR := hid_in hR
  have HI := hid_in hi
  obtain ⟨p, cap, b, off, hr, hsl, hne⟩ := hi.ex
  have hlb := hi.len
  have hle := hi.le
  have c0 : w1.cell? ⟨g, 0, none⟩ = some (.slice p bs.length cap) := hr.cell 0
  have c1 : w1.cell? ⟨g, 1, none⟩ = some (.int .i64 (k1 : Int)) := hr.cell 1
  have c2 : w1.cell? ⟨g, 2, none⟩ = some (.int .i64 0) := hr.cell 2
  have f1 := hr.frozen 1
  have k2 : ¬ ((M : Int) < (n : Int)) := by omega
  have k3 : (0 : Int) ≤ (M : Int) := by omega
  have HL := hid_in (rleft_any w1 g t bs k1 0 hi)
  have hsn : k1 + n ≤ bs.length := by rw [List.length_drop] at hs; omega
  have hcap := hsl.cap1
  have HD := hid_in hs
  obtain ⟨q, hq, hsw⟩ := slice_win b off bs.length cap k1 n p (by omega)
  have HSL : Sl w1.drew p bs cap b off := ⟨hsl.lt, hsl.cap1, hsl.cap2, hsl.at_, hsl.src⟩
  have HSL2 : Sl w1.drew.drew p bs cap b off := ⟨hsl.lt, hsl.cap1, hsl.cap2, hsl.at_, hsl.src⟩
  have hcv := conv_win k1 n HSL hsn hq
  have hcv2 := conv_win k1 n HSL2 hsn hq
  obtain ⟨S, HS⟩ : ∃ S, Hid (str ((bs.drop k1).take n) = S) := ⟨_, rfl⟩
  obtain ⟨L, HLL⟩ : ∃ L, Hid ((bs.drop k1).length = L) := ⟨_, rfl⟩
  rw [HS.out] at hcv hcv2
  rw [HLL.out] at HL hs
  have k4 : ¬ ((L : Int) < (n : Int)) := by omega
  have hLb : L ≤ 9223372036854775807 := by have := HLL.out; rw [List.length_drop] at this; omega
  have hkn : (k1 : Int) + (n : Int) ≤ 9223372036854775807 := by omega
  have HQ := hid_in hq
  clear hi hr hsl hne hR HSL HSL2 hq hcap
  go_wp2_with fail
  refine HL.out.mono ?_
  rintro e2 w2 ⟨rfl, rfl⟩
  go_wp2_with fail
  go_region
  go_wp2_with fail
  go_ret
  rw [HS.out]
  exact ⟨rfl, w1, HR.out, ris_move (k1 + n) HI.out.drew.drew hsn, (Grew.of_below (· = g) (Below.refl _ w1).drew.drew).trans (Grew.of_grown (grownBy_setCell w1.drew.drew ⟨g, 1, none⟩ _)) (fun q _ h => by simpa using h)⟩
set_option maxRecDepth 20000 in
set_option maxHeartbeats 400000 in
/-- no byte is asked for, and none may be -/
theorem rtextI_none {B : Nat} (w : World) (g : Nat) (t : TypeId) (bs : List Nat) (k1 : Nat) (most : Int) (hm : most < 0)
    (R : World → Prop) (hc : Calls Tryz.prog 32 #[.pointer (some ⟨g, 0, none⟩)] w fun r w' => r = .returned (.int .u64 0) ∧ RIs B w' g t bs k1 0 ∧ R w') :
    Calls Tryz.prog 33 #[.pointer (some ⟨g, 0, none⟩), .int .i64 most] w fun r w' => r = .returned (.string ByteArray.empty) ∧ ∃ w1, R w1 ∧ RIs B w' g t bs k1 0 ∧ Grew w1 w' (· = g) := by
  have HC := hid_in hc
  clear hc
  go_enter Tryz.func33, Tryz.ntmps33
  go_wp2_with fail
  refine HC.out.mono ?_
  rintro e1 w1 ⟨rfl, hi, hR⟩
  have HR := hid_in hR
  have HI := hid_in hi
  obtain ⟨p, cap, b, off, hr, hsl, hne⟩ := hi.ex
  have hlb := hi.len
  have hle := hi.le
  have c0 : w1.cell? ⟨g, 0, none⟩ = some (.slice p bs.length cap) := hr.cell 0
  have c1 : w1.cell? ⟨g, 1, none⟩ = some (.int .i64 (k1 : Int)) := hr.cell 1
  have c2 : w1.cell? ⟨g, 2, none⟩ = some (.int .i64 0) := hr.cell 2
  have f1 := hr.frozen 1
  have HL := hid_in (rleft_any w1 g t bs k1 0 hi)
  have hcap := hsl.cap1
  obtain ⟨q, _, hsw0⟩ := slice_win b off bs.length cap k1 0 p (by omega)
  have hsw : ∀ w, (Instr.slice 23 (.slice p bs.length cap) (some (.int .i64 (k1 : Int))) (some (.int .i64 (k1 : Int))) none).run Tryz.prog w = .ok (.slice q 0 (cap - k1)) w := by
    intro w
    have := hsw0 w
    rw [show ((k1 : Int) + ((0 : Nat) : Int)) = (k1 : Int) by omega] at this
    exact this
  have hcv := conv_none (cap - k1) w1.drew q
  have hcv2 := conv_none (cap - k1) w1.drew.drew q
  obtain ⟨L, HLL⟩ : ∃ L, Hid ((bs.drop k1).length = L) := ⟨_, rfl⟩
  rw [HLL.out] at HL
  have hLb : L ≤ 9223372036854775807 := by have := HLL.out; rw [List.length_drop] at this; omega
  have HLE := hid_in hle
  clear hi hr hsl hne hR hcap hsw0
  go_wp2_with fail
  refine HL.out.mono ?_
  rintro e2 w2 ⟨rfl, rfl⟩
  go_wp2_with fail
  go_region
  go_wp2_with fail
  go_ret
  exact ⟨rfl, w1, HR.out, ris_move k1 HI.out.drew.drew HLE.out, (Grew.of_below (· = g) (Below.refl _ w1).drew.drew).trans (Grew.of_grown (grownBy_setCell w1.drew.drew ⟨g, 1, none⟩ _)) (fun q _ h => by simpa using h)⟩
set_option maxRecDepth 20000 in
set_option maxHeartbeats 400000 in
theorem rtextI_err {B : Nat} (w : World) (g : Nat) (t : TypeId) (bs : List Nat) (k1 e : Nat) (most : Int) (he : e ≠ 0) (R : World → Prop) (hc : Calls Tryz.prog 32 #[.pointer (some ⟨g, 0, none⟩)] w fun r w' => r = .returned (.int .u64 0) ∧ RIs B w' g t bs k1 e ∧ R w') :
    Calls Tryz.prog 33 #[.pointer (some ⟨g, 0, none⟩), .int .i64 most] w fun r w' => r = .returned (.string ByteArray.empty) ∧ RIs B w' g t bs k1 e ∧ R w' := by
  have HC := hid_in hc
  clear hc
  have k3 : ¬ ((e : Int) = 0) := by omega
  go_enter Tryz.func33, Tryz.ntmps33
  go_wp2_with fail
  refine HC.out.mono ?_
  rintro e1 w1 ⟨rfl, hi, hR⟩
  have HR := hid_in hR
  have HI := hid_in hi
  obtain ⟨p, cap, b, off, hr, hsl, hne⟩ := hi.ex
  have c2 : w1.cell? ⟨g, 2, none⟩ = some (.int .i64 (e : Int)) := hr.cell 2
  clear hi hr hsl hne hR
  go_wp2
  go_ret
  exact ⟨rfl, HI.out, HR.out⟩
set_option maxRecDepth 20000 in
set_option maxHeartbeats 400000 in
theorem rtextI_long {B : Nat} (w : World) (g : Nat) (t : TypeId) (bs : List Nat) (k1 n : Nat) (most : Int) (hm1 : -9223372036854775808 ≤ most) (hm2 : most ≤ 9223372036854775807) (hn : most.toNat < n) (hn2 : n < 18446744073709551616) (R : World → Prop) (hc : Calls Tryz.prog 32 #[.pointer (some ⟨g, 0, none⟩)] w fun r w' => r = .returned (.int .u64 (n : Int)) ∧ RIs B w' g t bs k1 0 ∧ R w') :
    Calls Tryz.prog 33 #[.pointer (some ⟨g, 0, none⟩), .int .i64 most] w fun r w' => r = .returned (.string ByteArray.empty) ∧ ∃ w1, R w1 ∧ RIs B w' g t bs bs.length 2 ∧ Grew w1 w' (· = g) := by
  have HC := hid_in hc
  clear hc
  go_enter Tryz.func33, Tryz.ntmps33
  go_wp2_with fail
  refine HC.out.mono ?_
  rintro e1 w1 ⟨rfl, hi, hR⟩
  have HR := hid_in hR
  have HB := hid_in (rbad_any w1 g t bs k1 0 2 hi)
  obtain ⟨p, cap, b, off, hr, hsl, hne⟩ := hi.ex
  have c2 : w1.cell? ⟨g, 2, none⟩ = some (.int .i64 0) := hr.cell 2
  clear hi hr hsl hne hR
  rcases (show most < 0 ∨ 0 ≤ most by omega) with h0 | h0
  · have k4 : (0 : Int) < (n : Int) := by omega
    go_wp2_with fail
    refine HB.out.mono ?_
    rintro e2 w2 ⟨rfl, h1, h2, h3⟩
    have H1 := hid_in h1
    have H2 := hid_in h2
    clear h1 h2 h3 c2
    go_wp2
    go_ret
    exact ⟨rfl, w1, HR.out, H1.out, (Grew.of_grown H2.out).mono (fun q h => by simpa using h)⟩
  · obtain ⟨M, rfl⟩ := Int.eq_ofNat_of_zero_le h0
    have k4 : (M : Int) < (n : Int) := by omega
    go_wp2_with fail
    refine HB.out.mono ?_
    rintro e2 w2 ⟨rfl, h1, h2, h3⟩
    have H1 := hid_in h1
    have H2 := hid_in h2
    clear h1 h2 h3 c2
    go_wp2
    go_ret
    exact ⟨rfl, w1, HR.out, H1.out, (Grew.of_grown H2.out).mono (fun q h => by simpa using h)⟩
set_option maxRecDepth 20000 in
set_option maxHeartbeats 400000 in
theorem rtextI_short {B : Nat} (w : World) (g : Nat) (t : TypeId) (bs : List Nat) (k1 n M : Nat) (hM : M ≤ 9223372036854775807) (hn : n ≤ M) (hs : (bs.drop k1).length < n) (R : World → Prop) (hc : Calls Tryz.prog 32 #[.pointer (some ⟨g, 0, none⟩)] w fun r w' => r = .returned (.int .u64 (n : Int)) ∧ RIs B w' g t bs k1 0 ∧ R w') :
    Calls Tryz.prog 33 #[.pointer (some ⟨g, 0, none⟩), .int .i64 (M : Int)] w fun r w' => r = .returned (.string ByteArray.empty) ∧ ∃ w1, R w1 ∧ RIs B w' g t bs bs.length 20 ∧ Grew w1 w' (· = g) := by
  have HC := hid_in hc
  clear hc
  go_enter Tryz.func33, Tryz.ntmps33
  go_wp2_with fail
  refine HC.out.mono ?_
  rintro e1 w1 ⟨rfl, hi, hR⟩
  have HR := hid_in hR
  have HB := hid_in (rbad_any w1.drew g t bs k1 0 20 hi.drew)
  have HL := hid_in (rleft_any w1 g t bs k1 0 hi)
  obtain ⟨p, cap, b, off, hr, hsl, hne⟩ := hi.ex
  have c2 : w1.cell? ⟨g, 2, none⟩ = some (.int .i64 0) := hr.cell 2
  have k2 : ¬ ((M : Int) < (n : Int)) := by omega
  have k3 : (0 : Int) ≤ (M : Int) := by omega
  obtain ⟨L, HLL⟩ : ∃ L, Hid ((bs.drop k1).length = L) := ⟨_, rfl⟩
  rw [HLL.out] at HL hs
  have k4 : (L : Int) < (n : Int) := by omega
  clear hi hr hsl hne hR
  go_wp2_with fail
  refine HL.out.mono ?_
  rintro e2 w2 ⟨rfl, rfl⟩
  go_wp2_with fail
  refine HB.out.mono ?_
  rintro e2 w2 ⟨rfl, h1, h2, h3⟩
  have H1 := hid_in h1
  have H2 := hid_in h2
  clear h1 h2 h3 c2
  go_wp2
  go_ret
  exact ⟨rfl, w1, HR.out, H1.out, (Grew.of_below (· = g) (Below.refl _ w1).drew).trans (Grew.of_grown H2.out) (fun q _ h => by simpa using h)⟩
end Go.Proofs.YtglfeocfhlmloaaGreat.Nd
namespace Go.Proofs.YtglfeocfhlmloaaGreat.Nd
open Go.RowKit
theorem rtextI_any {B : Nat} (w : World) (g : Nat) (t : TypeId) (bs : List Nat) (k0 : Nat) (most : Int) (hm1 : -9223372036854775808 ≤ most) (hm2 : most ≤ 9223372036854775807) (hi : RIs B w g t bs k0 0) :
    Calls Tryz.prog 33 #[.pointer (some ⟨g, 0, none⟩), .int .i64 most] w fun r w' => r = .returned (.string (str (Wire.rtext most (bs.drop k0)).1)) ∧ (∃ k', bs.drop k' = (Wire.rtext most (bs.drop k0)).2.1 ∧ RIs B w' g t bs k' (Wire.rtext most (bs.drop k0)).2.2) ∧ Grew w w' (· = g) := by
  have hc := rnumI_any w g t bs k0 hi
  have hlt := rnum_lt (bs.drop k0)
  have herr := rnumF_err 10 0 0 (bs.drop k0)
  have hT : Wire.rtext most (bs.drop k0) = if (Wire.rnum (bs.drop k0)).2.2 ≠ 0 then ([], (Wire.rnum (bs.drop k0)).2.1, (Wire.rnum (bs.drop k0)).2.2) else if most.toNat < (Wire.rnum (bs.drop k0)).1 then ([], [], 2) else if (Wire.rnum (bs.drop k0)).2.1.length < (Wire.rnum (bs.drop k0)).1 then ([], [], 20) else ((Wire.rnum (bs.drop k0)).2.1.take (Wire.rnum (bs.drop k0)).1, (Wire.rnum (bs.drop k0)).2.1.drop (Wire.rnum (bs.drop k0)).1, 0) := rfl
  change (Wire.rnum (bs.drop k0)).2.2 ≠ 0 → (Wire.rnum (bs.drop k0)).1 = 0 ∧ (Wire.rnum (bs.drop k0)).2.1 = [] at herr
  obtain ⟨m, hsub, hml⟩ : ∃ m, (Wire.rnum (bs.drop k0)).2.1 = (bs.drop k0).drop m ∧ m ≤ (bs.drop k0).length := rnumF_sub 10 0 0 (bs.drop k0)
  generalize Wire.rtext most (bs.drop k0) = T at hT ⊢
  generalize Wire.rnum (bs.drop k0) = N at hc hlt herr hT hsub
  obtain ⟨n, r, e⟩ := N
  simp only at hc hlt herr hT hsub
  have hk0 := hi.le
  rw [List.drop_drop] at hsub
  rw [List.length_drop] at hml
  obtain ⟨k1, hk1⟩ : ∃ k1, k1 = k0 + m := ⟨_, rfl⟩
  rw [← hk1] at hsub
  have hk1l : k1 ≤ bs.length := by omega
  subst hsub
  have hc' : Calls Tryz.prog 32 #[.pointer (some ⟨g, 0, none⟩)] w fun r w' => r = .returned (.int .u64 (n : Int)) ∧ RIs B w' g t bs k1 e ∧ Grew w w' (· = g) := by
    refine hc.mono ?_
    rintro x w' ⟨hx, ⟨k', hk', hr'⟩, hg⟩
    have hl' := hr'.le
    have := congrArg List.length hk'
    rw [List.length_drop, List.length_drop] at this
    obtain rfl : k' = k1 := by omega
    exact ⟨hx, hr', hg⟩
  clear hc hi
  have hgg : ∀ w1 w', Grew w w1 (· = g) → Grew w1 w' (· = g) → Grew w w' (· = g) := fun w1 w' h1 h2 => h1.trans h2 (fun _ _ h => h)
  by_cases he : e = 0
  · subst he
    rw [if_neg (by simp)] at hT
    by_cases hlong : most.toNat < n
    · rw [if_pos hlong] at hT
      subst hT
      refine (rtextI_long w g t bs k1 n most hm1 hm2 hlong hlt _ hc').mono ?_
      rintro x w' ⟨rfl, w1, h1, h2, h3⟩
      exact ⟨rfl, ⟨bs.length, by simp, h2⟩, hgg w1 w' h1 h3⟩
    · rw [if_neg hlong] at hT
      rcases (show most < 0 ∨ 0 ≤ most by omega) with h0 | h0
      · obtain rfl : n = 0 := by omega
        rw [if_neg (by omega)] at hT
        subst hT
        refine (rtextI_none w g t bs k1 most h0 _ hc').mono ?_
        rintro x w' ⟨rfl, w1, h1, h2, h3⟩
        exact ⟨rfl, ⟨k1, by simp, h2⟩, hgg w1 w' h1 h3⟩
      · obtain ⟨M, rfl⟩ := Int.eq_ofNat_of_zero_le h0
        by_cases hs : (bs.drop k1).length < n
        · rw [if_pos hs] at hT
          subst hT
          refine (rtextI_short w g t bs k1 n M (by omega) (by omega) hs _ hc').mono ?_
          rintro x w' ⟨rfl, w1, h1, h2, h3⟩
          exact ⟨rfl, ⟨bs.length, by simp, h2⟩, hgg w1 w' h1 h3⟩
        · rw [if_neg hs] at hT
          subst hT
          refine (rtextI_some w g t bs k1 n M (by omega) (by omega) _ hc' (by omega)).mono ?_
          rintro x w' ⟨rfl, w1, h1, h2, h3⟩
          exact ⟨rfl, ⟨k1 + n, by simp [List.drop_drop], h2⟩, hgg w1 w' h1 h3⟩
  · obtain ⟨rfl, hr⟩ := herr he
    rw [if_pos he] at hT
    subst hT
    refine (rtextI_err w g t bs k1 e most he _ hc').mono ?_
    rintro x w' ⟨rfl, h2, h3⟩
    exact ⟨rfl, ⟨k1, rfl, h2⟩, h3⟩
end Go.Proofs.YtglfeocfhlmloaaGreat.Nd
