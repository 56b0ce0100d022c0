/-
  The reference's Text, all cases in one.
-/
import Derived.Test.YtbccjomnfclkdaaU10
namespace Go.Proofs.Ytbccjomnfclkdaa
open Go.RowKit
theorem rtextI_any {B : Nat} (w : World) (g : Nat) (t : TypeId) (bs : List Nat) (k0 : Nat) (most : Int) (hm1 : -9223372036854775808 ≤ most) (hm2 : most ≤ 9223372036854775807) (hi : RIs B w g t bs k0 0) :
    Calls Try.prog 36 #[.pointer (some ⟨g, 0, none⟩), .int .i64 most] w fun r w' => r = .returned (.string (str (Wire.rtext most (bs.drop k0)).1)) ∧ (∃ k', bs.drop k' = (Wire.rtext most (bs.drop k0)).2.1 ∧ RIs B w' g t bs k' (Wire.rtext most (bs.drop k0)).2.2) ∧ Grew w w' (· = g) := by
  have hc := rnumI_any w g t bs k0 hi
  have hlt := rnum_lt (bs.drop k0)
  have herr := rnumF_err 10 0 0 (bs.drop k0)
  have hT : Wire.rtext most (bs.drop k0) = if (Wire.rnum (bs.drop k0)).2.2 ≠ 0 then ([], (Wire.rnum (bs.drop k0)).2.1, (Wire.rnum (bs.drop k0)).2.2) else if most.toNat < (Wire.rnum (bs.drop k0)).1 then ([], [], 2) else if (Wire.rnum (bs.drop k0)).2.1.length < (Wire.rnum (bs.drop k0)).1 then ([], [], 20) else ((Wire.rnum (bs.drop k0)).2.1.take (Wire.rnum (bs.drop k0)).1, (Wire.rnum (bs.drop k0)).2.1.drop (Wire.rnum (bs.drop k0)).1, 0) := rfl
  change (Wire.rnum (bs.drop k0)).2.2 ≠ 0 → (Wire.rnum (bs.drop k0)).1 = 0 ∧ (Wire.rnum (bs.drop k0)).2.1 = [] at herr
  obtain ⟨m, hsub, hml⟩ : ∃ m, (Wire.rnum (bs.drop k0)).2.1 = (bs.drop k0).drop m ∧ m ≤ (bs.drop k0).length := rnumF_sub 10 0 0 (bs.drop k0)
  generalize Wire.rtext most (bs.drop k0) = T at hT ⊢
  generalize Wire.rnum (bs.drop k0) = N at hc hlt herr hT hsub
  obtain ⟨n, r, e⟩ := N
  simp only at hc hlt herr hT hsub
  have hk0 := hi.le
  rw [List.drop_drop] at hsub
  rw [List.length_drop] at hml
  obtain ⟨k1, hk1⟩ : ∃ k1, k1 = k0 + m := ⟨_, rfl⟩
  rw [← hk1] at hsub
  have hk1l : k1 ≤ bs.length := by omega
  subst hsub
  have hc' : Calls Try.prog 35 #[.pointer (some ⟨g, 0, none⟩)] w fun r w' => r = .returned (.int .u64 (n : Int)) ∧ RIs B w' g t bs k1 e ∧ Grew w w' (· = g) := by
    refine hc.mono ?_
    rintro x w' ⟨hx, ⟨k', hk', hr'⟩, hg⟩
    have hl' := hr'.le
    have := congrArg List.length hk'
    rw [List.length_drop, List.length_drop] at this
    obtain rfl : k' = k1 := by omega
    exact ⟨hx, hr', hg⟩
  clear hc hi
  have hgg : ∀ w1 w', Grew w w1 (· = g) → Grew w1 w' (· = g) → Grew w w' (· = g) := fun w1 w' h1 h2 => h1.trans h2 (fun _ _ h => h)
  by_cases he : e = 0
  · subst he
    rw [if_neg (by simp)] at hT
    by_cases hlong : most.toNat < n
    · rw [if_pos hlong] at hT
      subst hT
      refine (rtextI_long w g t bs k1 n most hm1 hm2 hlong hlt _ hc').mono ?_
      rintro x w' ⟨rfl, w1, h1, h2, h3⟩
      exact ⟨rfl, ⟨bs.length, by simp, h2⟩, hgg w1 w' h1 h3⟩
    · rw [if_neg hlong] at hT
      rcases (show most < 0 ∨ 0 ≤ most by omega) with h0 | h0
      · obtain rfl : n = 0 := by omega
        rw [if_neg (by omega)] at hT
        subst hT
        refine (rtextI_none w g t bs k1 most h0 _ hc').mono ?_
        rintro x w' ⟨rfl, w1, h1, h2, h3⟩
        exact ⟨rfl, ⟨k1, by simp, h2⟩, hgg w1 w' h1 h3⟩
      · obtain ⟨M, rfl⟩ := Int.eq_ofNat_of_zero_le h0
        by_cases hs : (bs.drop k1).length < n
        · rw [if_pos hs] at hT
          subst hT
          refine (rtextI_short w g t bs k1 n M (by omega) (by omega) hs _ hc').mono ?_
          rintro x w' ⟨rfl, w1, h1, h2, h3⟩
          exact ⟨rfl, ⟨bs.length, by simp, h2⟩, hgg w1 w' h1 h3⟩
        · rw [if_neg hs] at hT
          subst hT
          refine (rtextI_some w g t bs k1 n M (by omega) (by omega) _ hc' (by omega)).mono ?_
          rintro x w' ⟨rfl, w1, h1, h2, h3⟩
          exact ⟨rfl, ⟨k1 + n, by simp [List.drop_drop], h2⟩, hgg w1 w' h1 h3⟩
  · obtain ⟨rfl, hr⟩ := herr he
    rw [if_pos he] at hT
    subst hT
    refine (rtextI_err w g t bs k1 e most he _ hc').mono ?_
    rintro x w' ⟨rfl, h2, h3⟩
    exact ⟨rfl, ⟨k1, rfl, h2⟩, h3⟩
end Go.Proofs.Ytbccjomnfclkdaa
