/-
  The walk of the statement VpathParses.
-/
import Derived.Test.YtodfdinocnhaoaaR2
namespace Go.Proofs.Ytodfdinocnhaoaa
open Go.RowKit

theorem texts_eq {xs : List Str} {u v : Value} {w : World} (hx : Val w u xs) (hy : Val w v xs) : Calls Try.prog 13 #[u, v] w fun e w' => e = .returned (.bool true) ∧ ∃ m, w' = w.drewN m :=
  (texts_v hx hy).mono fun e w' ⟨he, hw⟩ => ⟨by rw [he]; simp, hw⟩

set_option maxHeartbeats 1000000 in
set_option maxRecDepth 100000 in
theorem parses_any (s : Str) (hs : s.length ≤ 9223372036854775807) (w : World) : Calls Try.prog 3 #[.string (B s)] w fun e w' => e = .returned (.bool true) ∧ Below w.heap.size w w' := by
  have HA := hid_in (awake_any w)
  have HP := hid_in (parse_any s hs)
  have HR := hid_in (rparse_any s hs)
  have HC := hid_in (clean_any s hs)
  have HS := hid_in (parse_sum s)
  have HCL : Hid (cleanS s = if (parseS s).2 = 0 then showS (parseS s).1 else []) := rfl
  clear hs
  generalize B s = t at HP HR HC ⊢
  generalize cleanS s = cs at HC HCL
  generalize parseS s = R at HP HR HC HS HCL
  obtain ⟨xs, k⟩ := R
  simp only at HP HR HC HS HCL
  by_cases hk : k = 0
  · subst hk
    have hcs : cs = showS xs := by rw [HCL.out, if_pos rfl]
    subst hcs
    clear HCL
    have hst := toL (showS xs)
    obtain ⟨sx, hsx⟩ : ∃ sx, Hid (B (showS xs) = sx) := ⟨_, rfl⟩
    rw [hsx.out] at HC hst
    clear hst
    go_enter Try.func3, Try.ntmps3
    go_wp2_with (first
      | (go_at_call 8; refine HA.out.mono ?_; rintro e w1 ⟨rfl, hbel⟩; have HB := hid_in hbel; clear hbel)
      | (go_at_call 9; refine (HP.out _).mono ?_; rintro e w2 ⟨v2, rfl, hn, hbel⟩; have HN2 := hid_in hn.val; have HB2 := hid_in hbel; clear hbel hn)
      | (go_at_call 10; refine (HR.out _).mono ?_; rintro e w3 ⟨v3, rfl, hn, hbel⟩; have HN3 := hid_in hn.val; have HN2 := hid_in (HN2.out.below hbel); have HB3 := hid_in hbel; clear hbel hn)
      | (go_at_call 11; refine (HC.out _).mono ?_; rintro e w4 ⟨rfl, hbel⟩; have HN3 := hid_in (HN3.out.below hbel); have HN2 := hid_in (HN2.out.below hbel); have HB4 := hid_in hbel; clear hbel)
      | (go_at_call 12; refine (rshow_v HN3.out (by have := HS.out; omega)).mono ?_; rw [hsx.out]; rintro e w5 ⟨rfl, hd⟩; have HN3 := hid_in (HN3.out.drew hd); have HN2 := hid_in (HN2.out.drew hd); have HD5 := hid_in hd; clear hd)
      | (go_at_call 13; refine (texts_eq HN2.out HN3.out).mono ?_; rintro e w6 ⟨rfl, hd⟩; have HD6 := hid_in hd; clear hd))
    go_ret
    exact ⟨rfl, below_ex (below_ex (((HB.out.trans (HB2.out.mono HB.out.size)).trans (HB3.out.mono (Nat.le_trans HB.out.size HB2.out.size))).trans (HB4.out.mono (Nat.le_trans (Nat.le_trans HB.out.size HB2.out.size) HB3.out.size))) HD5.out) HD6.out⟩
  · have hcs : cs = [] := by rw [HCL.out, if_neg hk]
    subst hcs
    have hk2 : (k == 0) = false := beq_eq_false_iff_ne.2 hk
    clear HCL hk
    have hst := toL []
    obtain ⟨sx, hsx⟩ : ∃ sx, Hid (B [] = sx) := ⟨_, rfl⟩
    rw [hsx.out] at HC hst
    go_enter Try.func3, Try.ntmps3
    go_wp2_with (first
      | (go_at_call 8; refine HA.out.mono ?_; rintro e w1 ⟨rfl, hbel⟩; have HB := hid_in hbel; clear hbel)
      | (go_at_call 9; refine (HP.out _).mono ?_; rintro e w2 ⟨v2, rfl, hn, hbel⟩; have HN2 := hid_in hn.val; have HB2 := hid_in hbel; clear hbel hn)
      | (go_at_call 10; refine (HR.out _).mono ?_; rintro e w3 ⟨v3, rfl, hn, hbel⟩; have HN3 := hid_in hn.val; have HN2 := hid_in (HN2.out.below hbel); have HB3 := hid_in hbel; clear hbel hn)
      | (go_at_call 11; refine (HC.out _).mono ?_; rintro e w4 ⟨rfl, hbel⟩; have HN3 := hid_in (HN3.out.below hbel); have HN2 := hid_in (HN2.out.below hbel); have HB4 := hid_in hbel; clear hbel)
      | (go_at_call 13; refine (texts_eq HN2.out HN3.out).mono ?_; rintro e w6 ⟨rfl, hd⟩; have HD6 := hid_in hd; clear hd))
    go_ret
    exact ⟨rfl, below_ex (((HB.out.trans (HB2.out.mono HB.out.size)).trans (HB3.out.mono (Nat.le_trans HB.out.size HB2.out.size))).trans (HB4.out.mono (Nat.le_trans (Nat.le_trans HB.out.size HB2.out.size) HB3.out.size))) HD6.out⟩

theorem parses_s (s : ByteArray) (hs : (bl s).length ≤ 9223372036854775807) (w : World) : Calls Try.prog 3 #[.string s] w fun e w' => e = .returned (.bool true) ∧ Below w.heap.size w w' := by
  have h := parses_any (bl s) hs w
  rw [B_bl] at h
  exact h
end Go.Proofs.Ytodfdinocnhaoaa
