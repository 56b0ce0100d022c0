/-
  The walk of (*wire.In).Flag; none of the bytes, taken.
-/
import Derived.Test.YtjaplfdcdokhfaaS12
namespace Go.Proofs.Ytjaplfdcdokhfaa
open Go.RowKit

namespace Wire
/-- a flag that is read: what it is, what is left, what is wrong -/
def rflag : List Nat → Bool × List Nat × Nat
  | [] => (false, [], 20)
  | c :: r => if 1 < c then (false, [], 21) else (decide (c = 1), r, 0)
end Wire
theorem iflag_bad (w : World) (g e : Nat) (bs : List Nat) (he : e ≠ 0) (hi : InIs w g bs e) :
    Calls Try.prog 19 #[.pointer (some ⟨g, 0, none⟩)] w fun r w' => r = .returned (.bool false) ∧ w' = w := by
  have HI := hid_in hi
  clear hi
  go_enter Try.func19, Try.ntmps19
  go_wp2_with fail
  refine (take_bad _ g e 1 bs he HI.out).mono ?_
  rintro e w1 ⟨rfl, rfl⟩
  go_wp2
  go_ret
  exact ⟨rfl, rfl⟩
set_option maxHeartbeats 400000 in
theorem iflag_any (w : World) (g : Nat) (bs : List Nat) (hlt : ∀ x ∈ bs, x < 256) (hi : InIs w g bs 0) :
    Calls Try.prog 19 #[.pointer (some ⟨g, 0, none⟩)] w fun r w' => r = .returned (.bool (Wire.rflag bs).1) ∧ InIs w' g (Wire.rflag bs).2.1 (Wire.rflag bs).2.2 ∧ w.grownBy w' (some g) ∧ w'.heap.size = w.heap.size := by
  have HI := hid_in hi
  clear hi
  go_enter Try.func19, Try.ntmps19
  rcases bs with _ | ⟨c, r⟩
  · go_wp2_with fail
    refine (take_short _ g 1 [] (by simp) HI.out).mono ?_
    rintro e w1 ⟨rfl, h1, h2, h3⟩
    have H1 := hid_in h1
    have H2 := hid_in h2
    have H3 := hid_in h3
    clear h1 h2 h3
    go_wp2
    go_ret
    exact ⟨rfl, H1.out, H2.out, H3.out⟩
  · have hc := hlt c (by simp)
    clear hlt
    go_wp2_with fail
    refine (take_some _ g 1 (c :: r) (by omega) (by simp) HI.out).mono ?_
    rintro e w1 ⟨b, off, cap, rfl, hsl, h1, h2, h3⟩
    have c0 : w1.cell? ⟨b, off, none⟩ = some (.int .u8 (c : Int)) := hsl.src 0 (by simp)
    have H1 : Hid (InIs w1 g r 0) := h1
    have H2 := hid_in h2
    have H3 := hid_in h3
    have HF1 := hid_in (h1.ex)
    clear h1 h2 h3 hsl HI
    by_cases hbad : 1 < c
    · have k0 : ¬ ((c : Int) = 0) := by omega
      have k1 : ((c : Int) != 0) = true := by rw [bne_iff_ne]; omega
      have k2 : ((c : Int) != 1) = true := by rw [bne_iff_ne]; omega
      have HV : Hid (Wire.rflag (c :: r) = (false, [], 21)) := by show _ = _; unfold Wire.rflag; simp only; rw [if_pos hbad]
      obtain ⟨p2, cap2, b2, off2, hrow, _, _, _⟩ := HF1.out
      have HFF := hid_in (fail_any w1 g 21 _ _ hrow)
      clear hrow HF1 hbad
      go_wp2_with fail
      refine HFF.out.mono ?_
      rintro e w2 ⟨rfl, h1, h2, h3⟩
      have H4 := hid_in h1
      have H5 := hid_in h2
      have H6 := hid_in h3
      clear h1 h2 h3
      go_wp2
      go_ret
      rw [HV.out]
      exact ⟨rfl, H4.out, grownBy_trans H2.out H5.out, H6.out.trans H3.out⟩
    · have HV : Hid (Wire.rflag (c :: r) = (decide (c = 1), r, 0)) := by show _ = _; unfold Wire.rflag; simp only; rw [if_neg hbad]
      obtain rfl | rfl : c = 0 ∨ c = 1 := by omega
      · clear hbad hc
        go_wp2
        go_ret
        rw [HV.out]
        exact ⟨rfl, H1.out, H2.out, H3.out⟩
      · clear hbad hc
        go_wp2
        go_ret
        rw [HV.out]
        exact ⟨rfl, H1.out, H2.out, H3.out⟩
theorem iflag_nil (w : World) :
    Calls Try.prog 19 #[.pointer none] w fun r w' => r = .returned (.bool false) ∧ w' = w := by
  go_enter Try.func19, Try.ntmps19
  go_wp2_with fail
  refine (take_nil _ 1).mono ?_
  rintro e w1 ⟨rfl, rfl⟩
  go_wp2
  go_ret
  exact ⟨rfl, rfl⟩
end Go.Proofs.Ytjaplfdcdokhfaa
