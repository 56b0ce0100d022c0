/-
  The walk of the reference's Frame.
-/
import Derived.Test.YtjaplfdcdokhfaaF1
namespace Go.Proofs.Ytjaplfdcdokhfaa
open Go.RowKit

theorem own_four (w : World) (n : Nat) : (w.alloc (.cells ((Wire.four n).map u8v).toArray 5)).ownsRow w.heap.size 5 1 (.slice (some ⟨w.heap.size, 0, none⟩) 4 4) 4 ((Wire.four n).map u8v) := by
  refine ⟨by simp [Wire.four_length], .inr ⟨w.heap.size, 4, _, rfl, Nat.le_refl _, heap_alloc_new w _, by omega, by unfold maxLen; omega, by simp [Wire.four_length], ?_⟩⟩
  rw [List.take_of_length_le (by simp [Wire.four_length])]

set_option maxHeartbeats 1000000 in
theorem rframe_any (bs : List Nat) (p : Option Addr) (cap b off : Nat) (w : World) (hsl : Sl w p bs cap b off) (hno : p = none → bs.length = 0 ∧ cap = 0) :
    Calls Try.prog 27 #[.slice p bs.length cap] w fun e w' => Below w.heap.size w w' ∧
      ((262144 < bs.length ∧ e = .returned (.tuple #[.slice none 0 0, .int .i64 2])) ∨
       (bs.length ≤ 262144 ∧ ∃ v, e = .returned (.tuple #[v, .int .i64 0]) ∧ w'.ownsRow w.heap.size 5 1 v (Wire.frame bs).length ((Wire.frame bs).map u8v))) := by
  obtain ⟨i5i, HI5, HE1, HE2, HE3⟩ := i5h
  have k0 : (bs.length : Int) ≤ 9223372036854775807 := by have := hsl.cap1; have := hsl.cap2; omega
  by_cases hL : 262144 < bs.length
  · have k1 : (262144 : Int) < (bs.length : Int) := by omega
    clear hsl
    go_enter Try.func27, Try.ntmps27
    go_wp2
    go_ret2
    exact ⟨Below.refl _ _, .inl ⟨hL, rfl⟩⟩
  · have k1 : (bs.length : Int) ≤ 262144 := by omega
    have HSL := hid_inF hsl
    clear hsl
    go_enter Try.func27, Try.ntmps27
    go_wp2_with fail
    refine (four_any bs.length (by omega) w).mono ?_
    rintro e w1 ⟨rfl, hw1⟩
    have hb1 : Below w.heap.size w w1 := by rw [hw1]; exact (Below.refl _ _).alloc (Nat.le_refl _) _
    have hown1 : w1.ownsRow w.heap.size 5 1 (.slice (some ⟨w.heap.size, 0, none⟩) 4 4) 4 ((Wire.four bs.length).map u8v) := by rw [hw1]; exact own_four w _
    clear hw1
    have hsl1 := HSL.out.below hb1
    have hnews := hsl1.news
    have hl1 : (bs.map u8v).length = bs.length := by simp
    have hf1 : 4 + bs.length ≤ 140737488355328 := by omega
    have hbs1 := hb1.size
    have hlt := HSL.out.lt
    have hin : ∀ x ∈ Wire.four bs.length ++ bs, x < 256 := by
      intro x hx
      rcases List.mem_append.1 hx with hx | hx
      · exact Wire.four_lt _ x hx
      · exact hlt x hx
    clear hsl1
    go_wp2_with (at_builtin; refine wpList_append_any rfl _ _ 25 rfl w.heap.size 5 i5i (.int .u8 0) Try.underlying25 HI5.out HE3.out HE1.out HE2.out rfl _ _ _ rfl hown1 p bs.length cap (bs.map u8v) rfl hl1 hno hnews (one_u8 bs) hf1 hbs1 ?_; intro v2 w2 hown2 hg2; have HG2 := hid_inF hg2; obtain ⟨q2, c2, rfl, _, _⟩ := hown2.form (Nat.lt_of_lt_of_le (by decide) (Nat.le_add_right 4 bs.length)))
    rw [← List.map_append] at hown2
    have hb2 : Below w.heap.size w w2 := own_step hb1 HG2.out hbs1 rfl hown1
    have hXl : (Wire.four bs.length ++ bs).length = 4 + bs.length := by simp [Wire.four_length]
    have hown2' : w2.ownsRow w.heap.size 5 1 (.slice (some ⟨q2, 0, none⟩) (4 + bs.length) c2) (Wire.four bs.length ++ bs).length ((Wire.four bs.length ++ bs).map u8v) := by rw [hXl]; exact hown2
    obtain ⟨p2, c2', b2, hv2, hsl2, _⟩ := own_sl hin hown2'
    have hck := rcheck_any _ _ _ _ _ _ hsl2
    rw [← hv2] at hck
    have hcl := Wire.check_lt hin
    obtain ⟨c, HC⟩ : ∃ c, Hid (c = Wire.check (Wire.four bs.length ++ bs)) := ⟨_, rfl⟩
    rw [← HC.out] at hck hcl
    have HF : Hid (Wire.four bs.length ++ bs ++ Wire.four c = Wire.frame bs) := by show _ = _; rw [HC.out]; rfl
    have hsz2 := hb2.size
    clear hown2 hown1 hnews hg2 hsl2 hv2 HSL hb1 hbs1
    go_wp2_with fail
    refine hck.mono ?_
    rintro e w3 ⟨rfl, hw3⟩
    have hw3' := hw3.symm
    subst hw3'
    clear hck hw3
    go_wp2_with fail
    refine (four_any c hcl w2).mono ?_
    rintro e w4 ⟨rfl, hw4⟩
    subst hw4
    have hone := one_u8 (Wire.four c)
    have hf2 : (4 + bs.length) + 4 ≤ 140737488355328 := by omega
    have hown2'' : w2.ownsRow w.heap.size 5 1 (.slice (some ⟨q2, 0, none⟩) (4 + bs.length) c2) (4 + bs.length) ((Wire.four bs.length ++ bs).map u8v) := by rw [hXl] at hown2'; exact hown2'
    have hl4 : ((Wire.four c).map u8v).length = 4 := by simp [Wire.four_length]
    have HXL := hid_inF hXl
    clear hown2' hXl
    go_wp2_with (at_builtin; refine wpList_append_lit rfl _ _ 25 rfl w.heap.size 5 i5i (.int .u8 0) Try.underlying25 HI5.out HE3.out HE1.out HE2.out rfl _ _ _ rfl hown2'' 5 ((Wire.four c).map u8v) hone 4 hl4 rfl hf2 hsz2 ?_; intro v5 w5 hown5 hb5 hs5; have HB5 := hid_inF hb5; clear hb5)
    go_ret2
    refine ⟨HB5.out _ hb2, .inr ⟨by omega, _, rfl, ?_⟩⟩
    have hfl := Wire.frame_length bs
    rw [hfl, ← HF.out, List.map_append, show bs.length + 8 = 4 + bs.length + 4 by omega]
    exact hown5
end Go.Proofs.Ytjaplfdcdokhfaa
