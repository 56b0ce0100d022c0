/-
  The walk of the statement WireTells.
-/
import Derived.Test.YtjaplfdcdokhfaaS13
namespace Go.Proofs.Ytjaplfdcdokhfaa
open Go.RowKit

theorem next_err (b : List Nat) (h : (Wire.next b).2.2 ≠ 0) : (Wire.next b).2.1 = 0 ∧ (Wire.next b).1 = [] := by
  unfold Wire.next at *
  split
  · exact ⟨rfl, rfl⟩
  · split
    · exact ⟨rfl, rfl⟩
    · split
      · exact ⟨rfl, rfl⟩
      · split
        · exact ⟨rfl, rfl⟩
        · simp_all
theorem xor8 (x y : Nat) (hx : x < 256) (hy : y < 256) : bits .xor .u8 (x : Int) (y : Int) = ((x ^^^ y : Nat) : Int) := u8_xor_nat x y hx hy
theorem xor_ne (x y : Nat) (hy : y ≠ 0) : x ^^^ y ≠ x := by
  intro h
  have h' : x ^^^ (x ^^^ y) = x ^^^ x := by rw [h]
  rw [← Nat.xor_assoc, Nat.xor_self, Nat.zero_xor] at h'
  exact hy h'
theorem set_lt {l : List Nat} {j c : Nat} (h : ∀ x ∈ l, x < 256) (hc : c < 256) : ∀ x ∈ l.set j c, x < 256 := by
  intro x hx
  rcases List.mem_or_eq_of_mem_set hx with hx | rfl
  · exact h x hx
  · exact hc

theorem umod (at_ : Int) (n : Nat) (hn : 0 < n) : ∃ k : Nat, (IntKind.u64.wrap at_).tmod (n : Int) = (k : Int) ∧ k < n := by
  have h0 : 0 ≤ IntKind.u64.wrap at_ := by rw [IntKind.wrap_u64]; omega
  have h1 : 0 ≤ (IntKind.u64.wrap at_).tmod (n : Int) := Int.tmod_nonneg _ h0
  have h2 : (IntKind.u64.wrap at_).tmod (n : Int) < (n : Int) := Int.tmod_lt_of_pos _ (by omega)
  exact ⟨((IntKind.u64.wrap at_).tmod (n : Int)).toNat, by omega, by omega⟩

set_option maxHeartbeats 1000000 in
set_option maxRecDepth 100000 in
theorem tells_any (bs : List Nat) (p : Option Addr) (cap b off : Nat) (at_ : Int) (t : Nat) (ht : t < 256) (w : World) (hsl : Sl w p bs cap b off) (hno : p = none → bs.length = 0 ∧ cap = 0) :
    Calls Try.prog 8 #[.slice p bs.length cap, .int .i64 at_, .int .u8 (t : Int)] w fun e w' => e = .returned (.bool true) ∧ Below w.heap.size w w' := by
  go_enter Try.func8, Try.ntmps8
  go_wp2_with fail
  refine (awake_any w).mono ?_
  rintro e w1 ⟨rfl, hb1⟩
  have hsl1 := hsl.below hb1
  clear hsl
  go_wp2_with fail
  refine (frame_any bs p cap b off w1 hsl1 hno).mono ?_
  rintro e w2 ⟨hb2, ⟨hL, rfl⟩ | ⟨hL, v, rfl, hown⟩⟩
  · have hbw2 : Below w.heap.size w w2 := hb1.trans (hb2.mono hb1.size)
    clear hsl1 hno
    go_wp2
    go_ret
    exact ⟨rfl, hbw2⟩
  · have hbw2 : Below w.heap.size w w2 := hb1.trans (hb2.mono hb1.size)
    have hlt := Wire.frame_lt hsl1.lt
    have hbl := hsl1.lt
    have hfl := Wire.frame_length bs
    obtain ⟨F, HF⟩ : ∃ F, Hid (F = Wire.frame bs) := ⟨_, rfl⟩
    rw [← HF.out] at hown hlt hfl
    obtain ⟨g, cg, vs, rfl, hgB, hglt, hrg, hn1, hn2, hvl, hvt⟩ := own_row hown (by omega)
    have hge : w.heap.size ≤ g := Nat.le_trans hb1.size hgB
    clear hown hsl1 hno hb2
    by_cases h0 : t = 0
    · subst h0
      clear hrg hvt
      go_wp2
      go_ret
      exact ⟨rfl, hbw2⟩
    · have k0 : ¬ ((t : Int) = 0) := by omega
      obtain ⟨n, hn⟩ : ∃ n, n = F.length := ⟨_, rfl⟩
      rw [← hn] at hn1 hvt ⊢
      have HN := hid_in hn
      have hn8 : n = bs.length + 8 := by omega
      have HN8 := hid_in hn8
      have kn1 : (8 : Int) ≤ (n : Int) := by omega
      have kn2 : (n : Int) ≤ 262152 := by omega
      clear hn hn8 hfl
      obtain ⟨k, hk, hkn⟩ := umod at_ n (by omega)
      have kk : (k : Int) < (n : Int) := by omega
      have hFl : F.length = n := HN.out.symm
      have c1 : w2.cell? ⟨g, k, none⟩ = some (.int .u8 ((F.getD k 0 : Nat) : Int)) := by
        rw [hrg.cell, ← List.getElem?_take_of_lt hkn, hvt]
        simp [show k < F.length by omega, u8v]
      have f1 := hrg.frozen k
      have hx := getD_lt hlt k
      have HNE := hid_in (xor_ne (F.getD k 0) t h0)
      have hxor := xor8 (F.getD k 0) t hx ht
      have hc : F.getD k 0 ^^^ t < 256 := Nat.xor_lt_two_pow (n := 8) hx ht
      have HX := hid_in (rfl : F.getD k 0 = F.getD k 0)
      obtain ⟨x, HXE⟩ : ∃ x, Hid (F.getD k 0 = x) := ⟨_, rfl⟩
      rw [HXE.out] at c1 hxor hc HNE
      obtain ⟨c, HC⟩ : ∃ c, Hid (x ^^^ t = c) := ⟨_, rfl⟩
      rw [HC.out] at hxor hc HNE
      have hr3 := hrg.set_same k (.int .u8 (c : Int))
      have ht3 : (vs.set k (.int .u8 (c : Int))).take n = (F.set k c).map u8v := by
        rw [List.take_set, hvt, List.map_set]; rfl
      have hl3 : (F.set k c).length = n := by rw [List.length_set]; exact hFl
      have hsl3 := row_sl (cap := cg) hr3 ht3 (by omega) (set_lt hlt hc) (by omega) hn2
      have hnx := next_any _ _ _ _ _ _ hsl3
      rw [hl3] at hnx
      have hset := Wire.next_set (p := bs) hbl hL (j := k) (c := c) (by have := HN8.out; omega) hc (by rw [← HF.out, HXE.out]; exact HNE.out)
      rw [← HF.out] at hset
      have herr := next_err (F.set k c)
      have hb3 : Below w.heap.size w (w2.setCell ⟨g, k, none⟩ (.int .u8 (c : Int))) := hbw2.setCell hge _
      generalize Wire.next (F.set k c) = R at hnx hset herr
      obtain ⟨P, N, X⟩ := R
      have HSET := hid_in hset
      have HERR := hid_in herr
      clear hset herr hsl3 ht3 hr3 hFl HX hlt hbl hrg hvt
      go_wp2_with fail
      refine hnx.mono ?_
      rintro e w4 ⟨v4, rfl, hown4, hb4⟩
      have hbw4 : Below w.heap.size w w4 := hb3.trans (hb4.mono hb3.size)
      simp only at hown4 ⊢
      clear hnx hb3 hb4 c1 f1 hxor
      by_cases hX : X = 0
      · subst hX
        have hN : N ≠ n := by
          rcases HSET.out with h | h
          · exact absurd rfl h
          · have := HN8.out; omega
        have kN : ((N : Int) == (n : Int)) = false := by rw [beq_eq_false_iff_ne]; omega
        have kN2 : ¬ ((N : Int) = (n : Int)) := by omega
        clear hown4 HSET HERR
        go_wp2
        go_ret
        refine ⟨?_, hbw4⟩
        simp [kN2]
      · obtain ⟨hN, hP⟩ := HERR.out hX
        subst hN hP
        obtain ⟨p4, c4, b4, rfl, _, _⟩ := own_sl (xs := []) (fun _ h => by cases h) hown4
        have kX : ((X : Int) == 0) = false := by rw [beq_eq_false_iff_ne]; omega
        have kX2 : ¬ ((X : Int) = 0) := by omega
        clear hown4 HSET HERR
        go_wp2
        go_ret
        exact ⟨rfl, hbw4⟩
end Go.Proofs.Ytjaplfdcdokhfaa
