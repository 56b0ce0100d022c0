/-
  The walks of the reference's Show and Parse.
-/
import Derived.Test.YtngehkmdanhgpaaGreatQ00
import Derived.Test.YtngehkmdanhgpaaGreatQ01
import Derived.Test.YtngehkmdanhgpaaGreatQ02
import Derived.Test.YtngehkmdanhgpaaGreatQ03
namespace Go.Proofs.YtngehkmdanhgpaaGreat.Vp
open Go.RowKit
/-- a path's text, as the reference builds it -/
def showR (xs : List Str) : Str := if xs = [] then [47] else (xs.map (47 :: ·)).flatten
theorem showR_eq (xs : List Str) : showR xs = showS xs := by
  unfold showR showS
  cases xs with
  | nil => rfl
  | cons x r =>
    rw [if_neg (by simp), Lib.join_cons]
    simp [Lib.joinTail]
theorem val_at {w : World} {v : Value} {xs : List Str} (h : Val w v xs) : ∃ p cap b o, v = .slice p xs.length cap ∧ xs.length ≤ cap ∧ cap ≤ 9223372036854775807 ∧ (xs ≠ [] → p = some ⟨b, o, none⟩) ∧ ∀ (j : Nat) x, xs[j]? = some x → w.cell? ⟨b, o + j, none⟩ = some (.string (B x)) := by
  obtain ⟨p, cap, rfl, hr⟩ := h
  obtain ⟨b, o, h1, h2⟩ := hr.cells
  exact ⟨p, cap, b, o, rfl, hr.le, hr.big, fun hne => (h1 hne).1, h2⟩
theorem flat_snoc {xs : List Str} {i : Nat} {x : Str} (h : xs[i]? = some x) : ((xs.take (i + 1)).map (47 :: ·)).flatten = ((xs.take i).map (47 :: ·)).flatten ++ 47 :: x := by
  rw [take_snoc h]; simp
theorem flat_len (xs : List Str) : ((xs.map (47 :: ·)).flatten).length = Lib.lens xs + xs.length := by
  induction xs with
  | nil => rfl
  | cons x r ih => simp only [List.map_cons, List.flatten_cons, List.length_append, List.length_cons, Lib.lens, List.sum_cons] at ih ⊢; omega
theorem lens_take (xs : List Str) (i : Nat) : Lib.lens (xs.take i) + (xs.take i).length ≤ Lib.lens xs + xs.length := by
  have h := List.take_append_drop i xs
  have e : Lib.lens xs = Lib.lens (xs.take i) + Lib.lens (xs.drop i) := by
    unfold Lib.lens
    rw [← List.sum_append, ← List.map_append, h]
  have e2 : xs.length = (xs.take i).length + (xs.drop i).length := by
    conv => lhs; rw [← h, List.length_append]
  omega
set_option maxHeartbeats 400000 in
set_option maxRecDepth 100000 in
theorem rshow_v {xs : List Str} {u : Value} {w : World} (hx : Val w u xs) (hl : Lib.lens xs + xs.length ≤ 140737488355328) : Calls Tryz.prog 20 #[u] w fun e w' => e = .returned (.string (B (showS xs))) ∧ ∃ m, w' = w.drewN m := by
  obtain ⟨p, cap, b, o, rfl, hle, hbig, hp, hc⟩ := val_at hx
  by_cases h0 : xs = []
  · subst h0
    clear hc hp hx
    go_enter Tryz.func20, Tryz.ntmps20
    go_wp2_with fail
    go_ret
    exact ⟨rfl, 0, rfl⟩
  · obtain rfl := hp h0
    obtain ⟨R, hR⟩ : ∃ R, Hid (R = B (showS xs)) := ⟨_, rfl⟩
    rw [← hR.out]
    have H0 := hid_in h0
    have HC := hid_in hc
    have HL := hid_in hl
    have h1 : 1 ≤ xs.length := by cases xs; exact absurd rfl h0; simp
    generalize hn : xs.length = n at *
    have Hn := hid_in hn
    have hn0 : ((n : Int) == 0) = false := by rw [beq_eq_false_iff_ne]; omega
    clear hn hc hp h0 hx hl
    go_enter Tryz.func20, Tryz.ntmps20
    go_wp2_with fail
    go_loopw [3, 4] (fun vs vi w' => Hid (∃ m, w' = w.drewN m) ∧ ∃ i : Nat, i ≤ n ∧ vi = .int .i64 (i : Int) ∧ vs = .string (B ((xs.take i).map (47 :: ·)).flatten)) (fun _ vi _ => n - (intOf vi).toNat)
    case atStart => exact ⟨⟨0, rfl⟩, 0, by omega, rfl, rfl⟩
    case round =>
      obtain ⟨hm, i, hi, rfl, rfl⟩ := hrel
      by_cases hlt : i < n
      · obtain ⟨x, hxi⟩ : ∃ d, xs[i]? = some d := ⟨_, List.getElem?_eq_getElem (by rw [Hn.out]; exact hlt)⟩
        have cx : wr.cell? ⟨b, o + i, none⟩ = some (.string (B x)) := by
          obtain ⟨m, hw⟩ := hm.out
          rw [hw]
          have := HC.out i x hxi
          rw [show (w.drewN m).cell? ⟨b, o + i, none⟩ = w.cell? ⟨b, o + i, none⟩ by simp [World.cell?]]
          exact this
        have hf := flat_len (xs.take (i + 1))
        have hf2 := lens_take xs (i + 1)
        have hll := HL.out
        have hnn := Hn.out
        rw [flat_snoc hxi, List.length_append, List.length_cons] at hf
        have E1 := hid_in (append_B (((xs.take i).map (47 :: ·)).flatten) [47])
        have E2 := hid_in (append_B ((((xs.take i).map (47 :: ·)).flatten) ++ [47]) x)
        have E3 : Hid ((((xs.take i).map (47 :: ·)).flatten ++ [47]) ++ x = ((xs.take (i + 1)).map (47 :: ·)).flatten) := by show _ = _; rw [flat_snoc hxi]; simp
        generalize ((xs.take i).map (47 :: ·)).flatten = z at *
        have z1 : (B z).size = z.length := B_size z
        have z2 : (B x).size = x.length := B_size x
        have z3 : (B z ++ { data := #[47] }).size = z.length + 1 := by rw [show B z ++ ({ data := #[47] } : ByteArray) = B (z ++ [47]) from E1.out, B_size]; simp
        have n1 : ¬ 9223372036854775807 < (B z).size + 1 := by omega
        have n2 : ¬ 9223372036854775807 < (B z ++ { data := #[47] }).size + (B x).size := by omega
        have E4 : Hid ((B z ++ { data := #[47] }) ++ B x = B ((xs.take (i + 1)).map (47 :: ·)).flatten) := by
          show _ = _
          rw [show B z ++ ({ data := #[47] } : ByteArray) = B (z ++ [47]) from E1.out, E2.out, E3.out]
        generalize B x = sx at *
        clear hf hf2 hll hnn hxi z1 z2 z3 E1 E2 E3
        go_wp2_with fail
        exact ⟨⟨hm, i + 1, by omega, by go_num, by rw [E4.out]⟩, by simp [intOf]; omega⟩
      · have hin : i = n := by omega
        subst hin
        go_wp2_with fail
        go_ret
        refine ⟨congrArg (fun z => Ending.returned (Value.string z)) (Eq.trans ?_ hR.out.symm), hm.out⟩
        rw [← showR_eq, List.take_of_length_le (by rw [Hn.out]; omega)]
        unfold showR
        rw [if_neg H0.out]
end Go.Proofs.YtngehkmdanhgpaaGreat.Vp
