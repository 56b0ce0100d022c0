/-
  One piece more: the walk of step.
-/
import Derived.Test.YtodfdinocnhaoaaA3
namespace Go.Proofs.Ytodfdinocnhaoaa
open Go.RowKit Go.Shelf

def sv (x : Str) : Value := .string (B x)
/-- the names behind one more piece -/
def stepS (xs : List Str) (p : Str) : List Str := if p = [] ∨ p = [46] then xs else if p = [46, 46] then xs.dropLast else xs ++ [p]

/-- a slice of the call's own that holds these names -/
abbrev Nms (W : World) (base : Nat) (v : Value) (xs : List Str) : Prop := W.ownsRow base 9 1 v xs.length (xs.map sv)

def s0 (p : Str) : ByteArray := B p
theorem info9 : (Try.prog.info? 9).map (fun i => (i.zero, i.size, i.bytes)) = some (some (.string ByteArray.empty), 1, 16) := by kernel_rfl

theorem grown_tmp {W w1 : World} {o : Obj} {row : Option Nat} (h : (W.alloc o).grownBy w1 row) : W.grownBy w1 row :=
  ⟨h.os, h.tape, h.output, Nat.le_trans (by simp) h.size, fun k hk hne => (h.block k (by simp; omega) hne).trans (Below.heap_alloc W o k hk)⟩

theorem Nms.back {W : World} {base : Nat} {g k cap : Nat} {xs : List Str} (h : Nms W base (.slice (some ⟨g, 0, none⟩) (k + 1) cap) xs) (hk : xs.length = k + 1) : Nms W base (.slice (some ⟨g, 0, none⟩) k cap) xs.dropLast := by
  have hl : xs.dropLast.length = k := by simp [hk]
  unfold Nms at *
  rw [hl]
  refine ⟨by simp [hk], ?_⟩
  rcases h.2 with ⟨h0, _⟩ | ⟨g', cap', cur, h0, hb, hg, hn, hm, hs, ht⟩
  · cases h0
  · simp only [Value.slice.injEq, Option.some.injEq, Addr.mk.injEq] at h0
    obtain ⟨⟨e1, _, _⟩, _, e2⟩ := h0
    subst e1 e2
    refine .inr ⟨g, cap, cur, rfl, hb, hg, by omega, hm, hs, ?_⟩
    have e : (xs.map sv).take k = xs.dropLast.map sv := by rw [List.dropLast_eq_take, hk, List.map_take]; rfl
    rw [← e, ← ht, hk, List.take_take]
    congr 1
    omega

set_option maxHeartbeats 1000000 in
set_option maxRecDepth 100000 in
theorem step_any (base : Nat) (v : Value) (xs : List Str) (p : Str) (W : World) (hrow : Nms W base v xs) (hlen : xs.length ≤ 100000) (hbase : base ≤ W.heap.size) :
    Calls Try.prog 25 #[v, .string (B p)] W fun e W' => ∃ v', e = .returned v' ∧ Nms W' base v' (stepS xs p) ∧ W.grownBy W' v.ownBlock := by
  have hT := toL p
  by_cases h1 : p = [] ∨ p = [46]
  · have hs : stepS xs p = xs := by unfold stepS; rw [if_pos h1]
    rw [hs]
    have HR := hid_in hrow
    clear hrow hs
    generalize B p = s at hT ⊢
    rcases h1 with rfl | rfl
    · go_enter Try.func25, Try.ntmps25
      go_wp2_with fail
      all_goals
        go_ret
        exact ⟨v, rfl, HR.out, ⟨rfl, rfl, rfl, Nat.le_refl _, fun _ _ _ => rfl⟩⟩
    · go_enter Try.func25, Try.ntmps25
      go_wp2_with fail
      all_goals
        go_ret
        exact ⟨v, rfl, HR.out, ⟨rfl, rfl, rfl, Nat.le_refl _, fun _ _ _ => rfl⟩⟩
  · by_cases h2 : p = [46, 46]
    · have hs : stepS xs p = xs.dropLast := by unfold stepS; rw [if_neg h1, if_pos h2]
      rw [hs]
      clear h1 hs
      subst h2
      generalize B [46, 46] = s at hT ⊢
      rcases hrow.2 with ⟨rfl, h0⟩ | ⟨g, cap, cur, rfl, hb, hg, hn, hm, hcs, ht⟩
      · have hx : xs = [] := List.eq_nil_of_length_eq_zero h0
        subst hx
        clear hrow h0
        go_enter Try.func25, Try.ntmps25
        go_wp2_with fail
        all_goals
          go_ret
          exact ⟨_, rfl, World.ownsRow_nil _ _ _ _, ⟨rfl, rfl, rfl, Nat.le_refl _, fun _ _ _ => rfl⟩⟩
      · cases hk : xs.length with
        | zero =>
          have hx : xs = [] := List.eq_nil_of_length_eq_zero hk
          subst hx
          have HR := hid_in hrow
          have hcap : cap ≤ 9223372036854775807 := by unfold maxLen at hm; omega
          clear hrow hg ht hcs hk
          go_enter Try.func25, Try.ntmps25
          go_wp2_with fail
          all_goals
            go_ret
            exact ⟨_, rfl, HR.out, ⟨rfl, rfl, rfl, Nat.le_refl _, fun _ _ _ => rfl⟩⟩
        | succ k =>
          rw [hk] at hn hlen
          have HR := hid_in (Nms.back (k := k) (show Nms W base (.slice (some ⟨g, 0, none⟩) (k + 1) cap) xs by rw [← hk]; exact hrow) hk)
          have hcap : cap ≤ 9223372036854775807 := by unfold maxLen at hm; omega
          have c1 : (k : Int) ≤ cap := by omega
          have hmax : max (k : Int) 0 = k := by omega
          clear hrow hg ht hcs hk
          go_enter Try.func25, Try.ntmps25
          go_wp2_with fail
          all_goals
            go_ret
            exact ⟨_, rfl, HR.out, ⟨rfl, rfl, rfl, Nat.le_refl _, fun _ _ _ => rfl⟩⟩
    · have hs : stepS xs p = xs ++ [p] := by unfold stepS; rw [if_neg h1, if_neg h2]
      rw [hs]
      obtain ⟨i0, hi, hz0, hz1, hz2⟩ := info_parts info9
      have e0 : (s0 p).toList.isEmpty = false := by rw [s0, toL]; cases p <;> simp_all
      have e1 : ((s0 p).toList == [46]) = false := by rw [s0, toL, beq_eq_false_iff_ne]; exact fun e => h1 (.inr e)
      have e2 : ((s0 p).toList == [46, 46]) = false := by rw [s0, toL, beq_eq_false_iff_ne]; exact h2
      have e3 : ((s0 p).toList = [46]) = False := by rw [s0, toL]; simp only [eq_iff_iff, iff_false]; exact fun e => h1 (.inr e)
      have e4 : ((s0 p).toList = [46, 46]) = False := by rw [s0, toL]; simp only [eq_iff_iff, iff_false]; exact h2
      have e5 : ((s0 p).toList = []) = False := by rw [s0, toL]; simp only [eq_iff_iff, iff_false]; exact fun e => h1 (.inl e)
      have HS : Hid ((xs ++ [p]).map sv = xs.map sv ++ [.string (s0 p)] ∧ (xs ++ [p]).length = xs.length + 1) := ⟨by simp [sv, s0], by simp⟩
      have hml : xs.length + 1 ≤ maxLen := by unfold maxLen; omega
      have hrow2 : W.ownsRow base 9 1 v xs.length (xs.map sv) := hrow
      obtain ⟨k, hk⟩ : ∃ k, Hid (k = xs.length) := ⟨_, rfl⟩
      rw [← hk.out] at hrow2 hlen hml
      obtain ⟨us, hus⟩ : ∃ us, Hid (us = xs.map sv) := ⟨_, rfl⟩
      rw [← hus.out] at hrow2
      have HR := hid_in hrow2
      clear hT h1 h2 hs hrow hrow2
      show Calls Try.prog 25 #[v, .string (s0 p)] W fun e W' => ∃ v', e = .returned v' ∧ Nms W' base v' (xs ++ [p]) ∧ W.grownBy W' v.ownBlock
      generalize s0 p = s at e0 e1 e2 e3 e4 e5 HS ⊢
      go_enter Try.func25, Try.ntmps25
      go_wp2_with (first | (at_builtin; refine wpList_append_own _ rfl _ _ 23 rfl base 9 i0 (.string ByteArray.empty) 1 16 Try.underlying23 hi hz0 hz1 hz2 rfl (by decide) v k us rfl (HR.out.alloc _) ⟨W.heap.size, 0, none⟩ 1 1 [.string s] rfl rfl (cell_one_new _ _ _) (by simp [Value.oneCell']) hml (by omega) (by simp; omega) ?_; intro v' w1 hown' hgrow _; have HO := hid_in hown'; have HG := hid_in hgrow; clear hown' hgrow))
      go_ret
      refine ⟨_, rfl, ?_, grown_tmp HG.out⟩
      unfold Nms
      rw [HS.out.1, HS.out.2, ← hk.out, ← hus.out]
      exact HO.out
end Go.Proofs.Ytodfdinocnhaoaa
