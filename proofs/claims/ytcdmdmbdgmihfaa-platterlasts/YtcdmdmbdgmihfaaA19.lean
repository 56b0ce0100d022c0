/-
  Slices of bytes, truth values that come in.
-/
import Derived.Test.YtcdmdmbdgmihfaaA00
import Derived.Test.YtcdmdmbdgmihfaaA01
import Derived.Test.YtcdmdmbdgmihfaaA02
import Derived.Test.YtcdmdmbdgmihfaaA03
import Derived.Test.YtcdmdmbdgmihfaaA04
import Derived.Test.YtcdmdmbdgmihfaaA05
import Derived.Test.YtcdmdmbdgmihfaaA06
import Derived.Test.YtcdmdmbdgmihfaaA07
import Derived.Test.YtcdmdmbdgmihfaaA08
import Derived.Test.YtcdmdmbdgmihfaaA09
import Derived.Test.YtcdmdmbdgmihfaaA10
import Derived.Test.YtcdmdmbdgmihfaaA11
import Derived.Test.YtcdmdmbdgmihfaaA14
import Derived.Test.YtcdmdmbdgmihfaaA15
import Derived.Test.YtcdmdmbdgmihfaaA17
namespace Go.Proofs.Ytcdmdmbdgmihfaa.Pt
open Go.ChangeShapes Go.WideShapes Go.ChangeAt Go.RowKit Go.Deep
open Nd (Sl u8v)
theorem pieces_in {H : Type} {enc : TypeId × Value → H} {W : World} {a : Option Addr} {len cap : Nat} {d : DataW H} {p : List MemPlace} (h : DataW.Trod enc Try.prog W 0 (fun _ => true) true 42 (.slice a len cap) d p) : ∃ ps, Pcs W (.slice a len cap) ps := by
  obtain ⟨fuel, hf⟩ := h
  rcases open_slice Try.underlying42 hf with ⟨hcs, hx⟩ | ⟨x, l, c, m, n, D, Pl, hcs, _, hl, hm, hmm, hx, hr⟩
  · simp [Value.cells] at hcs
    obtain ⟨rfl, rfl, rfl⟩ := hcs
    exact ⟨[], none, 0, 0, 0, rfl, by simp, fun h => absurd rfl h, fun i s h => by simp at h⟩
  · simp [Value.cells] at hcs
    obtain ⟨rfl, rfl, rfl⟩ := hcs
    simp only [if_true] at hmm
    subst hmm
    rw [cells34] at hr
    have each : ∀ r, r < len → ∃ y : Option Addr × List Nat × Nat × Nat × Nat, W.cell? (x.add r) = some (.slice y.1 y.2.1.length y.2.2.1) ∧ Sl W y.1 y.2.1 y.2.2.1 y.2.2.2.1 y.2.2.2.2 ∧ (y.1 = none → y.2.1.length = 0 ∧ y.2.2.1 = 0) := by
      intro r hlt
      obtain ⟨cs', h1, h2⟩ := hr r (by omega)
      obtain ⟨_, hlen, hcell⟩ := World.cells?_some h1
      obtain ⟨a', xs, cap', b, off, e2, hsl, hno, -⟩ := bytes_in h2
      subst e2
      refine ⟨(a', xs, cap', b, off), ?_, hsl, hno⟩
      have := hcell 0 (by omega)
      rw [Nat.mul_one, add_zero'] at this
      simpa using this
    haveI : Inhabited (Option Addr × List Nat × Nat × Nat × Nat) := ⟨(none, [], 0, 0, 0)⟩
    obtain ⟨y, hy⟩ := choose_lt each
    obtain ⟨b, o, hpx⟩ := none_of_cell (W := W) (x := x) (len := len) (fun h0 => ⟨_, by have := (hy 0 h0).1; rwa [add_zero'] at this⟩)
    have hcap : m ≤ 9223372036854775807 := by unfold maxLen at hm; omega
    refine ⟨(List.range len).map (fun i => (y i).2.1), some x, m, b, o, by simp, by simp; omega, fun hne => ?_, fun i s hi => ?_⟩
    · have h0 : 0 < len := by
        rcases Nat.eq_zero_or_pos len with h | h
        · subst h; exact absurd rfl hne
        · exact h
      have hc := (hy 0 h0).1
      rw [add_zero', hpx h0] at hc
      exact ⟨by rw [hpx h0], World.block_lt_of_cell? W _ hc⟩
    · have hlt : i < len := by have := (List.getElem?_eq_some_iff.1 hi).1; simpa using this
      simp [hlt] at hi
      subst hi
      obtain ⟨hc, hs, hn⟩ := hy i hlt
      rw [hpx (by omega), Addr.add_mid] at hc
      exact ⟨_, _, _, _, hc, hs, hn⟩
theorem bools_in {H : Type} {enc : TypeId × Value → H} {W : World} {a : Option Addr} {len cap : Nat} {d : DataW H} {p : List MemPlace} (h : DataW.Trod enc Try.prog W 0 (fun _ => true) true 43 (.slice a len cap) d p) : ∃ bs, Bls W (.slice a len cap) bs := by
  obtain ⟨fuel, hf⟩ := h
  rcases open_slice Try.underlying43 hf with ⟨hcs, hx⟩ | ⟨x, l, c, m, n, D, Pl, hcs, _, hl, hm, hmm, hx, hr⟩
  · simp [Value.cells] at hcs
    obtain ⟨rfl, rfl, rfl⟩ := hcs
    exact ⟨[], none, 0, 0, 0, rfl, by simp, fun h => absurd rfl h, fun i s h => by simp at h⟩
  · simp [Value.cells] at hcs
    obtain ⟨rfl, rfl, rfl⟩ := hcs
    simp only [if_true] at hmm
    subst hmm
    rw [cells4] at hr
    have each : ∀ r, r < len → ∃ k : Bool, W.cell? (x.add r) = some (.bool k) := by
      intro r hlt
      obtain ⟨cs', h1, h2⟩ := hr r (by omega)
      obtain ⟨_, hlen, hcell⟩ := World.cells?_some h1
      obtain ⟨k, e2, _h4⟩ := DataW.trod_bool Try.underlying4 h2
      subst e2
      refine ⟨k, ?_⟩
      have := hcell 0 (by omega)
      rw [Nat.mul_one, add_zero'] at this
      simpa using this
    obtain ⟨y, hy⟩ := choose_lt each
    obtain ⟨b, o, hpx⟩ := none_of_cell (W := W) (x := x) (len := len) (fun h0 => ⟨_, by have := hy 0 h0; rwa [add_zero'] at this⟩)
    have hcap : m ≤ 9223372036854775807 := by unfold maxLen at hm; omega
    refine ⟨(List.range len).map y, some x, m, b, o, by simp, by simp; omega, fun hne => ?_, fun i s hi => ?_⟩
    · have h0 : 0 < len := by
        rcases Nat.eq_zero_or_pos len with h | h
        · subst h; exact absurd rfl hne
        · exact h
      have hc := hy 0 h0
      rw [add_zero', hpx h0] at hc
      exact ⟨by rw [hpx h0], World.block_lt_of_cell? W _ hc⟩
    · have hlt : i < len := by have := (List.getElem?_eq_some_iff.1 hi).1; simpa using this
      simp [hlt] at hi
      subst hi
      have hc := hy i hlt
      rw [hpx (by omega), Addr.add_mid] at hc
      exact hc
end Go.Proofs.Ytcdmdmbdgmihfaa.Pt
