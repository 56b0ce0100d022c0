/-
  A script that comes in.
-/
import Derived.ProofKit
import Derived.OpenShut
import Derived.ShutString
import Derived.ChangeOld
import Derived.Deep.DeepHandedRow
import Derived.Deep.Slices
import Derived.SizedLaws
import Derived.Lib.LaidTab
import Derived.Laws.Tables
import Derived.Laws.CopyOwn
import Derived.Deep.RegionLaw
import Derived.Deep.DrawnRows
import Derived.Lib.AppendZeros
import Derived.OwnWalk
import Derived.Laws.StructEq
import Derived.Test.YtiijlnlkhpneaaaD00
import Derived.Test.YtiijlnlkhpneaaaD01
import Derived.Test.YtiijlnlkhpneaaaD02
import Derived.Test.YtiijlnlkhpneaaaD03
import Derived.Test.YtiijlnlkhpneaaaD04
import Derived.Test.YtiijlnlkhpneaaaD05
namespace Go.Proofs.Ytiijlnlkhpneaaa.Se
open Go.ChangeShapes Go.WideShapes Go.ChangeAt Go.RowKit Go.Deep
theorem cells9 : Try.prog.cellsOf 9 = 1 := by kernel_rfl
theorem cells3 : Try.prog.cellsOf 3 = 1 := by kernel_rfl
theorem cells4 : Try.prog.cellsOf 4 = 1 := by kernel_rfl
theorem cells2 : Try.prog.cellsOf 2 = 1 := by kernel_rfl
theorem cells44 : Try.prog.cellsOf 44 = 5 := by kernel_rfl
set_option maxRecDepth 100000 in
theorem act_at {H : Type} {enc : TypeId × Value → H} {W : World} {fuel : Nat} {cs : List Value} {d : DataW H} {p : List MemPlace} (hf : DataW.trod enc Try.prog W 0 (fun _ => true) true fuel 44 cs = some (d, p)) :
    ∃ s : Act1, cs = s.cells ∧ s.reply.size ≤ 9223372036854775807 := by
  obtain ⟨zs, n2, _, _, hl2, hzl, hg2⟩ := DataW.trod_struct Try.underlying44 hf
  have hzl' : zs.length = 5 := hzl
  rw [cells44] at hl2
  match zs, hzl', cs, hl2 with
  | [z0, z1, z2, z3, z4], _, [v0, v1, v2, v3, v4], _ =>
    have k0 := hg2 0 _ rfl
    have k1 := hg2 1 _ rfl
    have k2 := hg2 2 _ rfl
    have k3 := hg2 3 _ rfl
    have k4 := hg2 4 _ rfl
    obtain ⟨Q, f0, _, _⟩ := DataW.trod_bool Try.underlying4 k0
    obtain ⟨K1, f1, _, _⟩ := DataW.trod_int Try.underlying3 k1
    obtain ⟨K2, f2, _, _⟩ := DataW.trod_int Try.underlying2 k2
    obtain ⟨K3, f3, _, _⟩ := DataW.trod_int Try.underlying2 k3
    obtain ⟨X, f4, _, hX⟩ := DataW.trod_string Try.underlying9 k4
    simp [cells3, cells4, cells9, cells2] at f0 f1 f2 f3 f4
    subst f0 f1 f2 f3 f4
    unfold maxLen at hX
    exact ⟨⟨Q, K1, K2, K3, X⟩, rfl, by simp only; omega⟩
/-- a script that comes in -/
theorem acts_in {H : Type} {enc : TypeId × Value → H} {W : World} {a : Option Addr} {len cap : Nat} {d : DataW H} {p : List MemPlace} (h : DataW.Trod enc Try.prog W 0 (fun _ => true) true 22 (.slice a len cap) d p) :
    ∃ ss : List Act1, Acts W (.slice a len cap) ss ∧ ∀ x ∈ ss, x.reply.size ≤ 9223372036854775807 := by
  obtain ⟨fuel, hf⟩ := h
  rcases open_slice Try.underlying22 hf with ⟨hcs, hx⟩ | ⟨x, l, c, m, n, D, Pl, hcs, _, hl, hm, hmm, hx, hr⟩
  · simp [Value.cells] at hcs
    obtain ⟨rfl, rfl, rfl⟩ := hcs
    exact ⟨[], ⟨none, 0, 0, 0, rfl, by simp, by omega, fun h => absurd rfl h, fun i f hi => by simp at hi⟩, fun f hf => by cases hf⟩
  · simp [Value.cells] at hcs
    obtain ⟨rfl, rfl, rfl⟩ := hcs
    simp only [if_true] at hmm
    subst hmm
    rw [cells44] at hr
    have each : ∀ r, r < len → ∃ f : Act1, f.reply.size ≤ 9223372036854775807 ∧ ∀ (j : Nat) u, f.cells[j]? = some u → W.cell? ((x.add (r * 5)).add j) = some u := by
      intro r hlt
      obtain ⟨cs', h1, h2⟩ := hr r (by omega)
      obtain ⟨_, hlen, hcell⟩ := World.cells?_some h1
      obtain ⟨o, rfl, ho⟩ := act_at h2
      refine ⟨o, ho, fun j u hj => ?_⟩
      have hj5 : j < 5 := by have := (List.getElem?_eq_some_iff.1 hj).1; exact this
      have := hcell j hj5
      rw [this]
      exact hj
    haveI : Inhabited Act1 := ⟨⟨false, 0, 0, 0, ⟨#[]⟩⟩⟩
    obtain ⟨y, hy⟩ := choose_lt each
    have hcap : m ≤ 9223372036854775807 := by unfold maxLen at hm; omega
    obtain ⟨b, o, hpx⟩ : ∃ b o, 0 < len → x = ⟨b, o, none⟩ ∧ b < W.heap.size := by
      by_cases h0 : 0 < len
      · have hc := (hy 0 h0).2 0 _ rfl
        obtain ⟨b', o', sp⟩ := x
        have hspot : sp = none := by simpa [Addr.add] using World.cell?_spot hc
        subst hspot
        rw [Addr.add_mid, Addr.add_mid] at hc
        exact ⟨b', o', fun _ => ⟨rfl, World.block_lt_of_cell? W _ hc⟩⟩
      · exact ⟨0, 0, fun h => absurd h h0⟩
    refine ⟨(List.range len).map y, ⟨some x, m, b, o, by simp, by simpa using hl, hcap, fun h => ?_, fun j f hj => ?_⟩, fun f hf => ?_⟩
    · have h0 : 0 < len := by
        rcases Nat.eq_zero_or_pos len with h1 | h1
        · subst h1; exact absurd rfl h
        · exact h1
      exact ⟨by rw [(hpx h0).1], (hpx h0).2⟩
    · have hi : j < len := by have := (List.getElem?_eq_some_iff.1 hj).1; simpa using this
      simp [hi] at hj
      subst hj
      intro i u hu
      have := (hy j hi).2 i u hu
      rw [(hpx (by omega)).1, Addr.add_mid, Addr.add_mid] at this
      exact this
    · obtain ⟨r, hr2, rfl⟩ := List.mem_map.1 hf
      exact (hy r (by simpa using hr2)).1
end Go.Proofs.Ytiijlnlkhpneaaa.Se
