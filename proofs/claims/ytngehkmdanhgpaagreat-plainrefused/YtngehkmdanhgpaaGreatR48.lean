/-
  Files that come in. Operations that come in.
-/
import Derived.ProofKit
import Derived.OpenShut
import Derived.ShutString
import Derived.ChangeOld
import Derived.Deep.DeepHandedRow
import Derived.Deep.Slices
import Derived.SizedLaws
import Derived.Lib.LaidTab
import Derived.Lib.SlBytesConst
import Derived.Laws.CopyOwn
import Derived.Deep.RegionLaw
import Derived.Deep.DrawnRows
import Derived.Lib.AppendZeros
import Derived.Laws.Tables
import Derived.Test.YtngehkmdanhgpaaGreatR00
import Derived.Test.YtngehkmdanhgpaaGreatR01
import Derived.Test.YtngehkmdanhgpaaGreatR02
import Derived.Test.YtngehkmdanhgpaaGreatR03
import Derived.Test.YtngehkmdanhgpaaGreatR04
import Derived.Test.YtngehkmdanhgpaaGreatR05
import Derived.Test.YtngehkmdanhgpaaGreatR06
import Derived.Test.YtngehkmdanhgpaaGreatR07
import Derived.Test.YtngehkmdanhgpaaGreatR08
import Derived.Test.YtngehkmdanhgpaaGreatR09
import Derived.Test.YtngehkmdanhgpaaGreatR10
import Derived.Test.YtngehkmdanhgpaaGreatR11
import Derived.Test.YtngehkmdanhgpaaGreatR12
import Derived.Test.YtngehkmdanhgpaaGreatR13
import Derived.Test.YtngehkmdanhgpaaGreatR14
import Derived.Test.YtngehkmdanhgpaaGreatR15
import Derived.Test.YtngehkmdanhgpaaGreatR16
import Derived.Test.YtngehkmdanhgpaaGreatR17
import Derived.Test.YtngehkmdanhgpaaGreatR18
import Derived.Test.YtngehkmdanhgpaaGreatR19
import Derived.Test.YtngehkmdanhgpaaGreatR20
import Derived.Test.YtngehkmdanhgpaaGreatR21
import Derived.Test.YtngehkmdanhgpaaGreatR22
import Derived.Test.YtngehkmdanhgpaaGreatR23
import Derived.Test.YtngehkmdanhgpaaGreatR24
import Derived.Test.YtngehkmdanhgpaaGreatR25
import Derived.Test.YtngehkmdanhgpaaGreatR26
import Derived.Test.YtngehkmdanhgpaaGreatR27
import Derived.Test.YtngehkmdanhgpaaGreatR28
import Derived.Test.YtngehkmdanhgpaaGreatR29
import Derived.Test.YtngehkmdanhgpaaGreatR30
import Derived.Test.YtngehkmdanhgpaaGreatR31
import Derived.Test.YtngehkmdanhgpaaGreatR32
import Derived.Test.YtngehkmdanhgpaaGreatR33
import Derived.Test.YtngehkmdanhgpaaGreatR34
import Derived.Test.YtngehkmdanhgpaaGreatR35
import Derived.Test.YtngehkmdanhgpaaGreatR36
import Derived.Test.YtngehkmdanhgpaaGreatR37
import Derived.Test.YtngehkmdanhgpaaGreatR38
import Derived.Test.YtngehkmdanhgpaaGreatR39
import Derived.Test.YtngehkmdanhgpaaGreatR41
import Derived.Test.YtngehkmdanhgpaaGreatR42
import Derived.Test.YtngehkmdanhgpaaGreatR45
import Derived.Test.YtngehkmdanhgpaaGreatR46
namespace Go.Proofs.YtngehkmdanhgpaaGreat.Pl
open Go.ChangeShapes Go.WideShapes Go.ChangeAt Go.RowKit Go.Deep
open Rf (Fil Fls fcells)
theorem flat_of {W : World} {b o : Nat} {fs : List Fil} (h : ∀ (i : Nat) f, fs[i]? = some f → W.rangeAt b (o + i * 3) f.cells) : ∀ j u, (fcells fs)[j]? = some u → W.cell? ⟨b, o + j, none⟩ = some u := fun j u hj => by
  have hl : j < fs.length * 3 := by rw [← Rf.fcells_len]; exact (List.getElem?_eq_some_iff.1 hj).1
  have hi : j / 3 < fs.length := by omega
  have hf := List.getElem?_eq_getElem hi
  have hr : j % 3 < (fs[j / 3]).cells.length := by show _ < 3; omega
  have h2 := Rf.fcells_at hf (j % 3) _ (List.getElem?_eq_getElem hr)
  have e : j / 3 * 3 + j % 3 = j := by omega
  rw [e, hj] at h2
  have h3 := h (j / 3) _ hf (j % 3) u (by rw [List.getElem?_eq_getElem hr, ← Option.some.inj h2])
  rwa [Nat.add_assoc, e] at h3
theorem cells9 : Tryz.prog.cellsOf 9 = 1 := by kernel_rfl
theorem cells4 : Tryz.prog.cellsOf 4 = 1 := by kernel_rfl
theorem cells48 : Tryz.prog.cellsOf 48 = 3 := by kernel_rfl
set_option maxRecDepth 100000 in
theorem file_in {H : Type} {enc : TypeId × Value → H} {W : World} {fuel : Nat} {a : Addr} {cs : List Value} {d : DataW H} {p : List MemPlace} (hc : W.cells? 0 a 3 = some cs) (h : DataW.trod enc Tryz.prog W 0 (fun _ => true) true fuel 48 cs = some (d, p)) :
    ∃ f : Fil, W.cell? (a.add 0) = some (.string f.path) ∧ W.cell? (a.add 1) = some (.bool f.dir) ∧ W.cell? (a.add 2) = some (.string f.data) ∧ f.path.size ≤ 9223372036854775807 := by
  obtain ⟨_, hlen, hcell⟩ := World.cells?_some hc
  obtain ⟨xs, k, _, hxy, _, hxl, hf⟩ := DataW.trod_struct Tryz.underlying48 h
  have hxl' : xs.length = 3 := hxl
  match xs, hxl', cs, hlen with
  | [y0, y1, y2], _, [v0, v1, v2], _ =>
    have g0 := hf 0 _ rfl
    have g1 := hf 1 _ rfl
    have g2 := hf 2 _ rfl
    obtain ⟨P, e0, x0, hs⟩ := DataW.trod_string Tryz.underlying9 g0
    obtain ⟨b, e1, x1⟩ := DataW.trod_bool Tryz.underlying4 g1
    obtain ⟨D, e2, x2, _⟩ := DataW.trod_string Tryz.underlying9 g2
    simp [cells9, cells4] at e0 e1 e2
    subst e0 e1 e2
    refine ⟨⟨P, b, D⟩, ?_, ?_, ?_, ?_⟩
    · simpa using hcell 0 (by omega)
    · simpa using hcell 1 (by omega)
    · simpa using hcell 2 (by omega)
    · unfold maxLen at hs; omega
theorem files_in {H : Type} {enc : TypeId × Value → H} {W : World} {a : Option Addr} {len cap : Nat} {d : DataW H} {p : List MemPlace} (h : DataW.Trod enc Tryz.prog W 0 (fun _ => true) true 22 (.slice a len cap) d p) :
    ∃ fs : List Fil, Fls W (.slice a len cap) fs ∧ ∀ f ∈ fs, f.path.size ≤ 9223372036854775807 := by
  obtain ⟨fuel, hf⟩ := h
  rcases open_slice Tryz.underlying22 hf with ⟨hcs, hx⟩ | ⟨x, l, c, m, n, D, Pl, hcs, _, hl, hm, hmm, hx, hr⟩
  · simp [Value.cells] at hcs
    obtain ⟨rfl, rfl, rfl⟩ := hcs
    exact ⟨[], ⟨none, 0, 0, 0, rfl, by simp, by omega, fun h => absurd rfl h, fun i f hi => by simp [fcells] at hi, fun _ => ⟨rfl, rfl⟩⟩, fun f hf => by cases hf⟩
  · simp [Value.cells] at hcs
    obtain ⟨rfl, rfl, rfl⟩ := hcs
    simp only [if_true] at hmm
    subst hmm
    rw [cells48] at hr
    have each : ∀ r, r < len → ∃ f : Fil, W.cell? ((x.add (r * 3)).add 0) = some (.string f.path) ∧ W.cell? ((x.add (r * 3)).add 1) = some (.bool f.dir) ∧ W.cell? ((x.add (r * 3)).add 2) = some (.string f.data) ∧ f.path.size ≤ 9223372036854775807 := by
      intro r hlt
      obtain ⟨cs', h1, h2⟩ := hr r (by omega)
      exact file_in h1 h2
    haveI : Inhabited Fil := ⟨⟨⟨#[]⟩, false, ⟨#[]⟩⟩⟩
    obtain ⟨y, hy⟩ := choose_lt each
    have hcap : m ≤ 9223372036854775807 := by unfold maxLen at hm; omega
    obtain ⟨b, o, hpx⟩ : ∃ b o, 0 < len → x = ⟨b, o, none⟩ ∧ b < W.heap.size := by
      by_cases h0 : 0 < len
      · have hc := (hy 0 h0).1
        obtain ⟨b', o', sp⟩ := x
        have hspot : sp = none := by simpa [Addr.add] using World.cell?_spot hc
        subst hspot
        rw [Addr.add_mid, Addr.add_mid] at hc
        exact ⟨b', o', fun _ => ⟨rfl, World.block_lt_of_cell? W _ hc⟩⟩
      · exact ⟨0, 0, fun h => absurd h h0⟩
    refine ⟨(List.range len).map y, ⟨some x, m, b, o, by simp, by simpa using hl, hcap, fun h => ?_, flat_of fun j f hj => ?_, fun e => by cases e⟩, fun f hf => ?_⟩
    · have h0 : 0 < len := by
        rcases Nat.eq_zero_or_pos len with h1 | h1
        · subst h1; exact absurd rfl h
        · exact h1
      exact ⟨by rw [(hpx h0).1], (hpx h0).2⟩
    · have hi : j < len := by have := (List.getElem?_eq_some_iff.1 hj).1; simpa using this
      simp [hi] at hj
      subst hj
      obtain ⟨h0, h1, h2, _⟩ := hy j hi
      rw [(hpx (by omega)).1, Addr.add_mid, Addr.add_mid] at h0 h1 h2
      intro i v hv
      match i with
      | 0 => simp [Fil.cells] at hv; subst hv; simpa using h0
      | 1 => simp [Fil.cells] at hv; subst hv; exact h1
      | 2 => simp [Fil.cells] at hv; subst hv; exact h2
      | i + 3 => simp [Fil.cells] at hv
    · obtain ⟨r, hr2, rfl⟩ := List.mem_map.1 hf
      exact (hy r (by simpa using hr2)).2.2.2
end Go.Proofs.YtngehkmdanhgpaaGreat.Pl
namespace Go.Proofs.YtngehkmdanhgpaaGreat.Pl
open Go.ChangeShapes Go.WideShapes Go.ChangeAt Go.RowKit Go.Deep
open Nd (Opn)
theorem cells3 : Tryz.prog.cellsOf 3 = 1 := by kernel_rfl
theorem cells40 : Tryz.prog.cellsOf 40 = 6 := by kernel_rfl
/-- its texts are no longer than texts are -/
def okO (o : Opn) : Prop := o.path.size ≤ 9223372036854775807 ∧ o.dest.size ≤ 9223372036854775807
set_option maxRecDepth 100000 in
theorem op_at {H : Type} {enc : TypeId × Value → H} {W : World} {fuel : Nat} {cs : List Value} {d : DataW H} {p : List MemPlace} (hf : DataW.trod enc Tryz.prog W 0 (fun _ => true) true fuel 40 cs = some (d, p)) :
    ∃ o : Opn, cs = o.cells ∧ okO o := by
  obtain ⟨xs, n, _, hxy, hl, hxl, hg⟩ := DataW.trod_struct Tryz.underlying40 hf
  have hxl' : xs.length = 6 := hxl
  rw [cells40] at hl
  match xs, hxl', cs, hl with
  | [y0, y1, y2, y3, y4, y5], _, [v0, v1, v2, v3, v4, v5], _ =>
    have g0 := hg 0 _ rfl
    have g1 := hg 1 _ rfl
    have g2 := hg 2 _ rfl
    have g3 := hg 3 _ rfl
    have g4 := hg 4 _ rfl
    have g5 := hg 5 _ rfl
    obtain ⟨K, e0, _, _⟩ := DataW.trod_int Tryz.underlying3 g0
    obtain ⟨P, e1, _, hP⟩ := DataW.trod_string Tryz.underlying9 g1
    obtain ⟨T, e2, _, hT⟩ := DataW.trod_string Tryz.underlying9 g2
    obtain ⟨D, e3, _, _⟩ := DataW.trod_string Tryz.underlying9 g3
    obtain ⟨A, e4, _, _⟩ := DataW.trod_int Tryz.underlying3 g4
    obtain ⟨Z, e5, _, _⟩ := DataW.trod_int Tryz.underlying3 g5
    simp [cells3, cells9] at e0 e1 e2 e3 e4 e5
    subst e0 e1 e2 e3 e4 e5
    unfold maxLen at hP hT
    exact ⟨⟨K, P, T, D, A, Z⟩, rfl, by simp only; omega, by simp only; omega⟩
theorem ops_in {H : Type} {enc : TypeId × Value → H} {W : World} {a : Option Addr} {len cap : Nat} {d : DataW H} {p : List MemPlace} (h : DataW.Trod enc Tryz.prog W 0 (fun _ => true) true 23 (.slice a len cap) d p) :
    ∃ os : List Opn, Ops W (.slice a len cap) os ∧ ∀ x ∈ os, okO x := by
  obtain ⟨fuel, hf⟩ := h
  rcases open_slice Tryz.underlying23 hf with ⟨hcs, hx⟩ | ⟨x, l, c, m, n, D, Pl, hcs, _, hl, hm, hmm, hx, hr⟩
  · simp [Value.cells] at hcs
    obtain ⟨rfl, rfl, rfl⟩ := hcs
    exact ⟨[], ⟨none, 0, 0, 0, rfl, by simp, by omega, fun h => absurd rfl h, fun i f hi => by simp at hi⟩, fun f hf => by cases hf⟩
  · simp [Value.cells] at hcs
    obtain ⟨rfl, rfl, rfl⟩ := hcs
    simp only [if_true] at hmm
    subst hmm
    rw [cells40] at hr
    have each : ∀ r, r < len → ∃ f : Opn, okO f ∧ ∀ (j : Nat) u, f.cells[j]? = some u → W.cell? ((x.add (r * 6)).add j) = some u := by
      intro r hlt
      obtain ⟨cs', h1, h2⟩ := hr r (by omega)
      obtain ⟨_, hlen, hcell⟩ := World.cells?_some h1
      obtain ⟨o, rfl, ho⟩ := op_at h2
      refine ⟨o, ho, fun j u hj => ?_⟩
      have hj6 : j < 6 := by have := (List.getElem?_eq_some_iff.1 hj).1; exact this
      have := hcell j hj6
      rw [this]
      exact hj
    haveI : Inhabited Opn := ⟨⟨0, ⟨#[]⟩, ⟨#[]⟩, ⟨#[]⟩, 0, 0⟩⟩
    obtain ⟨y, hy⟩ := choose_lt each
    have hcap : m ≤ 9223372036854775807 := by unfold maxLen at hm; omega
    obtain ⟨b, o, hpx⟩ : ∃ b o, 0 < len → x = ⟨b, o, none⟩ ∧ b < W.heap.size := by
      by_cases h0 : 0 < len
      · have hc := (hy 0 h0).2 0 _ rfl
        obtain ⟨b', o', sp⟩ := x
        have hspot : sp = none := by simpa [Addr.add] using World.cell?_spot hc
        subst hspot
        rw [Addr.add_mid, Addr.add_mid] at hc
        exact ⟨b', o', fun _ => ⟨rfl, World.block_lt_of_cell? W _ hc⟩⟩
      · exact ⟨0, 0, fun h => absurd h h0⟩
    refine ⟨(List.range len).map y, ⟨some x, m, b, o, by simp, by simpa using hl, hcap, fun h => ?_, fun j f hj => ?_⟩, fun f hf => ?_⟩
    · have h0 : 0 < len := by
        rcases Nat.eq_zero_or_pos len with h1 | h1
        · subst h1; exact absurd rfl h
        · exact h1
      exact ⟨by rw [(hpx h0).1], (hpx h0).2⟩
    · have hi : j < len := by have := (List.getElem?_eq_some_iff.1 hj).1; simpa using this
      simp [hi] at hj
      subst hj
      intro i u hu
      have := (hy j hi).2 i u hu
      rw [(hpx (by omega)).1, Addr.add_mid, Addr.add_mid] at this
      exact this
    · obtain ⟨r, hr2, rfl⟩ := List.mem_map.1 hf
      exact (hy r (by simpa using hr2)).1
end Go.Proofs.YtngehkmdanhgpaaGreat.Pl
