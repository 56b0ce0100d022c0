/-
  Files that come in, with the size of their data.
-/
import Derived.Lib.SlBytesConst
import Derived.Laws.CopyOwn
import Derived.Deep.RegionLaw
import Derived.Deep.DrawnRows
import Derived.Lib.AppendZeros
import Derived.Laws.Tables
import Derived.Test.YtngehkmdanhgpaaGreatQ00
import Derived.Test.YtngehkmdanhgpaaGreatQ01
import Derived.Test.YtngehkmdanhgpaaGreatQ02
import Derived.Test.YtngehkmdanhgpaaGreatQ03
import Derived.Test.YtngehkmdanhgpaaGreatQ04
import Derived.Test.YtngehkmdanhgpaaGreatQ05
import Derived.Test.YtngehkmdanhgpaaGreatQ06
import Derived.Test.YtngehkmdanhgpaaGreatQ07
import Derived.Test.YtngehkmdanhgpaaGreatQ08
import Derived.Test.YtngehkmdanhgpaaGreatQ09
import Derived.Test.YtngehkmdanhgpaaGreatQ50
namespace Go.Proofs.YtngehkmdanhgpaaGreat.Pl
open Go.ChangeShapes Go.WideShapes Go.ChangeAt Go.RowKit Go.Deep
open Rf (Fil Fls fcells)
set_option maxRecDepth 100000 in
theorem file_in2 {H : Type} {enc : TypeId × Value → H} {W : World} {fuel : Nat} {a : Addr} {cs : List Value} {d : DataW H} {p : List MemPlace} (hc : W.cells? 0 a 3 = some cs) (h : DataW.trod enc Tryz.prog W 0 (fun _ => true) true fuel 48 cs = some (d, p)) :
    ∃ f : Fil, W.cell? (a.add 0) = some (.string f.path) ∧ W.cell? (a.add 1) = some (.bool f.dir) ∧ W.cell? (a.add 2) = some (.string f.data) ∧ (f.path.size ≤ 9223372036854775807 ∧ f.data.size ≤ 9223372036854775807) := by
  obtain ⟨_, hlen, hcell⟩ := World.cells?_some hc
  obtain ⟨xs, k, _, hxy, _, hxl, hf⟩ := DataW.trod_struct Tryz.underlying48 h
  have hxl' : xs.length = 3 := hxl
  match xs, hxl', cs, hlen with
  | [y0, y1, y2], _, [v0, v1, v2], _ =>
    have g0 := hf 0 _ rfl
    have g1 := hf 1 _ rfl
    have g2 := hf 2 _ rfl
    obtain ⟨P, e0, x0, hs⟩ := DataW.trod_string Tryz.underlying9 g0
    obtain ⟨b, e1, x1⟩ := DataW.trod_bool Tryz.underlying4 g1
    obtain ⟨D, e2, x2, hs2⟩ := DataW.trod_string Tryz.underlying9 g2
    simp [cells9, cells4] at e0 e1 e2
    subst e0 e1 e2
    refine ⟨⟨P, b, D⟩, ?_, ?_, ?_, ?_⟩
    · simpa using hcell 0 (by omega)
    · simpa using hcell 1 (by omega)
    · simpa using hcell 2 (by omega)
    · unfold maxLen at hs hs2; exact ⟨by simp only; omega, by simp only; omega⟩
theorem files_in2 {H : Type} {enc : TypeId × Value → H} {W : World} {a : Option Addr} {len cap : Nat} {d : DataW H} {p : List MemPlace} (h : DataW.Trod enc Tryz.prog W 0 (fun _ => true) true 22 (.slice a len cap) d p) :
    ∃ fs : List Fil, Fls W (.slice a len cap) fs ∧ ∀ f ∈ fs, f.path.size ≤ 9223372036854775807 ∧ f.data.size ≤ 9223372036854775807 := by
  obtain ⟨fuel, hf⟩ := h
  rcases open_slice Tryz.underlying22 hf with ⟨hcs, hx⟩ | ⟨x, l, c, m, n, D, Pl, hcs, _, hl, hm, hmm, hx, hr⟩
  · simp [Value.cells] at hcs
    obtain ⟨rfl, rfl, rfl⟩ := hcs
    exact ⟨[], ⟨none, 0, 0, 0, rfl, by simp, by omega, fun h => absurd rfl h, fun i f hi => by simp [fcells] at hi, fun _ => ⟨rfl, rfl⟩⟩, fun f hf => by cases hf⟩
  · simp [Value.cells] at hcs
    obtain ⟨rfl, rfl, rfl⟩ := hcs
    simp only [if_true] at hmm
    subst hmm
    rw [cells48] at hr
    have each : ∀ r, r < len → ∃ f : Fil, W.cell? ((x.add (r * 3)).add 0) = some (.string f.path) ∧ W.cell? ((x.add (r * 3)).add 1) = some (.bool f.dir) ∧ W.cell? ((x.add (r * 3)).add 2) = some (.string f.data) ∧ (f.path.size ≤ 9223372036854775807 ∧ f.data.size ≤ 9223372036854775807) := by
      intro r hlt
      obtain ⟨cs', h1, h2⟩ := hr r (by omega)
      exact file_in2 h1 h2
    haveI : Inhabited Fil := ⟨⟨⟨#[]⟩, false, ⟨#[]⟩⟩⟩
    obtain ⟨y, hy⟩ := choose_lt each
    have hcap : m ≤ 9223372036854775807 := by unfold maxLen at hm; omega
    obtain ⟨b, o, hpx⟩ : ∃ b o, 0 < len → x = ⟨b, o, none⟩ ∧ b < W.heap.size := by
      by_cases h0 : 0 < len
      · have hc := (hy 0 h0).1
        obtain ⟨b', o', sp⟩ := x
        have hspot : sp = none := by simpa [Addr.add] using World.cell?_spot hc
        subst hspot
        rw [Addr.add_mid, Addr.add_mid] at hc
        exact ⟨b', o', fun _ => ⟨rfl, World.block_lt_of_cell? W _ hc⟩⟩
      · exact ⟨0, 0, fun h => absurd h h0⟩
    refine ⟨(List.range len).map y, ⟨some x, m, b, o, by simp, by simpa using hl, hcap, fun h => ?_, flat_of fun j f hj => ?_, fun e => by cases e⟩, fun f hf => ?_⟩
    · have h0 : 0 < len := by
        rcases Nat.eq_zero_or_pos len with h1 | h1
        · subst h1; exact absurd rfl h
        · exact h1
      exact ⟨by rw [(hpx h0).1], (hpx h0).2⟩
    · have hi : j < len := by have := (List.getElem?_eq_some_iff.1 hj).1; simpa using this
      simp [hi] at hj
      subst hj
      obtain ⟨h0, h1, h2, _⟩ := hy j hi
      rw [(hpx (by omega)).1, Addr.add_mid, Addr.add_mid] at h0 h1 h2
      intro i v hv
      match i with
      | 0 => simp [Fil.cells] at hv; subst hv; simpa using h0
      | 1 => simp [Fil.cells] at hv; subst hv; exact h1
      | 2 => simp [Fil.cells] at hv; subst hv; exact h2
      | i + 3 => simp [Fil.cells] at hv
    · obtain ⟨r, hr2, rfl⟩ := List.mem_map.1 hf
      exact (hy r (by simpa using hr2)).2.2.2
end Go.Proofs.YtngehkmdanhgpaaGreat.Pl
