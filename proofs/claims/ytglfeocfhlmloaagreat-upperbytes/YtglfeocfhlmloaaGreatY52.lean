/-
  A script that comes in. What the statements' proofs have in common: a slice of bytes that comes in, and how long it can be.
-/
import Derived.ProofKit
import Derived.OpenShut
import Derived.ShutString
import Derived.ChangeOld
import Derived.Deep.DeepHandedRow
import Derived.Deep.Slices
import Derived.SizedLaws
import Derived.Lib.LaidTab
import Derived.Deep.CutRange
import Derived.Laws.CopyOwn
import Derived.Shelf.SlMaps.Clone
import Derived.Deep.RegionLaw
import Derived.Deep.DrawnRows
import Derived.Laws.Tables
import Derived.Deep.Matrix
import Derived.Test.YtglfeocfhlmloaaGreatY00
import Derived.Test.YtglfeocfhlmloaaGreatY01
import Derived.Test.YtglfeocfhlmloaaGreatY02
import Derived.Test.YtglfeocfhlmloaaGreatY03
import Derived.Test.YtglfeocfhlmloaaGreatY04
import Derived.Test.YtglfeocfhlmloaaGreatY05
import Derived.Test.YtglfeocfhlmloaaGreatY06
import Derived.Test.YtglfeocfhlmloaaGreatY07
import Derived.Test.YtglfeocfhlmloaaGreatY08
import Derived.Test.YtglfeocfhlmloaaGreatY09
import Derived.Test.YtglfeocfhlmloaaGreatY10
import Derived.Test.YtglfeocfhlmloaaGreatY11
import Derived.Test.YtglfeocfhlmloaaGreatY12
import Derived.Test.YtglfeocfhlmloaaGreatY13
import Derived.Test.YtglfeocfhlmloaaGreatY14
import Derived.Test.YtglfeocfhlmloaaGreatY15
import Derived.Test.YtglfeocfhlmloaaGreatY16
import Derived.Test.YtglfeocfhlmloaaGreatY17
import Derived.Test.YtglfeocfhlmloaaGreatY18
import Derived.Test.YtglfeocfhlmloaaGreatY19
import Derived.Test.YtglfeocfhlmloaaGreatY20
import Derived.Test.YtglfeocfhlmloaaGreatY21
import Derived.Test.YtglfeocfhlmloaaGreatY22
import Derived.Test.YtglfeocfhlmloaaGreatY23
import Derived.Test.YtglfeocfhlmloaaGreatY24
import Derived.Test.YtglfeocfhlmloaaGreatY25
import Derived.Test.YtglfeocfhlmloaaGreatY26
import Derived.Test.YtglfeocfhlmloaaGreatY27
import Derived.Test.YtglfeocfhlmloaaGreatY28
import Derived.Test.YtglfeocfhlmloaaGreatY29
import Derived.Test.YtglfeocfhlmloaaGreatY30
import Derived.Test.YtglfeocfhlmloaaGreatY31
import Derived.Test.YtglfeocfhlmloaaGreatY32
import Derived.Test.YtglfeocfhlmloaaGreatY33
import Derived.Test.YtglfeocfhlmloaaGreatY34
import Derived.Test.YtglfeocfhlmloaaGreatY36
namespace Go.Proofs.YtglfeocfhlmloaaGreat.Up
open Go.ChangeShapes Go.WideShapes Go.ChangeAt Go.RowKit Go.Deep
open Vp (Str B bl Val)
theorem cells9 : Tryz.prog.cellsOf 9 = 1 := by kernel_rfl
theorem cells3 : Tryz.prog.cellsOf 3 = 1 := by kernel_rfl
theorem cells4 : Tryz.prog.cellsOf 4 = 1 := by kernel_rfl
theorem cells23 : Tryz.prog.cellsOf 44 = 1 := by kernel_rfl
theorem cells36 : Tryz.prog.cellsOf 42 = 4 := by kernel_rfl
theorem cells47 : Tryz.prog.cellsOf 46 = 6 := by kernel_rfl
theorem add_one (x : Addr) (r : Nat) : x.add (r * 1) = x.add r := by rw [Nat.mul_one]
theorem add_zero' (x : Addr) : x.add 0 = x := by cases x; simp [Addr.add]
theorem cell_lt {W : World} {a : Addr} {v : Value} (h : W.cell? a = some v) : a.block < W.heap.size := by
  by_cases hb : a.block < W.heap.size
  · exact hb
  · simp [World.cell?, Array.getElem?_eq_none (Nat.le_of_not_lt hb)] at h
/-- names that come in, in a cell -/
theorem names_cs {H : Type} {enc : TypeId × Value → H} {W : World} {fuel : Nat} {cs : List Value} {d : DataW H} {p : List MemPlace} (hf : DataW.trod enc Tryz.prog W 0 (fun _ => true) true fuel 44 cs = some (d, p)) :
    ∃ v xs, cs = [v] ∧ Val W v xs := by
  rcases open_slice Tryz.underlying44 hf with ⟨hcs, hx⟩ | ⟨x, l, c, m, n, D, Pl, hcs, _, hl, hm, hmm, hx, hr⟩
  · exact ⟨_, [], hcs, Vp.Val.none W⟩
  · simp only [if_true] at hmm
    subst hmm
    rw [cells9] at hr
    have each : ∀ r, r < l → ∃ s : ByteArray, W.cell? (x.add r) = some (.string s) := by
      intro r hlt
      obtain ⟨cs', h1, h2⟩ := hr r (by omega)
      obtain ⟨_, hlen, hcell⟩ := World.cells?_some h1
      obtain ⟨S, e2, x2, _⟩ := DataW.trod_string Tryz.underlying9 h2
      subst e2
      refine ⟨S, ?_⟩
      have := hcell 0 (by omega)
      rw [add_one, add_zero'] at this
      simpa using this
    haveI : Inhabited ByteArray := ⟨⟨#[]⟩⟩
    obtain ⟨y, hy⟩ := choose_lt each
    have hlen : ((List.range l).map fun r => bl (y r)).length = l := by simp
    refine ⟨_, (List.range l).map fun r => bl (y r), hcs, ⟨some x, m, by rw [hlen], ?_⟩⟩
    have hcap : m ≤ 9223372036854775807 := by unfold maxLen at hm; omega
    obtain ⟨b, o, hpx⟩ : ∃ b o, 0 < l → x = ⟨b, o, none⟩ := by
      by_cases h0 : 0 < l
      · have hc := hy 0 h0
        obtain ⟨b', o', sp⟩ := x
        have hspot : sp = none := by simpa [Addr.add] using World.cell?_spot hc
        subst hspot
        exact ⟨b', o', fun _ => rfl⟩
      · exact ⟨0, 0, fun h => absurd h h0⟩
    refine ⟨by rw [hlen]; exact hl, hcap, (fun e => by cases e), b, o, fun hne => ?_, fun j z hz => ?_⟩
    · have h0 : 0 < l := by
        rcases Nat.eq_zero_or_pos l with h | h
        · subst h; exact absurd rfl hne
        · exact h
      have hx0 := hpx h0
      refine ⟨by rw [hx0], ?_⟩
      have hc := hy 0 h0
      rw [hx0] at hc
      exact cell_lt hc
    · have hj : j < l := by have := (List.getElem?_eq_some_iff.1 hz).1; simpa using this
      have hc := hy j hj
      rw [hpx (by omega)] at hc
      simp [hj] at hz
      subst hz
      show _ = some (Value.string (B (bl (y j))))
      rw [Vp.B_bl]
      rw [Addr.add_mid] at hc
      exact hc
set_option maxRecDepth 100000 in
theorem step_at {H : Type} {enc : TypeId × Value → H} {W : World} {fuel : Nat} {cs : List Value} {d : DataW H} {p : List MemPlace} (hf : DataW.trod enc Tryz.prog W 0 (fun _ => true) true fuel 46 cs = some (d, p)) :
    ∃ s : Stp, cs = s.cells ∧ s.path.size ≤ 9223372036854775807 ∧ Val W s.nv s.names := by
  obtain ⟨xs, n, _, hxy, hl, hxl, hg⟩ := DataW.trod_struct Tryz.underlying46 hf
  have hxl' : xs.length = 3 := hxl
  rw [cells47] at hl
  match xs, hxl', cs, hl with
  | [y0, y1, y2], _, [v0, v1, v2, v3, v4, v5], _ =>
    have g0 := hg 0 _ rfl
    have g1 := hg 1 _ rfl
    have g2 := hg 2 _ rfl
    have g0' : DataW.trod enc Tryz.prog W 0 (fun _ => true) true n 42 [v0, v1, v2, v3] = some (y0.1, y0.2) := by
      have h := g0
      simp [cells36] at h
      exact h
    have g2' : DataW.trod enc Tryz.prog W 0 (fun _ => true) true n 44 [v5] = some (y2.1, y2.2) := by
      have h := g2
      simp [cells23] at h
      exact h
    obtain ⟨v, ns, ev, hv⟩ := names_cs g2'
    obtain ⟨D, e1, _, _⟩ := DataW.trod_bool Tryz.underlying4 g1
    obtain ⟨zs, n2, _, _, hl2, hzl, hg2⟩ := DataW.trod_struct Tryz.underlying42 g0'
    have hzl' : zs.length = 4 := hzl
    match zs, hzl' with
    | [z0, z1, z2, z3], _ =>
      have k0 := hg2 0 _ rfl
      have k1 := hg2 1 _ rfl
      have k2 := hg2 2 _ rfl
      have k3 := hg2 3 _ rfl
      obtain ⟨P, f0, _, hP⟩ := DataW.trod_string Tryz.underlying9 k0
      obtain ⟨K, f1, _, _⟩ := DataW.trod_int Tryz.underlying3 k1
      obtain ⟨Q, f2, _, _⟩ := DataW.trod_bool Tryz.underlying4 k2
      obtain ⟨X, f3, _, _⟩ := DataW.trod_string Tryz.underlying9 k3
      simp [cells3, cells4, cells9] at f0 f1 f2 f3 e1 ev
      subst f0 f1 f2 f3 e1 ev
      unfold maxLen at hP
      exact ⟨⟨P, K, Q, X, D, _, ns⟩, rfl, by simp only; omega, hv⟩
/-- a script that comes in -/
theorem steps_in {H : Type} {enc : TypeId × Value → H} {W : World} {a : Option Addr} {len cap : Nat} {d : DataW H} {p : List MemPlace} (h : DataW.Trod enc Tryz.prog W 0 (fun _ => true) true 22 (.slice a len cap) d p) :
    ∃ ss : List Stp, Stps W (.slice a len cap) ss ∧ ∀ x ∈ ss, x.path.size ≤ 9223372036854775807 := by
  obtain ⟨fuel, hf⟩ := h
  rcases open_slice Tryz.underlying22 hf with ⟨hcs, hx⟩ | ⟨x, l, c, m, n, D, Pl, hcs, _, hl, hm, hmm, hx, hr⟩
  · simp [Value.cells] at hcs
    obtain ⟨rfl, rfl, rfl⟩ := hcs
    exact ⟨[], ⟨none, 0, 0, 0, rfl, by simp, by omega, fun h => absurd rfl h, fun i f hi => by simp at hi, fun x hx => by cases hx⟩, fun f hf => by cases hf⟩
  · simp [Value.cells] at hcs
    obtain ⟨rfl, rfl, rfl⟩ := hcs
    simp only [if_true] at hmm
    subst hmm
    rw [cells47] at hr
    have each : ∀ r, r < len → ∃ f : Stp, (f.path.size ≤ 9223372036854775807 ∧ Val W f.nv f.names) ∧ ∀ (j : Nat) u, f.cells[j]? = some u → W.cell? ((x.add (r * 6)).add j) = some u := by
      intro r hlt
      obtain ⟨cs', h1, h2⟩ := hr r (by omega)
      obtain ⟨_, hlen, hcell⟩ := World.cells?_some h1
      obtain ⟨o, rfl, ho⟩ := step_at h2
      refine ⟨o, ho, fun j u hj => ?_⟩
      have hj6 : j < 6 := by have := (List.getElem?_eq_some_iff.1 hj).1; exact this
      have := hcell j hj6
      rw [this]
      exact hj
    haveI : Inhabited Stp := ⟨⟨⟨#[]⟩, 0, false, ⟨#[]⟩, false, .slice none 0 0, []⟩⟩
    obtain ⟨y, hy⟩ := choose_lt each
    have hcap : m ≤ 9223372036854775807 := by unfold maxLen at hm; omega
    obtain ⟨b, o, hpx⟩ : ∃ b o, 0 < len → x = ⟨b, o, none⟩ ∧ b < W.heap.size := by
      by_cases h0 : 0 < len
      · have hc := (hy 0 h0).2 0 _ rfl
        obtain ⟨b', o', sp⟩ := x
        have hspot : sp = none := by simpa [Addr.add] using World.cell?_spot hc
        subst hspot
        rw [Addr.add_mid, Addr.add_mid] at hc
        exact ⟨b', o', fun _ => ⟨rfl, World.block_lt_of_cell? W _ hc⟩⟩
      · exact ⟨0, 0, fun h => absurd h h0⟩
    refine ⟨(List.range len).map y, ⟨some x, m, b, o, by simp, by simpa using hl, hcap, fun h => ?_, fun j f hj => ?_, fun f hf => ?_⟩, fun f hf => ?_⟩
    · have h0 : 0 < len := by
        rcases Nat.eq_zero_or_pos len with h1 | h1
        · subst h1; exact absurd rfl h
        · exact h1
      exact ⟨by rw [(hpx h0).1], (hpx h0).2⟩
    · have hi : j < len := by have := (List.getElem?_eq_some_iff.1 hj).1; simpa using this
      simp [hi] at hj
      subst hj
      intro i u hu
      have := (hy j hi).2 i u hu
      rw [(hpx (by omega)).1, Addr.add_mid, Addr.add_mid] at this
      exact this
    · obtain ⟨r, hr2, rfl⟩ := List.mem_map.1 hf
      exact (hy r (by simpa using hr2)).1.2
    · obtain ⟨r, hr2, rfl⟩ := List.mem_map.1 hf
      exact (hy r (by simpa using hr2)).1.1
end Go.Proofs.YtglfeocfhlmloaaGreat.Up
namespace Go.Proofs.YtglfeocfhlmloaaGreat.Nd
open Go.ChangeShapes Go.WideShapes Go.ChangeAt Go.RowKit Go.Deep
/-- what is told of a slice of bytes that came in -/
def IsRow (w : World) (a : Option Addr) (len cap : Nat) (zs : List Int) : Prop :=
  (a = none ∧ len = 0 ∧ cap = 0 ∧ zs = []) ∨
  ∃ x, a = some x ∧ len ≤ cap ∧ cap ≤ maxLen ∧ zs.length = cap ∧ (∀ i, i < zs.length → w.cell? (x.add i) = some (.int .u8 (zs.getD i 0))) ∧ ∀ n ∈ zs, (Lit.int .u8 n).wf = true
theorem sl_of {w : World} {a : Option Addr} {len cap : Nat} {zs : List Int} (h : IsRow w a len cap zs) : ∃ bs b off, bs.length = len ∧ Sl w a bs cap b off := by
  rcases h with ⟨rfl, rfl, rfl, rfl⟩ | ⟨x, rfl, h1, h2, h3, h4, h5⟩
  · exact ⟨[], 0, 0, rfl, ⟨by simp, by simp, by omega, fun h => by simp at h, fun j hj => by simp at hj⟩⟩
  · have h2' : cap ≤ 9223372036854775807 := by unfold maxLen at h2; omega
    have hl : ((zs.take len).map Int.toNat).length = len := by simp; omega
    have hb : ∀ y ∈ (zs.take len).map Int.toNat, y < 256 := by
      intro y hy
      simp only [List.mem_map] at hy
      obtain ⟨n, hn, rfl⟩ := hy
      have := bounds_u8 (h5 n (List.mem_of_mem_take hn))
      omega
    by_cases hp : 0 < zs.length
    · obtain ⟨b, off, rfl, hc⟩ := ints_at h4 hp
      refine ⟨_, b, off, hl, ⟨hb, by omega, h2', fun _ => rfl, fun j hj => ?_⟩⟩
      rw [hl] at hj
      rw [hc j (by omega)]
      have hz : j < zs.length := by omega
      have hbd := bounds_u8 (h5 zs[j] (List.getElem_mem hz))
      have e : (((zs.take len).map Int.toNat).getD j 0 : Nat) = (zs.getD j 0).toNat := by
        simp [hj, hz]
      unfold u8v
      rw [e]
      simp [hz]
      omega
    · refine ⟨_, 0, 0, hl, ⟨hb, by omega, h2', fun h => by omega, fun j hj => by omega⟩⟩
theorem slice_in {H : Type} {enc : TypeId × Value → H} {W : World} {a : Option Addr} {len cap : Nat} {d : DataW H} {p : List MemPlace} (h : DataW.Trod enc Tryz.prog W 0 (fun _ => true) true 23 (.slice a len cap) d p) : ∃ bs b off, bs.length = len ∧ Sl W a bs cap b off := by
  obtain ⟨fuel, hf⟩ := h
  rcases open_ints Tryz.underlying23 Tryz.underlying5 (by kernel_rfl) hf with ⟨hcs, _⟩ | ⟨x, l, c, zs, hcs, _, hl, hm, hz, _, hcell, hwz⟩
  · simp [Value.cells] at hcs
    obtain ⟨rfl, rfl, rfl⟩ := hcs
    exact sl_of (zs := []) (.inl ⟨rfl, rfl, rfl, rfl⟩)
  · simp [Value.cells] at hcs
    obtain ⟨rfl, rfl, rfl⟩ := hcs
    exact sl_of (.inr ⟨_, rfl, hl, hm, by simpa using hz, hcell, hwz⟩)
theorem slice_in2 {H : Type} {enc : TypeId × Value → H} {W : World} {a : Option Addr} {len cap : Nat} {d : DataW H} {p : List MemPlace} (h : DataW.Trod enc Tryz.prog W 0 (fun _ => true) true 23 (.slice a len cap) d p) :
    (a = none → len = 0 ∧ cap = 0) ∧ ((d = .nil ∧ len = 0) ∨ ∃ es sp, d = .slice es sp ∧ es.length = len) := by
  obtain ⟨fuel, hf⟩ := h
  rcases open_ints Tryz.underlying23 Tryz.underlying5 (by kernel_rfl) hf with ⟨hcs, hx⟩ | ⟨x, l, c, zs, hcs, _, hl, hm, hz, hx, hcell, hwz⟩
  · simp [Value.cells] at hcs
    obtain ⟨rfl, rfl, rfl⟩ := hcs
    simp only [Prod.mk.injEq] at hx
    exact ⟨fun _ => ⟨rfl, rfl⟩, .inl ⟨hx.1, rfl⟩⟩
  · simp [Value.cells] at hcs
    obtain ⟨rfl, rfl, rfl⟩ := hcs
    simp only [Prod.mk.injEq] at hx
    refine ⟨fun h => (by cases h), .inr ⟨_, _, hx.1, ?_⟩⟩
    simp at hz
    simp [lits, hz]
    omega
end Go.Proofs.YtglfeocfhlmloaaGreat.Nd
