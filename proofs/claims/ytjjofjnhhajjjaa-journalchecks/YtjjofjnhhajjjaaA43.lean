/-
  What comes in: entries, what is kept.
-/
import Derived.WalkKit
import Derived.ProofKit
import Derived.OpenShut
import Derived.ShutString
import Derived.ChangeOld
import Derived.Deep.DeepHandedRow
import Derived.SizedLaws
import Derived.Lib.LaidTab
import Derived.Deep.Matrix
import Derived.Deep.Slices
import Derived.Laws.Tables
import Derived.Laws.CopyOwn
import Derived.Deep.CutRange
import Derived.Laws.StructEq
import Derived.OwnWalk
import Derived.Deep.RegionLaw
import Derived.Deep.DrawnRows
import Derived.Lib.SlBytesConst
import Derived.Test.YtjjofjnhhajjjaaA00
import Derived.Test.YtjjofjnhhajjjaaA01
import Derived.Test.YtjjofjnhhajjjaaA02
import Derived.Test.YtjjofjnhhajjjaaA03
import Derived.Test.YtjjofjnhhajjjaaA04
import Derived.Test.YtjjofjnhhajjjaaA05
import Derived.Test.YtjjofjnhhajjjaaA06
import Derived.Test.YtjjofjnhhajjjaaA07
import Derived.Test.YtjjofjnhhajjjaaA08
import Derived.Test.YtjjofjnhhajjjaaA09
import Derived.Test.YtjjofjnhhajjjaaA10
import Derived.Test.YtjjofjnhhajjjaaA11
import Derived.Test.YtjjofjnhhajjjaaA12
import Derived.Test.YtjjofjnhhajjjaaA13
import Derived.Test.YtjjofjnhhajjjaaA14
import Derived.Test.YtjjofjnhhajjjaaA15
import Derived.Test.YtjjofjnhhajjjaaA16
import Derived.Test.YtjjofjnhhajjjaaA17
import Derived.Test.YtjjofjnhhajjjaaA18
import Derived.Test.YtjjofjnhhajjjaaA19
import Derived.Test.YtjjofjnhhajjjaaA20
import Derived.Test.YtjjofjnhhajjjaaA21
import Derived.Test.YtjjofjnhhajjjaaA22
import Derived.Test.YtjjofjnhhajjjaaA23
import Derived.Test.YtjjofjnhhajjjaaA24
import Derived.Test.YtjjofjnhhajjjaaA25
import Derived.Test.YtjjofjnhhajjjaaA26
import Derived.Test.YtjjofjnhhajjjaaA27
import Derived.Test.YtjjofjnhhajjjaaA28
import Derived.Test.YtjjofjnhhajjjaaA29
import Derived.Test.YtjjofjnhhajjjaaA30
import Derived.Test.YtjjofjnhhajjjaaA31
import Derived.Test.YtjjofjnhhajjjaaA32
import Derived.Test.YtjjofjnhhajjjaaA33
import Derived.Test.YtjjofjnhhajjjaaA34
import Derived.Test.YtjjofjnhhajjjaaA35
import Derived.Test.YtjjofjnhhajjjaaA36
import Derived.Test.YtjjofjnhhajjjaaA37
import Derived.Test.YtjjofjnhhajjjaaA38
import Derived.Test.YtjjofjnhhajjjaaA39
import Derived.Test.YtjjofjnhhajjjaaA40
import Derived.Test.YtjjofjnhhajjjaaA41
import Derived.Test.YtjjofjnhhajjjaaA42
namespace Go.Proofs.Ytjjofjnhhajjjaa.Jr
open Go.ChangeShapes Go.WideShapes Go.ChangeAt Go.RowKit Go.Deep
open Nd (i64r)
theorem cells2 : Try.prog.cellsOf 2 = 1 := by kernel_rfl
theorem cells3 : Try.prog.cellsOf 3 = 1 := by kernel_rfl
theorem cells9 : Try.prog.cellsOf 9 = 1 := by kernel_rfl
theorem cells28 : Try.prog.cellsOf 28 = 1 := by kernel_rfl
theorem cells30 : Try.prog.cellsOf 30 = 5 := by kernel_rfl
theorem cells49 : Try.prog.cellsOf 49 = 6 := by kernel_rfl
theorem cells51 : Try.prog.cellsOf 51 = 8 := by kernel_rfl
set_option maxRecDepth 100000 in
theorem op_in {H : Type} {enc : TypeId × Value → H} {W : World} {fuel : Nat} {cs : List Value} {d : DataW H} {p : List MemPlace} (hf : DataW.trod enc Try.prog W 0 (fun _ => true) true fuel 49 cs = some (d, p)) :
    ∃ o : Nd.Opn, cs = [.int .i64 o.kind, .string o.path, .string o.dest, .string o.data, .int .i64 o.at_, .int .i64 o.size] ∧ o.ok := by
  obtain ⟨xs, n, _, hxy, hl, hxl, hg⟩ := DataW.trod_struct Try.underlying49 hf
  have hxl' : xs.length = 6 := hxl
  rw [cells49] at hl
  match xs, hxl', cs, hl with
  | [y0, y1, y2, y3, y4, y5], _, [v0, v1, v2, v3, v4, v5], _ =>
    have g0 := hg 0 _ rfl
    have g1 := hg 1 _ rfl
    have g2 := hg 2 _ rfl
    have g3 := hg 3 _ rfl
    have g4 := hg 4 _ rfl
    have g5 := hg 5 _ rfl
    obtain ⟨K, e0, _, hK⟩ := DataW.trod_int Try.underlying3 g0
    obtain ⟨P, e1, _, hP⟩ := DataW.trod_string Try.underlying9 g1
    obtain ⟨T, e2, _, hT⟩ := DataW.trod_string Try.underlying9 g2
    obtain ⟨D, e3, _, hD⟩ := DataW.trod_string Try.underlying9 g3
    obtain ⟨A, e4, _, hA⟩ := DataW.trod_int Try.underlying3 g4
    obtain ⟨Z, e5, _, hZ⟩ := DataW.trod_int Try.underlying3 g5
    simp [cells3, cells9] at e0 e1 e2 e3 e4 e5
    subst e0 e1 e2 e3 e4 e5
    unfold maxLen at hP hT hD
    exact ⟨⟨K, P, T, D, A, Z⟩, rfl, ⟨bounds_i64 hK, bounds_i64 hA, bounds_i64 hZ, by show P.size ≤ _; omega, by show T.size ≤ _; omega, by show D.size ≤ _; omega⟩⟩
set_option maxRecDepth 100000 in
theorem ent_in {H : Type} {enc : TypeId × Value → H} {W : World} {fuel : Nat} {cs : List Value} {d : DataW H} {p : List MemPlace} (hf : DataW.trod enc Try.prog W 0 (fun _ => true) true fuel 51 cs = some (d, p)) :
    ∃ e : Ent, cs = e.cells ∧ e.ok := by
  obtain ⟨xs, n, _, hxy, hl, hxl, hg⟩ := DataW.trod_struct Try.underlying51 hf
  have hxl' : xs.length = 3 := hxl
  rw [cells51] at hl
  match xs, hxl', cs, hl with
  | [y0, y1, y2], _, [v0, v1, v2, v3, v4, v5, v6, v7], _ =>
    have g0 := hg 0 _ rfl
    have g1 := hg 1 _ rfl
    have g2 := hg 2 _ rfl
    obtain ⟨K, e0, _, hK⟩ := DataW.trod_int Try.underlying3 g0
    obtain ⟨P, e1, _, hP⟩ := DataW.trod_int Try.underlying2 g1
    obtain ⟨o, e2, ho⟩ := op_in g2
    simp [cells2, cells3, cells49] at e0 e1 e2
    obtain ⟨rfl, rfl, rfl, rfl, rfl, rfl⟩ := e2
    subst e0 e1
    exact ⟨⟨K, P, o⟩, rfl, ⟨bounds_i64 hK, bounds_i64 hP, ho⟩⟩
theorem ents_in {H : Type} {enc : TypeId × Value → H} {W : World} {fuel : Nat} {cs : List Value} {d : DataW H} {p : List MemPlace} (hf : DataW.trod enc Try.prog W 0 (fun _ => true) true fuel 28 cs = some (d, p)) :
    ∃ v es, cs = [v] ∧ Es W v es ∧ ∀ e ∈ es, e.ok := by
  rcases open_slice Try.underlying28 hf with ⟨hcs, hx⟩ | ⟨x, l, c, m, n, D, Pl, hcs, _, hl, hm, hmm, hx, hr⟩
  · exact ⟨_, [], hcs, Es.nil W, fun e he => by cases he⟩
  · simp only [if_true] at hmm
    subst hmm
    rw [cells51] at hr
    have each : ∀ r, r < l → ∃ e : Ent, e.ok ∧ ∀ (j : Nat) u, e.cells[j]? = some u → W.cell? ((x.add (r * 8)).add j) = some u := by
      intro r hlt
      obtain ⟨cs', h1, h2⟩ := hr r (by omega)
      obtain ⟨_, hlen, hcell⟩ := World.cells?_some h1
      obtain ⟨e, rfl, ho⟩ := ent_in h2
      refine ⟨e, ho, fun j u hj => ?_⟩
      have hj8 : j < 8 := by have := (List.getElem?_eq_some_iff.1 hj).1; exact this
      have := hcell j hj8
      rw [this]
      exact hj
    haveI : Inhabited Ent := ⟨zeroE⟩
    obtain ⟨y, hy⟩ := choose_lt each
    have hcap : m ≤ 9223372036854775807 := by unfold maxLen at hm; omega
    obtain ⟨b, o, hpx⟩ : ∃ b o, 0 < l → x = ⟨b, o, none⟩ ∧ b < W.heap.size := by
      by_cases h0 : 0 < l
      · have hc := (hy 0 h0).2 0 _ rfl
        obtain ⟨b', o', sp⟩ := x
        have hspot : sp = none := by simpa [Addr.add] using World.cell?_spot hc
        subst hspot
        rw [Addr.add_mid, Addr.add_mid] at hc
        exact ⟨b', o', fun _ => ⟨rfl, World.block_lt_of_cell? W _ hc⟩⟩
      · exact ⟨0, 0, fun h => absurd h h0⟩
    refine ⟨_, (List.range l).map y, hcs, ⟨some x, m, b, o, by simp, by simpa using hl, hcap, fun h => ?_, fun j u hj => ?_, fun h => by cases h⟩, fun e he => ?_⟩
    · have h0 : 0 < l := by
        rcases Nat.eq_zero_or_pos l with h1 | h1
        · subst h1; exact absurd rfl h
        · exact h1
      exact ⟨by rw [(hpx h0).1], (hpx h0).2⟩
    · have hjl : j < l * 8 := by
        have := (List.getElem?_eq_some_iff.1 hj).1
        rw [ecells_len] at this
        simpa using this
      have hi : j / 8 < l := by omega
      have hg : ((List.range l).map y)[j / 8]? = some (y (j / 8)) := by simp [hi]
      have h8 : (y (j / 8)).cells.length = 8 := rfl
      have hu : (y (j / 8)).cells[j % 8]? = some u := by
        have h1 := ecells_at hg (j % 8) ((y (j / 8)).cells[j % 8]'(by omega)) (List.getElem?_eq_getElem _)
        have e : j / 8 * 8 + j % 8 = j := by omega
        rw [e, hj] at h1
        rw [List.getElem?_eq_getElem (by omega)]
        exact h1.symm
      have h2 := (hy _ hi).2 _ _ hu
      rw [(hpx (by omega)).1, Addr.add_mid, Addr.add_mid] at h2
      have e : o + j / 8 * 8 + j % 8 = o + j := by omega
      rw [e] at h2
      exact h2
    · obtain ⟨r, hr2, rfl⟩ := List.mem_map.1 he
      exact (hy r (by simpa using hr2)).1
set_option maxRecDepth 100000 in
theorem kept_in {H : Type} {enc : TypeId × Value → H} {W : World} {fuel : Nat} {cs : List Value} {d : DataW H} {p : List MemPlace} (hf : DataW.trod enc Try.prog W 0 (fun _ => true) true fuel 30 cs = some (d, p)) :
    ∃ (k : Kt) (v : Value), cs = k.cells v ∧ k.ok ∧ Es W v k.ents := by
  obtain ⟨xs, n, _, hxy, hl, hxl, hg⟩ := DataW.trod_struct Try.underlying30 hf
  have hxl' : xs.length = 5 := hxl
  rw [cells30] at hl
  match xs, hxl', cs, hl with
  | [y0, y1, y2, y3, y4], _, [v0, v1, v2, v3, v4], _ =>
    have g0 := hg 0 _ rfl
    have g1 := hg 1 _ rfl
    have g2 := hg 2 _ rfl
    have g3 := hg 3 _ rfl
    have g4 := hg 4 _ rfl
    obtain ⟨A, e0, _, hA⟩ := DataW.trod_int Try.underlying2 g0
    obtain ⟨B, e1, _, hB⟩ := DataW.trod_int Try.underlying2 g1
    obtain ⟨C, e2, _, hC⟩ := DataW.trod_int Try.underlying2 g2
    obtain ⟨D, e3, _, hD⟩ := DataW.trod_string Try.underlying9 g3
    obtain ⟨v, es, e4, h1, h2⟩ := ents_in g4
    simp [cells2, cells9, cells28] at e0 e1 e2 e3 e4
    subst e0 e1 e2 e3 e4
    unfold maxLen at hD
    obtain ⟨_, cap, rfl, hc1, hc2⟩ := h1.form
    exact ⟨⟨A, B, C, D, es⟩, _, rfl, ⟨bounds_i64 hA, bounds_i64 hB, bounds_i64 hC, by show D.size ≤ _; omega, by show es.length ≤ _; omega, h2⟩, h1⟩
theorem checks_any (k : Kt) (v : Value) (w : World) (hk : k.ok) (hes : Es w v k.ents) : Calls Try.prog 4 #[k.val v] w fun e w' => e = .returned (.bool true) ∧ Below w.heap.size w w' := by
  by_cases hl : k.ents.length ≤ 1000
  · cases hm : may k with
    | true => exact checks_yes k v w hk hes hl hm
    | false => exact checks_no k v w hk hes hl hm
  · exact checks_many k v w hk hes (by omega)
end Go.Proofs.Ytjjofjnhhajjjaa.Jr
