/-
  JournalChecks, by cases. What comes in: entries, what is kept. Acts that come in.
-/
import Derived.OwnWalk
import Derived.Deep.RegionLaw
import Derived.Deep.DrawnRows
import Derived.Laws.StructEq
import Derived.Laws.Tables
import Derived.Laws.CopyOwn
import Derived.Deep.CutRange
import Derived.Lib.SlBytesConst
import Derived.WalkKit
import Derived.ProofKit
import Derived.OpenShut
import Derived.ShutString
import Derived.ChangeOld
import Derived.Deep.DeepHandedRow
import Derived.SizedLaws
import Derived.Lib.LaidTab
import Derived.Deep.Matrix
import Derived.Deep.Slices
import Derived.Test.YtjjofjnhhajjjaaB00
import Derived.Test.YtjjofjnhhajjjaaB01
import Derived.Test.YtjjofjnhhajjjaaB02
import Derived.Test.YtjjofjnhhajjjaaB03
import Derived.Test.YtjjofjnhhajjjaaB04
import Derived.Test.YtjjofjnhhajjjaaB05
import Derived.Test.YtjjofjnhhajjjaaB06
import Derived.Test.YtjjofjnhhajjjaaB07
import Derived.Test.YtjjofjnhhajjjaaB08
import Derived.Test.YtjjofjnhhajjjaaB09
import Derived.Test.YtjjofjnhhajjjaaB10
import Derived.Test.YtjjofjnhhajjjaaB11
import Derived.Test.YtjjofjnhhajjjaaB12
import Derived.Test.YtjjofjnhhajjjaaB13
import Derived.Test.YtjjofjnhhajjjaaB14
import Derived.Test.YtjjofjnhhajjjaaB15
import Derived.Test.YtjjofjnhhajjjaaB16
import Derived.Test.YtjjofjnhhajjjaaB17
import Derived.Test.YtjjofjnhhajjjaaB18
import Derived.Test.YtjjofjnhhajjjaaB19
import Derived.Test.YtjjofjnhhajjjaaB20
import Derived.Test.YtjjofjnhhajjjaaB21
import Derived.Test.YtjjofjnhhajjjaaB22
import Derived.Test.YtjjofjnhhajjjaaB23
import Derived.Test.YtjjofjnhhajjjaaB24
import Derived.Test.YtjjofjnhhajjjaaB25
import Derived.Test.YtjjofjnhhajjjaaB26
import Derived.Test.YtjjofjnhhajjjaaB27
import Derived.Test.YtjjofjnhhajjjaaB28
import Derived.Test.YtjjofjnhhajjjaaB29
import Derived.Test.YtjjofjnhhajjjaaB30
import Derived.Test.YtjjofjnhhajjjaaB31
import Derived.Test.YtjjofjnhhajjjaaB32
import Derived.Test.YtjjofjnhhajjjaaB33
import Derived.Test.YtjjofjnhhajjjaaB34
import Derived.Test.YtjjofjnhhajjjaaB35
import Derived.Test.YtjjofjnhhajjjaaB36
import Derived.Test.YtjjofjnhhajjjaaB37
import Derived.Test.YtjjofjnhhajjjaaB38
import Derived.Test.YtjjofjnhhajjjaaB39
import Derived.Test.YtjjofjnhhajjjaaB40
namespace Go.Proofs.Ytjjofjnhhajjjaa.Jr
open Go.RowKit
open Nd (Row wp_world post_Row grownBy_setCell grownBy_trans below_of_grown u8v Grew Sl hid_in i64r bytesS str)
open Pt (Ar Dk PtV FS Sub Stp liv arOf bytesOf)
theorem OpR.pt {w w' : World} {B g : Nat} {v0 v1 : Value} {d : Dk} {kv kn kb : Int} {ks : ByteArray} {ke : List Ent} {e : Ending} (hp : PtV w B g v0 v1 d) (h : OpR w B g v0 v1 d ⟨kv, kn, kb, ks, ke⟩ e w') : ∃ j ve p c u0 u1, e = .returned (.tuple #[.pointer (some ⟨j, 0, none⟩), .agg #[.int .i64 kv, .int .i64 kn, .int .i64 kb, .string ks, .slice p ke.length c], .int .i64 0]) ∧ JV w' B j g u0 u1 d ve ⟨kv, kn, kb, ks, ke⟩ ∧ Es w' (.slice p ke.length c) ke ∧ Below B w w' := by
  obtain ⟨j, ve, p, c, u0, u1, h1, h2, h3, _, h5, _⟩ := OpR.form h
  exact ⟨j, ve, p, c, u0, u1, h1, h2, h3.val, h5.below (Below.refl _ _) (Nat.le_trans hp.base (Nat.le_of_lt hp.lt)) (fun b hb => (hp.fs_lt b hb).1)⟩
end Go.Proofs.Ytjjofjnhhajjjaa.Jr
namespace Go.Proofs.Ytjjofjnhhajjjaa.Jr
open Go.ChangeShapes Go.WideShapes Go.ChangeAt Go.RowKit Go.Deep
open Nd (i64r)
theorem cells2 : Try.prog.cellsOf 2 = 1 := by kernel_rfl
theorem cells3 : Try.prog.cellsOf 3 = 1 := by kernel_rfl
theorem cells9 : Try.prog.cellsOf 9 = 1 := by kernel_rfl
theorem cells28 : Try.prog.cellsOf 28 = 1 := by kernel_rfl
theorem cells30 : Try.prog.cellsOf 30 = 5 := by kernel_rfl
theorem cells49 : Try.prog.cellsOf 49 = 6 := by kernel_rfl
theorem cells51 : Try.prog.cellsOf 51 = 8 := by kernel_rfl
set_option maxRecDepth 100000 in
theorem op_in {H : Type} {enc : TypeId × Value → H} {W : World} {fuel : Nat} {cs : List Value} {d : DataW H} {p : List MemPlace} (hf : DataW.trod enc Try.prog W 0 (fun _ => true) true fuel 49 cs = some (d, p)) :
    ∃ o : Nd.Opn, cs = [.int .i64 o.kind, .string o.path, .string o.dest, .string o.data, .int .i64 o.at_, .int .i64 o.size] ∧ o.ok := by
  obtain ⟨xs, n, _, hxy, hl, hxl, hg⟩ := DataW.trod_struct Try.underlying49 hf
  have hxl' : xs.length = 6 := hxl
  rw [cells49] at hl
  match xs, hxl', cs, hl with
  | [y0, y1, y2, y3, y4, y5], _, [v0, v1, v2, v3, v4, v5], _ =>
    have g0 := hg 0 _ rfl
    have g1 := hg 1 _ rfl
    have g2 := hg 2 _ rfl
    have g3 := hg 3 _ rfl
    have g4 := hg 4 _ rfl
    have g5 := hg 5 _ rfl
    obtain ⟨K, e0, _, hK⟩ := DataW.trod_int Try.underlying3 g0
    obtain ⟨P, e1, _, hP⟩ := DataW.trod_string Try.underlying9 g1
    obtain ⟨T, e2, _, hT⟩ := DataW.trod_string Try.underlying9 g2
    obtain ⟨D, e3, _, hD⟩ := DataW.trod_string Try.underlying9 g3
    obtain ⟨A, e4, _, hA⟩ := DataW.trod_int Try.underlying3 g4
    obtain ⟨Z, e5, _, hZ⟩ := DataW.trod_int Try.underlying3 g5
    simp [cells3, cells9] at e0 e1 e2 e3 e4 e5
    subst e0 e1 e2 e3 e4 e5
    unfold maxLen at hP hT hD
    exact ⟨⟨K, P, T, D, A, Z⟩, rfl, ⟨bounds_i64 hK, bounds_i64 hA, bounds_i64 hZ, by show P.size ≤ _; omega, by show T.size ≤ _; omega, by show D.size ≤ _; omega⟩⟩
set_option maxRecDepth 100000 in
theorem ent_in {H : Type} {enc : TypeId × Value → H} {W : World} {fuel : Nat} {cs : List Value} {d : DataW H} {p : List MemPlace} (hf : DataW.trod enc Try.prog W 0 (fun _ => true) true fuel 51 cs = some (d, p)) :
    ∃ e : Ent, cs = e.cells ∧ e.ok := by
  obtain ⟨xs, n, _, hxy, hl, hxl, hg⟩ := DataW.trod_struct Try.underlying51 hf
  have hxl' : xs.length = 3 := hxl
  rw [cells51] at hl
  match xs, hxl', cs, hl with
  | [y0, y1, y2], _, [v0, v1, v2, v3, v4, v5, v6, v7], _ =>
    have g0 := hg 0 _ rfl
    have g1 := hg 1 _ rfl
    have g2 := hg 2 _ rfl
    obtain ⟨K, e0, _, hK⟩ := DataW.trod_int Try.underlying3 g0
    obtain ⟨P, e1, _, hP⟩ := DataW.trod_int Try.underlying2 g1
    obtain ⟨o, e2, ho⟩ := op_in g2
    simp [cells2, cells3, cells49] at e0 e1 e2
    obtain ⟨rfl, rfl, rfl, rfl, rfl, rfl⟩ := e2
    subst e0 e1
    exact ⟨⟨K, P, o⟩, rfl, ⟨bounds_i64 hK, bounds_i64 hP, ho⟩⟩
theorem ents_in {H : Type} {enc : TypeId × Value → H} {W : World} {fuel : Nat} {cs : List Value} {d : DataW H} {p : List MemPlace} (hf : DataW.trod enc Try.prog W 0 (fun _ => true) true fuel 28 cs = some (d, p)) :
    ∃ v es, cs = [v] ∧ Es W v es ∧ ∀ e ∈ es, e.ok := by
  rcases open_slice Try.underlying28 hf with ⟨hcs, hx⟩ | ⟨x, l, c, m, n, D, Pl, hcs, _, hl, hm, hmm, hx, hr⟩
  · exact ⟨_, [], hcs, Es.nil W, fun e he => by cases he⟩
  · simp only [if_true] at hmm
    subst hmm
    rw [cells51] at hr
    have each : ∀ r, r < l → ∃ e : Ent, e.ok ∧ ∀ (j : Nat) u, e.cells[j]? = some u → W.cell? ((x.add (r * 8)).add j) = some u := by
      intro r hlt
      obtain ⟨cs', h1, h2⟩ := hr r (by omega)
      obtain ⟨_, hlen, hcell⟩ := World.cells?_some h1
      obtain ⟨e, rfl, ho⟩ := ent_in h2
      refine ⟨e, ho, fun j u hj => ?_⟩
      have hj8 : j < 8 := by have := (List.getElem?_eq_some_iff.1 hj).1; exact this
      have := hcell j hj8
      rw [this]
      exact hj
    haveI : Inhabited Ent := ⟨zeroE⟩
    obtain ⟨y, hy⟩ := choose_lt each
    have hcap : m ≤ 9223372036854775807 := by unfold maxLen at hm; omega
    obtain ⟨b, o, hpx⟩ : ∃ b o, 0 < l → x = ⟨b, o, none⟩ ∧ b < W.heap.size := by
      by_cases h0 : 0 < l
      · have hc := (hy 0 h0).2 0 _ rfl
        obtain ⟨b', o', sp⟩ := x
        have hspot : sp = none := by simpa [Addr.add] using World.cell?_spot hc
        subst hspot
        rw [Addr.add_mid, Addr.add_mid] at hc
        exact ⟨b', o', fun _ => ⟨rfl, World.block_lt_of_cell? W _ hc⟩⟩
      · exact ⟨0, 0, fun h => absurd h h0⟩
    refine ⟨_, (List.range l).map y, hcs, ⟨some x, m, b, o, by simp, by simpa using hl, hcap, fun h => ?_, fun j u hj => ?_, fun h => by cases h⟩, fun e he => ?_⟩
    · have h0 : 0 < l := by
        rcases Nat.eq_zero_or_pos l with h1 | h1
        · subst h1; exact absurd rfl h
        · exact h1
      exact ⟨by rw [(hpx h0).1], (hpx h0).2⟩
    · have hjl : j < l * 8 := by
        have := (List.getElem?_eq_some_iff.1 hj).1
        rw [ecells_len] at this
        simpa using this
      have hi : j / 8 < l := by omega
      have hg : ((List.range l).map y)[j / 8]? = some (y (j / 8)) := by simp [hi]
      have h8 : (y (j / 8)).cells.length = 8 := rfl
      have hu : (y (j / 8)).cells[j % 8]? = some u := by
        have h1 := ecells_at hg (j % 8) ((y (j / 8)).cells[j % 8]'(by omega)) (List.getElem?_eq_getElem _)
        have e : j / 8 * 8 + j % 8 = j := by omega
        rw [e, hj] at h1
        rw [List.getElem?_eq_getElem (by omega)]
        exact h1.symm
      have h2 := (hy _ hi).2 _ _ hu
      rw [(hpx (by omega)).1, Addr.add_mid, Addr.add_mid] at h2
      have e : o + j / 8 * 8 + j % 8 = o + j := by omega
      rw [e] at h2
      exact h2
    · obtain ⟨r, hr2, rfl⟩ := List.mem_map.1 he
      exact (hy r (by simpa using hr2)).1
set_option maxRecDepth 100000 in
theorem kept_in {H : Type} {enc : TypeId × Value → H} {W : World} {fuel : Nat} {cs : List Value} {d : DataW H} {p : List MemPlace} (hf : DataW.trod enc Try.prog W 0 (fun _ => true) true fuel 30 cs = some (d, p)) :
    ∃ (k : Kt) (v : Value), cs = k.cells v ∧ k.ok ∧ Es W v k.ents := by
  obtain ⟨xs, n, _, hxy, hl, hxl, hg⟩ := DataW.trod_struct Try.underlying30 hf
  have hxl' : xs.length = 5 := hxl
  rw [cells30] at hl
  match xs, hxl', cs, hl with
  | [y0, y1, y2, y3, y4], _, [v0, v1, v2, v3, v4], _ =>
    have g0 := hg 0 _ rfl
    have g1 := hg 1 _ rfl
    have g2 := hg 2 _ rfl
    have g3 := hg 3 _ rfl
    have g4 := hg 4 _ rfl
    obtain ⟨A, e0, _, hA⟩ := DataW.trod_int Try.underlying2 g0
    obtain ⟨B, e1, _, hB⟩ := DataW.trod_int Try.underlying2 g1
    obtain ⟨C, e2, _, hC⟩ := DataW.trod_int Try.underlying2 g2
    obtain ⟨D, e3, _, hD⟩ := DataW.trod_string Try.underlying9 g3
    obtain ⟨v, es, e4, h1, h2⟩ := ents_in g4
    simp [cells2, cells9, cells28] at e0 e1 e2 e3 e4
    subst e0 e1 e2 e3 e4
    unfold maxLen at hD
    obtain ⟨_, cap, rfl, hc1, hc2⟩ := h1.form
    exact ⟨⟨A, B, C, D, es⟩, _, rfl, ⟨bounds_i64 hA, bounds_i64 hB, bounds_i64 hC, by show D.size ≤ _; omega, by show es.length ≤ _; omega, h2⟩, h1⟩
end Go.Proofs.Ytjjofjnhhajjjaa.Jr
namespace Go.Proofs.Ytjjofjnhhajjjaa.Jr
open Go.ChangeShapes Go.WideShapes Go.ChangeAt Go.RowKit Go.Deep
open Nd (i64r)
/-- a script of acts in memory -/
def Acs (w : World) (v : Value) (xa : List Ac) : Prop := ∃ p cap b o, v = .slice p xa.length cap ∧ xa.length ≤ cap ∧ cap ≤ 9223372036854775807 ∧ (xa ≠ [] → p = some ⟨b, o, none⟩ ∧ b < w.heap.size) ∧ (∀ (j : Nat) f, xa[j]? = some f → ∀ (i : Nat) u, f.cells[i]? = some u → w.cell? ⟨b, o + j * 10 + i, none⟩ = some u) ∧ ∀ a ∈ xa, a.ok w
theorem Acs.below {w w' : World} {v : Value} {xa : List Ac} (h : Acs w v xa) (hb : Below w.heap.size w w') : Acs w' v xa := by
  obtain ⟨p, cap, b, o, h1, h2, h3, h4, h5, h6⟩ := h
  refine ⟨p, cap, b, o, h1, h2, h3, fun hne => ⟨(h4 hne).1, Nat.lt_of_lt_of_le (h4 hne).2 hb.size⟩, fun j f hj i u hu => ?_, fun a ha => (h6 a ha).below hb⟩
  have hne : xa ≠ [] := by rintro rfl; simp at hj
  rw [hb.cell (p := ⟨b, _, none⟩) (h4 hne).2]
  exact h5 j f hj i u hu
theorem Acs.form {w : World} {v : Value} {xa : List Ac} (h : Acs w v xa) : ∃ p cap, v = .slice p xa.length cap ∧ xa.length ≤ cap ∧ cap ≤ 9223372036854775807 := by
  obtain ⟨p, cap, b, o, h1, h2, h3, _⟩ := h
  exact ⟨p, cap, h1, h2, h3⟩
theorem Acs.at {w : World} {p : Option Addr} {n c : Nat} {xa : List Ac} (h : Acs w (.slice p n c) xa) {i : Nat} (hi : i < xa.length) : ∃ b o, p = some ⟨b, o, none⟩ ∧ (∀ (y : Nat) u, (xa[i]).cells[y]? = some u → w.cell? ⟨b, o + i * 10 + y, none⟩ = some u) ∧ (xa[i]).ok w := by
  obtain ⟨p', cap, b, o, h1, h2, h3, h4, h5, h6⟩ := h
  simp only [Value.slice.injEq] at h1
  obtain ⟨rfl, rfl, rfl⟩ := h1
  have hne : xa ≠ [] := by rintro rfl; simp at hi
  exact ⟨b, o, (h4 hne).1, h5 i _ (List.getElem?_eq_getElem hi), h6 _ (List.getElem_mem hi)⟩
theorem bulk_pos {H : Type} (d : DataW H) : 1 ≤ Rows.uptoBulk d := by
  cases d with
  | lit l => cases l <;> simp [Rows.uptoBulk]
  | _ => simp [Rows.uptoBulk]
theorem bulkAll_len {H : Type} : ∀ (l : List (DataW H)), l.length ≤ Rows.uptoBulkAll l
  | [] => by simp [Rows.uptoBulkAll]
  | d :: r => by
    have := bulk_pos d
    have := bulkAll_len r
    simp only [List.length_cons, Rows.uptoBulkAll]
    omega
theorem bulkAll_mem {H : Type} {d : DataW H} : ∀ {l : List (DataW H)}, d ∈ l → Rows.uptoBulk d ≤ Rows.uptoBulkAll l
  | x :: r, h => by
    simp only [Rows.uptoBulkAll]
    rcases List.mem_cons.1 h with rfl | h
    · omega
    · have := bulkAll_mem h
      omega
theorem cells36 : Try.prog.cellsOf 36 = 10 := by kernel_rfl
theorem cells34 : Try.prog.cellsOf 34 = 1 := by kernel_rfl
theorem ents_bulk {H : Type} {enc : TypeId × Value → H} {W : World} {fuel : Nat} {p' : Option Addr} {n c : Nat} {d : DataW H} {p : List MemPlace} (hf : DataW.trod enc Try.prog W 0 (fun _ => true) true fuel 28 [.slice p' n c] = some (d, p)) : n ≤ Rows.uptoBulk d := by
  rcases open_slice Try.underlying28 hf with ⟨hcs, hx⟩ | ⟨x, l, c', m, n', D, Pl, hcs, _, hl, hm, hmm, hx, hr⟩
  · simp at hcs
    omega
  · simp at hcs
    obtain ⟨rfl, rfl, rfl⟩ := hcs
    simp only [Prod.mk.injEq] at hx
    rw [hx.1]
    have e := bulkAll_len (H := H) ((List.range n).map D)
    simp only [List.length_map, List.length_range] at e
    simp only [Rows.uptoBulk]
    omega
set_option maxRecDepth 100000 in
theorem kept_in2 {H : Type} {enc : TypeId × Value → H} {W : World} {fuel : Nat} {cs : List Value} {d : DataW H} {p : List MemPlace} (hf : DataW.trod enc Try.prog W 0 (fun _ => true) true fuel 30 cs = some (d, p)) :
    ∃ (k : Kt) (v : Value), cs = k.cells v ∧ k.ok ∧ Es W v k.ents ∧ k.ents.length ≤ Rows.uptoBulk d := by
  obtain ⟨k, v, rfl, h1, h2⟩ := kept_in hf
  refine ⟨k, v, rfl, h1, h2, ?_⟩
  obtain ⟨xs, n, _, hxy, hl, hxl, hg⟩ := DataW.trod_struct Try.underlying30 hf
  have hxl' : xs.length = 5 := hxl
  match xs, hxl' with
  | [y0, y1, y2, y3, y4], _ =>
    have g4 := hg 4 _ rfl
    simp [Kt.cells, cells28] at g4
    obtain ⟨p', c, rfl, _, _⟩ := h2.form
    have hb := ents_bulk g4
    simp only [Prod.mk.injEq] at hxy
    rw [hxy.1]
    have m4 := bulkAll_mem (d := y4.1) (l := [y0.1, y1.1, y2.1, y3.1, y4.1]) (by simp)
    simp only [List.map_cons, List.map_nil, Rows.uptoBulk]
    omega
set_option maxRecDepth 100000 in
theorem act_in {H : Type} {enc : TypeId × Value → H} {W : World} {fuel : Nat} {cs : List Value} {d : DataW H} {p : List MemPlace} (hf : DataW.trod enc Try.prog W 0 (fun _ => true) true fuel 36 cs = some (d, p)) :
    ∃ a : Ac, cs = a.cells ∧ a.ok W ∧ a.k.ents.length ≤ Rows.uptoBulk d := by
  obtain ⟨xs, n, _, hxy, hl, hxl, hg⟩ := DataW.trod_struct Try.underlying36 hf
  have hxl' : xs.length = 6 := hxl
  rw [cells36] at hl
  match xs, hxl', cs, hl with
  | [y0, y1, y2, y3, y4, y5], _, [v0, v1, v2, v3, v4, v5, v6, v7, v8, v9], _ =>
    have g0 := hg 0 _ rfl
    have g1 := hg 1 _ rfl
    have g2 := hg 2 _ rfl
    have g3 := hg 3 _ rfl
    have g4 := hg 4 _ rfl
    have g5 := hg 5 _ rfl
    obtain ⟨A, e0, _, hA⟩ := DataW.trod_int Try.underlying3 g0
    obtain ⟨B, e1, _, hB⟩ := DataW.trod_int Try.underlying2 g1
    obtain ⟨C, e2, _, hC⟩ := DataW.trod_int Try.underlying2 g2
    obtain ⟨k, vk, e3, hk, hes, hbk⟩ := kept_in2 g3
    obtain ⟨F, e4, _, hF⟩ := DataW.trod_int Try.underlying3 g4
    have e5 : ∃ q l c, (([v0, v1, v2, v3, v4, v5, v6, v7, v8, v9] : List Value).drop 9).take (Try.prog.cellsOf 34) = [.slice q l c] := by
      rcases open_slice Try.underlying34 g5 with ⟨hcs, _⟩ | ⟨x, l, c, m, n, D, Pl, hcs, _⟩
      · exact ⟨_, _, _, hcs⟩
      · exact ⟨_, _, _, hcs⟩
    obtain ⟨q, l, c, e5⟩ := e5
    simp [cells2, cells3, cells30, cells34, Kt.cells] at e0 e1 e2 e3 e4 e5
    obtain ⟨rfl, rfl, rfl, rfl, rfl⟩ := e3
    subst e0 e1 e2 e4 e5
    simp only [Prod.mk.injEq] at hxy
    have m3 := bulkAll_mem (d := y3.1) (l := [y0.1, y1.1, y2.1, y3.1, y4.1, y5.1]) (by simp)
    refine ⟨⟨A, B, C, k, v7, F, .slice q l c, []⟩, rfl, ⟨bounds_i64 hA, bounds_i64 hB, bounds_i64 hC, hk, hes, bounds_i64 hF, q, l, c, rfl⟩, ?_⟩
    rw [hxy.1]
    simp only [List.map_cons, List.map_nil, Rows.uptoBulk]
    omega
theorem acts_in {H : Type} {enc : TypeId × Value → H} {W : World} {a : Option Addr} {len cap : Nat} {d : DataW H} {p : List MemPlace} (h : DataW.Trod enc Try.prog W 0 (fun _ => true) true 22 (.slice a len cap) d p) :
    ∃ xa : List Ac, Acs W (.slice a len cap) xa ∧ ∀ x ∈ xa, x.k.ents.length ≤ Rows.uptoBulk d := by
  obtain ⟨fuel, hf⟩ := h
  rcases open_slice Try.underlying22 hf with ⟨hcs, hx⟩ | ⟨x, l, c, m, n, D, Pl, hcs, _, hl, hm, hmm, hx, hr⟩
  · simp [Value.cells] at hcs
    obtain ⟨rfl, rfl, rfl⟩ := hcs
    exact ⟨[], ⟨none, 0, 0, 0, rfl, by simp, by omega, fun h => absurd rfl h, fun i f hi => by simp at hi, fun f hf => by cases hf⟩, fun f hf => by cases hf⟩
  · simp [Value.cells] at hcs
    obtain ⟨rfl, rfl, rfl⟩ := hcs
    simp only [if_true] at hmm
    subst hmm
    simp only [Prod.mk.injEq] at hx
    obtain ⟨hd, _⟩ := hx
    rw [cells36] at hr
    have each : ∀ r, r < len → ∃ f : Ac, f.ok W ∧ f.k.ents.length ≤ Rows.uptoBulk (D r) ∧ ∀ (j : Nat) u, f.cells[j]? = some u → W.cell? ((x.add (r * 10)).add j) = some u := by
      intro r hlt
      obtain ⟨cs', h1, h2⟩ := hr r (by omega)
      obtain ⟨_, hlen, hcell⟩ := World.cells?_some h1
      obtain ⟨o, rfl, ho, hob⟩ := act_in h2
      refine ⟨o, ho, hob, fun j u hj => ?_⟩
      have hj5 : j < 10 := by have := (List.getElem?_eq_some_iff.1 hj).1; exact this
      have := hcell j hj5
      rw [this]
      exact hj
    haveI : Inhabited Ac := ⟨⟨0, 0, 0, zeroK, .slice none 0 0, 0, .slice none 0 0, []⟩⟩
    obtain ⟨y, hy⟩ := choose_lt each
    have hcap : m ≤ 9223372036854775807 := by unfold maxLen at hm; omega
    obtain ⟨b, o, hpx⟩ : ∃ b o, 0 < len → x = ⟨b, o, none⟩ ∧ b < W.heap.size := by
      by_cases h0 : 0 < len
      · have hc := (hy 0 h0).2.2 0 _ rfl
        obtain ⟨b', o', sp⟩ := x
        have hspot : sp = none := by simpa [Addr.add] using World.cell?_spot hc
        subst hspot
        rw [Addr.add_mid, Addr.add_mid] at hc
        exact ⟨b', o', fun _ => ⟨rfl, World.block_lt_of_cell? W _ hc⟩⟩
      · exact ⟨0, 0, fun h => absurd h h0⟩
    refine ⟨(List.range len).map y, ⟨some x, m, b, o, by simp, by simpa using hl, hcap, fun h => ?_, fun j f hj => ?_, fun f hf => ?_⟩, fun f hf => ?_⟩
    · have h0 : 0 < len := by
        rcases Nat.eq_zero_or_pos len with h1 | h1
        · subst h1; exact absurd rfl h
        · exact h1
      exact ⟨by rw [(hpx h0).1], (hpx h0).2⟩
    · have hi : j < len := by have := (List.getElem?_eq_some_iff.1 hj).1; simpa using this
      simp [hi] at hj
      subst hj
      intro i u hu
      have := (hy j hi).2.2 i u hu
      rw [(hpx (by omega)).1, Addr.add_mid, Addr.add_mid] at this
      exact this
    · obtain ⟨r, hr2, rfl⟩ := List.mem_map.1 hf
      exact (hy r (by simpa using hr2)).1
    · obtain ⟨r, hr2, rfl⟩ := List.mem_map.1 hf
      have hr3 : r < len := by simpa using hr2
      have h1 := bulkAll_mem (d := D r) (l := (List.range len).map D) (List.mem_map.2 ⟨r, by simpa using hr3, rfl⟩)
      have h2 := (hy r hr3).2.1
      rw [hd]
      simp only [Rows.uptoBulk]
      omega
end Go.Proofs.Ytjjofjnhhajjjaa.Jr
