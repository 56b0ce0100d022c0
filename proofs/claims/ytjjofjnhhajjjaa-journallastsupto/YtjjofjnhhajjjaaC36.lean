/-
  What comes in: entries, what is kept. Acts that come in. fits. One journal, two journals side by side: what their calls leave.
-/
import Derived.WalkKit
import Derived.ProofKit
import Derived.OpenShut
import Derived.ShutString
import Derived.ChangeOld
import Derived.Deep.DeepHandedRow
import Derived.SizedLaws
import Derived.Lib.LaidTab
import Derived.Deep.Matrix
import Derived.Deep.Slices
import Derived.Laws.Tables
import Derived.OwnWalk
import Derived.Deep.CutRange
import Derived.Laws.CopyOwn
import Derived.Deep.RegionLaw
import Derived.Deep.DrawnRows
import Derived.Laws.StructEq
import Derived.Lib.SlBytesConst
import Derived.Test.YtjjofjnhhajjjaaC00
import Derived.Test.YtjjofjnhhajjjaaC01
import Derived.Test.YtjjofjnhhajjjaaC02
import Derived.Test.YtjjofjnhhajjjaaC03
import Derived.Test.YtjjofjnhhajjjaaC04
import Derived.Test.YtjjofjnhhajjjaaC05
import Derived.Test.YtjjofjnhhajjjaaC06
import Derived.Test.YtjjofjnhhajjjaaC07
import Derived.Test.YtjjofjnhhajjjaaC08
import Derived.Test.YtjjofjnhhajjjaaC09
import Derived.Test.YtjjofjnhhajjjaaC10
import Derived.Test.YtjjofjnhhajjjaaC11
import Derived.Test.YtjjofjnhhajjjaaC12
import Derived.Test.YtjjofjnhhajjjaaC13
import Derived.Test.YtjjofjnhhajjjaaC14
import Derived.Test.YtjjofjnhhajjjaaC15
import Derived.Test.YtjjofjnhhajjjaaC16
import Derived.Test.YtjjofjnhhajjjaaC17
import Derived.Test.YtjjofjnhhajjjaaC18
import Derived.Test.YtjjofjnhhajjjaaC19
import Derived.Test.YtjjofjnhhajjjaaC20
import Derived.Test.YtjjofjnhhajjjaaC21
import Derived.Test.YtjjofjnhhajjjaaC22
import Derived.Test.YtjjofjnhhajjjaaC23
import Derived.Test.YtjjofjnhhajjjaaC24
import Derived.Test.YtjjofjnhhajjjaaC25
import Derived.Test.YtjjofjnhhajjjaaC26
import Derived.Test.YtjjofjnhhajjjaaC27
import Derived.Test.YtjjofjnhhajjjaaC28
import Derived.Test.YtjjofjnhhajjjaaC29
import Derived.Test.YtjjofjnhhajjjaaC30
import Derived.Test.YtjjofjnhhajjjaaC31
import Derived.Test.YtjjofjnhhajjjaaC32
import Derived.Test.YtjjofjnhhajjjaaC33
import Derived.Test.YtjjofjnhhajjjaaC34
import Derived.Test.YtjjofjnhhajjjaaC35
namespace Go.Proofs.Ytjjofjnhhajjjaa.Jr
open Go.ChangeShapes Go.WideShapes Go.ChangeAt Go.RowKit Go.Deep
open Nd (i64r)
theorem cells2 : Try.prog.cellsOf 2 = 1 := by kernel_rfl
theorem cells3 : Try.prog.cellsOf 3 = 1 := by kernel_rfl
theorem cells9 : Try.prog.cellsOf 9 = 1 := by kernel_rfl
theorem cells28 : Try.prog.cellsOf 28 = 1 := by kernel_rfl
theorem cells30 : Try.prog.cellsOf 30 = 5 := by kernel_rfl
theorem cells49 : Try.prog.cellsOf 49 = 6 := by kernel_rfl
theorem cells51 : Try.prog.cellsOf 51 = 8 := by kernel_rfl
set_option maxRecDepth 100000 in
theorem op_in {H : Type} {enc : TypeId × Value → H} {W : World} {fuel : Nat} {cs : List Value} {d : DataW H} {p : List MemPlace} (hf : DataW.trod enc Try.prog W 0 (fun _ => true) true fuel 49 cs = some (d, p)) :
    ∃ o : Nd.Opn, cs = [.int .i64 o.kind, .string o.path, .string o.dest, .string o.data, .int .i64 o.at_, .int .i64 o.size] ∧ o.ok := by
  obtain ⟨xs, n, _, hxy, hl, hxl, hg⟩ := DataW.trod_struct Try.underlying49 hf
  have hxl' : xs.length = 6 := hxl
  rw [cells49] at hl
  match xs, hxl', cs, hl with
  | [y0, y1, y2, y3, y4, y5], _, [v0, v1, v2, v3, v4, v5], _ =>
    have g0 := hg 0 _ rfl
    have g1 := hg 1 _ rfl
    have g2 := hg 2 _ rfl
    have g3 := hg 3 _ rfl
    have g4 := hg 4 _ rfl
    have g5 := hg 5 _ rfl
    obtain ⟨K, e0, _, hK⟩ := DataW.trod_int Try.underlying3 g0
    obtain ⟨P, e1, _, hP⟩ := DataW.trod_string Try.underlying9 g1
    obtain ⟨T, e2, _, hT⟩ := DataW.trod_string Try.underlying9 g2
    obtain ⟨D, e3, _, hD⟩ := DataW.trod_string Try.underlying9 g3
    obtain ⟨A, e4, _, hA⟩ := DataW.trod_int Try.underlying3 g4
    obtain ⟨Z, e5, _, hZ⟩ := DataW.trod_int Try.underlying3 g5
    simp [cells3, cells9] at e0 e1 e2 e3 e4 e5
    subst e0 e1 e2 e3 e4 e5
    unfold maxLen at hP hT hD
    exact ⟨⟨K, P, T, D, A, Z⟩, rfl, ⟨bounds_i64 hK, bounds_i64 hA, bounds_i64 hZ, by show P.size ≤ _; omega, by show T.size ≤ _; omega, by show D.size ≤ _; omega⟩⟩
set_option maxRecDepth 100000 in
theorem ent_in {H : Type} {enc : TypeId × Value → H} {W : World} {fuel : Nat} {cs : List Value} {d : DataW H} {p : List MemPlace} (hf : DataW.trod enc Try.prog W 0 (fun _ => true) true fuel 51 cs = some (d, p)) :
    ∃ e : Ent, cs = e.cells ∧ e.ok := by
  obtain ⟨xs, n, _, hxy, hl, hxl, hg⟩ := DataW.trod_struct Try.underlying51 hf
  have hxl' : xs.length = 3 := hxl
  rw [cells51] at hl
  match xs, hxl', cs, hl with
  | [y0, y1, y2], _, [v0, v1, v2, v3, v4, v5, v6, v7], _ =>
    have g0 := hg 0 _ rfl
    have g1 := hg 1 _ rfl
    have g2 := hg 2 _ rfl
    obtain ⟨K, e0, _, hK⟩ := DataW.trod_int Try.underlying3 g0
    obtain ⟨P, e1, _, hP⟩ := DataW.trod_int Try.underlying2 g1
    obtain ⟨o, e2, ho⟩ := op_in g2
    simp [cells2, cells3, cells49] at e0 e1 e2
    obtain ⟨rfl, rfl, rfl, rfl, rfl, rfl⟩ := e2
    subst e0 e1
    exact ⟨⟨K, P, o⟩, rfl, ⟨bounds_i64 hK, bounds_i64 hP, ho⟩⟩
theorem ents_in {H : Type} {enc : TypeId × Value → H} {W : World} {fuel : Nat} {cs : List Value} {d : DataW H} {p : List MemPlace} (hf : DataW.trod enc Try.prog W 0 (fun _ => true) true fuel 28 cs = some (d, p)) :
    ∃ v es, cs = [v] ∧ Es W v es ∧ ∀ e ∈ es, e.ok := by
  rcases open_slice Try.underlying28 hf with ⟨hcs, hx⟩ | ⟨x, l, c, m, n, D, Pl, hcs, _, hl, hm, hmm, hx, hr⟩
  · exact ⟨_, [], hcs, Es.nil W, fun e he => by cases he⟩
  · simp only [if_true] at hmm
    subst hmm
    rw [cells51] at hr
    have each : ∀ r, r < l → ∃ e : Ent, e.ok ∧ ∀ (j : Nat) u, e.cells[j]? = some u → W.cell? ((x.add (r * 8)).add j) = some u := by
      intro r hlt
      obtain ⟨cs', h1, h2⟩ := hr r (by omega)
      obtain ⟨_, hlen, hcell⟩ := World.cells?_some h1
      obtain ⟨e, rfl, ho⟩ := ent_in h2
      refine ⟨e, ho, fun j u hj => ?_⟩
      have hj8 : j < 8 := by have := (List.getElem?_eq_some_iff.1 hj).1; exact this
      have := hcell j hj8
      rw [this]
      exact hj
    haveI : Inhabited Ent := ⟨zeroE⟩
    obtain ⟨y, hy⟩ := choose_lt each
    have hcap : m ≤ 9223372036854775807 := by unfold maxLen at hm; omega
    obtain ⟨b, o, hpx⟩ : ∃ b o, 0 < l → x = ⟨b, o, none⟩ ∧ b < W.heap.size := by
      by_cases h0 : 0 < l
      · have hc := (hy 0 h0).2 0 _ rfl
        obtain ⟨b', o', sp⟩ := x
        have hspot : sp = none := by simpa [Addr.add] using World.cell?_spot hc
        subst hspot
        rw [Addr.add_mid, Addr.add_mid] at hc
        exact ⟨b', o', fun _ => ⟨rfl, World.block_lt_of_cell? W _ hc⟩⟩
      · exact ⟨0, 0, fun h => absurd h h0⟩
    refine ⟨_, (List.range l).map y, hcs, ⟨some x, m, b, o, by simp, by simpa using hl, hcap, fun h => ?_, fun j u hj => ?_, fun h => by cases h⟩, fun e he => ?_⟩
    · have h0 : 0 < l := by
        rcases Nat.eq_zero_or_pos l with h1 | h1
        · subst h1; exact absurd rfl h
        · exact h1
      exact ⟨by rw [(hpx h0).1], (hpx h0).2⟩
    · have hjl : j < l * 8 := by
        have := (List.getElem?_eq_some_iff.1 hj).1
        rw [ecells_len] at this
        simpa using this
      have hi : j / 8 < l := by omega
      have hg : ((List.range l).map y)[j / 8]? = some (y (j / 8)) := by simp [hi]
      have h8 : (y (j / 8)).cells.length = 8 := rfl
      have hu : (y (j / 8)).cells[j % 8]? = some u := by
        have h1 := ecells_at hg (j % 8) ((y (j / 8)).cells[j % 8]'(by omega)) (List.getElem?_eq_getElem _)
        have e : j / 8 * 8 + j % 8 = j := by omega
        rw [e, hj] at h1
        rw [List.getElem?_eq_getElem (by omega)]
        exact h1.symm
      have h2 := (hy _ hi).2 _ _ hu
      rw [(hpx (by omega)).1, Addr.add_mid, Addr.add_mid] at h2
      have e : o + j / 8 * 8 + j % 8 = o + j := by omega
      rw [e] at h2
      exact h2
    · obtain ⟨r, hr2, rfl⟩ := List.mem_map.1 he
      exact (hy r (by simpa using hr2)).1
set_option maxRecDepth 100000 in
theorem kept_in {H : Type} {enc : TypeId × Value → H} {W : World} {fuel : Nat} {cs : List Value} {d : DataW H} {p : List MemPlace} (hf : DataW.trod enc Try.prog W 0 (fun _ => true) true fuel 30 cs = some (d, p)) :
    ∃ (k : Kt) (v : Value), cs = k.cells v ∧ k.ok ∧ Es W v k.ents := by
  obtain ⟨xs, n, _, hxy, hl, hxl, hg⟩ := DataW.trod_struct Try.underlying30 hf
  have hxl' : xs.length = 5 := hxl
  rw [cells30] at hl
  match xs, hxl', cs, hl with
  | [y0, y1, y2, y3, y4], _, [v0, v1, v2, v3, v4], _ =>
    have g0 := hg 0 _ rfl
    have g1 := hg 1 _ rfl
    have g2 := hg 2 _ rfl
    have g3 := hg 3 _ rfl
    have g4 := hg 4 _ rfl
    obtain ⟨A, e0, _, hA⟩ := DataW.trod_int Try.underlying2 g0
    obtain ⟨B, e1, _, hB⟩ := DataW.trod_int Try.underlying2 g1
    obtain ⟨C, e2, _, hC⟩ := DataW.trod_int Try.underlying2 g2
    obtain ⟨D, e3, _, hD⟩ := DataW.trod_string Try.underlying9 g3
    obtain ⟨v, es, e4, h1, h2⟩ := ents_in g4
    simp [cells2, cells9, cells28] at e0 e1 e2 e3 e4
    subst e0 e1 e2 e3 e4
    unfold maxLen at hD
    obtain ⟨_, cap, rfl, hc1, hc2⟩ := h1.form
    exact ⟨⟨A, B, C, D, es⟩, _, rfl, ⟨bounds_i64 hA, bounds_i64 hB, bounds_i64 hC, by show D.size ≤ _; omega, by show es.length ≤ _; omega, h2⟩, h1⟩
end Go.Proofs.Ytjjofjnhhajjjaa.Jr
namespace Go.Proofs.Ytjjofjnhhajjjaa.Jr
open Go.ChangeShapes Go.WideShapes Go.ChangeAt Go.RowKit Go.Deep
open Nd (i64r)
/-- a script of acts in memory -/
def Acs (w : World) (v : Value) (xa : List Ac) : Prop := ∃ p cap b o, v = .slice p xa.length cap ∧ xa.length ≤ cap ∧ cap ≤ 9223372036854775807 ∧ (xa ≠ [] → p = some ⟨b, o, none⟩ ∧ b < w.heap.size) ∧ (∀ (j : Nat) f, xa[j]? = some f → ∀ (i : Nat) u, f.cells[i]? = some u → w.cell? ⟨b, o + j * 10 + i, none⟩ = some u) ∧ ∀ a ∈ xa, a.ok w
theorem Acs.below {w w' : World} {v : Value} {xa : List Ac} (h : Acs w v xa) (hb : Below w.heap.size w w') : Acs w' v xa := by
  obtain ⟨p, cap, b, o, h1, h2, h3, h4, h5, h6⟩ := h
  refine ⟨p, cap, b, o, h1, h2, h3, fun hne => ⟨(h4 hne).1, Nat.lt_of_lt_of_le (h4 hne).2 hb.size⟩, fun j f hj i u hu => ?_, fun a ha => (h6 a ha).below hb⟩
  have hne : xa ≠ [] := by rintro rfl; simp at hj
  rw [hb.cell (p := ⟨b, _, none⟩) (h4 hne).2]
  exact h5 j f hj i u hu
theorem Acs.form {w : World} {v : Value} {xa : List Ac} (h : Acs w v xa) : ∃ p cap, v = .slice p xa.length cap ∧ xa.length ≤ cap ∧ cap ≤ 9223372036854775807 := by
  obtain ⟨p, cap, b, o, h1, h2, h3, _⟩ := h
  exact ⟨p, cap, h1, h2, h3⟩
theorem Acs.at {w : World} {p : Option Addr} {n c : Nat} {xa : List Ac} (h : Acs w (.slice p n c) xa) {i : Nat} (hi : i < xa.length) : ∃ b o, p = some ⟨b, o, none⟩ ∧ (∀ (y : Nat) u, (xa[i]).cells[y]? = some u → w.cell? ⟨b, o + i * 10 + y, none⟩ = some u) ∧ (xa[i]).ok w := by
  obtain ⟨p', cap, b, o, h1, h2, h3, h4, h5, h6⟩ := h
  simp only [Value.slice.injEq] at h1
  obtain ⟨rfl, rfl, rfl⟩ := h1
  have hne : xa ≠ [] := by rintro rfl; simp at hi
  exact ⟨b, o, (h4 hne).1, h5 i _ (List.getElem?_eq_getElem hi), h6 _ (List.getElem_mem hi)⟩
theorem bulk_pos {H : Type} (d : DataW H) : 1 ≤ Rows.uptoBulk d := by
  cases d with
  | lit l => cases l <;> simp [Rows.uptoBulk]
  | _ => simp [Rows.uptoBulk]
theorem bulkAll_len {H : Type} : ∀ (l : List (DataW H)), l.length ≤ Rows.uptoBulkAll l
  | [] => by simp [Rows.uptoBulkAll]
  | d :: r => by
    have := bulk_pos d
    have := bulkAll_len r
    simp only [List.length_cons, Rows.uptoBulkAll]
    omega
theorem bulkAll_mem {H : Type} {d : DataW H} : ∀ {l : List (DataW H)}, d ∈ l → Rows.uptoBulk d ≤ Rows.uptoBulkAll l
  | x :: r, h => by
    simp only [Rows.uptoBulkAll]
    rcases List.mem_cons.1 h with rfl | h
    · omega
    · have := bulkAll_mem h
      omega
theorem cells36 : Try.prog.cellsOf 36 = 10 := by kernel_rfl
theorem cells34 : Try.prog.cellsOf 34 = 1 := by kernel_rfl
theorem ents_bulk {H : Type} {enc : TypeId × Value → H} {W : World} {fuel : Nat} {p' : Option Addr} {n c : Nat} {d : DataW H} {p : List MemPlace} (hf : DataW.trod enc Try.prog W 0 (fun _ => true) true fuel 28 [.slice p' n c] = some (d, p)) : n ≤ Rows.uptoBulk d := by
  rcases open_slice Try.underlying28 hf with ⟨hcs, hx⟩ | ⟨x, l, c', m, n', D, Pl, hcs, _, hl, hm, hmm, hx, hr⟩
  · simp at hcs
    omega
  · simp at hcs
    obtain ⟨rfl, rfl, rfl⟩ := hcs
    simp only [Prod.mk.injEq] at hx
    rw [hx.1]
    have e := bulkAll_len (H := H) ((List.range n).map D)
    simp only [List.length_map, List.length_range] at e
    simp only [Rows.uptoBulk]
    omega
set_option maxRecDepth 100000 in
theorem kept_in2 {H : Type} {enc : TypeId × Value → H} {W : World} {fuel : Nat} {cs : List Value} {d : DataW H} {p : List MemPlace} (hf : DataW.trod enc Try.prog W 0 (fun _ => true) true fuel 30 cs = some (d, p)) :
    ∃ (k : Kt) (v : Value), cs = k.cells v ∧ k.ok ∧ Es W v k.ents ∧ k.ents.length ≤ Rows.uptoBulk d := by
  obtain ⟨k, v, rfl, h1, h2⟩ := kept_in hf
  refine ⟨k, v, rfl, h1, h2, ?_⟩
  obtain ⟨xs, n, _, hxy, hl, hxl, hg⟩ := DataW.trod_struct Try.underlying30 hf
  have hxl' : xs.length = 5 := hxl
  match xs, hxl' with
  | [y0, y1, y2, y3, y4], _ =>
    have g4 := hg 4 _ rfl
    simp [Kt.cells, cells28] at g4
    obtain ⟨p', c, rfl, _, _⟩ := h2.form
    have hb := ents_bulk g4
    simp only [Prod.mk.injEq] at hxy
    rw [hxy.1]
    have m4 := bulkAll_mem (d := y4.1) (l := [y0.1, y1.1, y2.1, y3.1, y4.1]) (by simp)
    simp only [List.map_cons, List.map_nil, Rows.uptoBulk]
    omega
end Go.Proofs.Ytjjofjnhhajjjaa.Jr
namespace Go.Proofs.Ytjjofjnhhajjjaa.Jr
open Go.RowKit
open Nd (Row wp_world post_Row grownBy_setCell grownBy_trans below_of_grown u8v Grew Sl hid_in i64r bytesS str)
theorem fitsA (xa : List Ac) (v : Value) (w : World) (h : Acs w v xa) : Calls Try.prog 7 #[v] w fun e w' => ∃ b : Bool, e = .returned (.bool b) ∧ Below w.heap.size w w' := by
  obtain ⟨p, cap, rfl, hc1, hc2⟩ := h.form
  have HE := hid_in h
  have hn : (xa.length : Int) ≤ 9223372036854775807 := by omega
  clear h hc1 hc2
  go_enter Try.func7, Try.ntmps7
  go_wp2_with fail
  go_loopw [3, 4] (fun vt vi W => ∃ (t : Int) (i : Nat), i ≤ xa.length ∧ vt = .int .i64 t ∧ vi = .int .i64 (i : Int) ∧ Hid (Below w.heap.size w W)) (fun _ vi _ => xa.length - (intOf vi).toNat)
  case atStart => exact ⟨0, 0, by omega, rfl, rfl, Below.refl _ _⟩
  case round =>
    obtain ⟨t, i, hi, rfl, rfl, hB⟩ := hrel
    by_cases hlt : i < xa.length
    · obtain ⟨b, o, rfl, hm, hok⟩ := (HE.out.below hB.out).at hlt
      have HM := hid_in (fun W (x : Below wr.heap.size wr W) => ((HE.out.below hB.out).below x).at hlt)
      generalize xa[i] = a at *
      obtain ⟨kd, vw, fr, ⟨kv, kn, kb, ks, es⟩, ve, fl, kp, kks⟩ := a
      have hes := hok.es
      simp only at hes
      obtain ⟨q, qc, rfl, g1, g2⟩ := hes.form
      have HES := hid_in hes
      have HIM := hid_in hlt
      have hlt2 : (i : Int) < (xa.length : Int) := by omega
      have m6 : wr.cell? ⟨b, o + i * 10 + 6, none⟩ = some (.string ks) := hm 6 _ rfl
      have m7 : wr.cell? ⟨b, o + i * 10 + 7, none⟩ = some (.slice q es.length qc) := hm 7 _ rfl
      have hen : (es.length : Int) ≤ 9223372036854775807 := by omega
      clear hm hok hes hi hlt
      go_wp2_with fail
      generalize wr = wo at *
      go_loopw [3, 5] (fun vt vj W => ∃ (t : Int) (j : Nat), j ≤ es.length ∧ vt = .int .i64 t ∧ vj = .int .i64 (j : Int) ∧ Hid (Below wo.heap.size wo W)) (fun _ vj _ => es.length - (intOf vj).toNat)
      case atStart => exact ⟨_, 0, by omega, rfl, rfl, Below.refl _ _⟩
      case round =>
        obtain ⟨t2, j, hj, rfl, rfl, hB2⟩ := hrel
        have HW := hid_in (Below.trans hB.out (hB2.out.mono hB.out.size))
        have m7' : wr.cell? ⟨b, o + i * 10 + 7, none⟩ = some (.slice q es.length qc) := by
          obtain ⟨b', o', e1, h2, -⟩ := HM.out _ hB2.out
          cases e1
          exact h2 7 _ rfl
        by_cases hlj : j < es.length
        · have hg : es[j]? = some es[j] := List.getElem?_eq_getElem hlj
          obtain ⟨eb, eo, rfl, hme⟩ := (HES.out.below hB2.out).at hg
          generalize es[j] = x at *
          obtain ⟨cl, nu, ⟨okd, pa, de, da, at_, sz⟩⟩ := x
          have n2 : wr.cell? ⟨eb, eo + j * 8 + 2, none⟩ = some (.int .i64 okd) := hme 2 _ rfl
          have n3 : wr.cell? ⟨eb, eo + j * 8 + 3, none⟩ = some (.string pa) := hme 3 _ rfl
          have n4 : wr.cell? ⟨eb, eo + j * 8 + 4, none⟩ = some (.string de) := hme 4 _ rfl
          have n5 : wr.cell? ⟨eb, eo + j * 8 + 5, none⟩ = some (.string da) := hme 5 _ rfl
          have n6 : wr.cell? ⟨eb, eo + j * 8 + 6, none⟩ = some (.int .i64 at_) := hme 6 _ rfl
          have n7 : wr.cell? ⟨eb, eo + j * 8 + 7, none⟩ = some (.int .i64 sz) := hme 7 _ rfl
          have HJM := hid_in hlj
          have hlj2 : (j : Int) < (es.length : Int) := by omega
          clear hme hg hj hlj
          obtain ⟨W6, H6, R6, B6, S6⟩ := row_new wr [.int .i64 okd, .string pa, .string de, .string da, .int .i64 at_, .int .i64 sz] 49
          have z1 : W6.cell? ⟨wr.heap.size, 1, none⟩ = some (.string pa) := R6.out.cell 1
          have z2 : W6.cell? ⟨wr.heap.size, 2, none⟩ = some (.string de) := R6.out.cell 2
          have z3 : W6.cell? ⟨wr.heap.size, 3, none⟩ = some (.string da) := R6.out.cell 3
          go_upto_region 10 with fail
          refine wp_world H6.out ?_
          go_wp2_with fail
          exact ⟨⟨_, j + 1, by have := HJM.out; omega, rfl, by go_num, hid_in (hB2.out.trans (B6.out.mono hB2.out.size))⟩, by have := HJM.out; simp [intOf]; omega⟩
        · obtain rfl : j = es.length := by omega
          clear hj hlj
          go_wp2_with fail
          exact ⟨⟨_, i + 1, by have := HIM.out; omega, rfl, by go_num, HW⟩, by have := HIM.out; simp [intOf]; omega⟩
    · obtain rfl : i = xa.length := by omega
      clear hi hlt
      go_wp2_with fail
      go_ret
      exact ⟨_, rfl, hB.out⟩
end Go.Proofs.Ytjjofjnhhajjjaa.Jr
namespace Go.Proofs.Ytjjofjnhhajjjaa.Jr
open Go.RowKit
open Nd (Row wp_world post_Row grownBy_setCell grownBy_trans below_of_grown u8v Grew Sl hid_in i64r bytesS str)
open Pt (Ar Dk PtV FS Sub Stp liv arOf bytesOf)
/-- a journal on a sound platter -/
def J1 (w : World) (B j g m : Nat) (k : Kt) : Prop := ∃ u0 u1 d rs ve, JV w B j g u0 u1 d ve k ∧ JD d rs k ∧ Lim d m
/-- two of them, in memory of their own -/
def J2 (w : World) (B j g m : Nat) (k : Kt) (C y h n : Nat) (l : Kt) : Prop := ∃ u0 u1 d rs ve x0 x1 e qs vf, (JV w B j g u0 u1 d ve k ∧ JD d rs k ∧ Lim d m) ∧ (JV w C y h x0 x1 e vf l ∧ JD e qs l ∧ Lim e n) ∧ ∀ b, FJ j g u0 u1 b → ¬ FJ y h x0 x1 b
theorem J1.below {w w' : World} {B j g m : Nat} {k : Kt} (h : J1 w B j g m k) (hb : Below w.heap.size w w') : J1 w' B j g m k := by
  obtain ⟨u0, u1, d, rs, ve, h1, h2, h3⟩ := h
  exact ⟨u0, u1, d, rs, ve, h1.below hb, h2, h3⟩
theorem J2.below {w w' : World} {B j g m C y h n : Nat} {k l : Kt} (hh : J2 w B j g m k C y h n l) (hb : Below w.heap.size w w') : J2 w' B j g m k C y h n l := by
  obtain ⟨u0, u1, d, rs, ve, x0, x1, e, qs, vf, ⟨h1, h2, h3⟩, ⟨h4, h5, h6⟩, h7⟩ := hh
  exact ⟨u0, u1, d, rs, ve, x0, x1, e, qs, vf, ⟨h1.below hb, h2, h3⟩, ⟨h4.below hb, h5, h6⟩, h7⟩
theorem J1.ok {w : World} {B j g m : Nat} {k : Kt} (h : J1 w B j g m k) : k.ok ∧ may k = true := by
  obtain ⟨u0, u1, d, rs, ve, h1, h2, h3⟩ := h
  exact ⟨h1.ok, h1.may⟩
theorem J2.left {w : World} {B j g m C y h n : Nat} {k l : Kt} (hh : J2 w B j g m k C y h n l) : J1 w B j g m k := by
  obtain ⟨u0, u1, d, rs, ve, x0, x1, e, qs, vf, h1, h2, h7⟩ := hh
  exact ⟨u0, u1, d, rs, ve, h1⟩
/-- what a call on a journal leaves -/
def Af1 (w : World) (B j g m : Nat) (k : Kt) (E : Int) (e : Ending) (w' : World) : Prop := e = .returned (.int .i64 E) ∧ J1 w' B j g m k ∧ ∀ x0 A, B ≤ w.heap.size → A ≤ B → Below A x0 w → Below A x0 w'
def Af2 (w : World) (B j g m : Nat) (k : Kt) (C y h n : Nat) (l : Kt) (A : Nat) (E : Int) (e : Ending) (w' : World) : Prop := e = .returned (.int .i64 E) ∧ J2 w' B j g m k C y h n l ∧ ∀ x0, A ≤ w.heap.size → Below A x0 w → Below A x0 w'
theorem Snd.one {w : World} {B j g m : Nat} {v0 v1 ve : Value} {d : Dk} {k0 k : Kt} {E : Int} {e : Ending} {w' : World} (hJ : JV w B j g v0 v1 d ve k0) (h : Snd w B j g v0 v1 k m E e w') : Af1 w B j g m k E e w' := by
  obtain ⟨h1, d', rs', u0, u1, ve', h2, h3, h4, h5, h6⟩ := h
  refine ⟨h1, ⟨u0, u1, d', rs', ve', h2, h3, h4⟩, fun x0 A hB hA hb => h5.below hb (by omega) (fun q hq => ?_)⟩
  have := (hJ.fj_lt q hq).1
  omega
theorem Snd.two {w : World} {B j g m C y h n A : Nat} {v0 v1 ve x0 x1 vf : Value} {d e : Dk} {k0 k l : Kt} {qs : List Rc} {E : Int} {x : Ending} {w' : World} (hJ : JV w B j g v0 v1 d ve k0) (h2 : JV w C y h x0 x1 e vf l ∧ JD e qs l ∧ Lim e n) (hd : ∀ b, FJ j g v0 v1 b → ¬ FJ y h x0 x1 b) (hA : A ≤ B) (hs : Snd w B j g v0 v1 k m E x w') : Af2 w B j g m k C y h n l A E x w' := by
  obtain ⟨h1, d', rs', u0, u1, ve', g2, g3, g4, g5, g6⟩ := hs
  have h51 : ∀ b cur, w.heap[b]? = some (.cells cur 51 (0, 0)) → ¬ FJ j g v0 v1 b := fun b cur hb => hJ.no51 hb
  refine ⟨h1, ⟨u0, u1, d', rs', ve', x0, x1, e, qs, vf, ⟨g2, g3, g4⟩, ⟨h2.1.keep g5 (fun b hb hc => hd b hc hb) h51, h2.2⟩, fun b hb hc => ?_⟩, fun z hB hb => g5.below hb (by omega) (fun q hq => ?_)⟩
  · rcases g6 b hb with h | h
    · exact hd b h hc
    · have := (h2.1.fj_lt b hc).2
      omega
  · have := (hJ.fj_lt q hq).1
    omega
theorem J1.do_ {w : World} {B j g m : Nat} {k : Kt} (h : J1 w B j g m k) (hm : m ≤ 100000000) (a : Ac) (ha : a.ok w) (hl : a.k.ents.length ≤ 100000000) :
    Calls Try.prog 11 #[.pointer (some ⟨j, 0, none⟩), a.val] w (Af1 w B j g (m + 262152) (okK a k) (okE a k)) := by
  obtain ⟨u0, u1, d, rs, ve, h1, h2, h3⟩ := h
  exact (do_snd h1 h2 h3 hm a ha hl).mono (fun _ _ hs => hs.one h1)
theorem J2.do_ {w : World} {B j g m C y h n A : Nat} {k l : Kt} (hh : J2 w B j g m k C y h n l) (hA : A ≤ B) (hm : m ≤ 100000000) (a : Ac) (ha : a.ok w) (hl : a.k.ents.length ≤ 100000000) :
    Calls Try.prog 11 #[.pointer (some ⟨j, 0, none⟩), a.val] w (Af2 w B j g (m + 262152) (okK a k) C y h n l A (okE a k)) := by
  obtain ⟨u0, u1, d, rs, ve, x0, x1, e, qs, vf, ⟨h1, h2, h3⟩, h4, h7⟩ := hh
  exact (do_snd h1 h2 h3 hm a ha hl).mono (fun _ _ hs => hs.two h1 h4 h7 hA)
theorem lay_snd {w : World} {B j g n : Nat} {v0 v1 ve : Value} {d : Dk} {rs : List Rc} {k k' : Kt} {v : Value} (hJ : JV w B j g v0 v1 d ve k) (hd : JD d rs k) (hl : Lim d n) (hn : n ≤ 100000000) (hes : Es w v k'.ents) (hok : k'.ok) (hm : may k' = true) :
    Calls Try.prog 18 #[.pointer (some ⟨j, 0, none⟩), k'.val v] w (Snd w B j g v0 v1 k' (n + 262152) 0) := by
  have hfew := ((may_iff k').1 hm).few
  have hc := lay_c hJ k' v hes hok (by omega) (hl.room (by omega))
  have hlim := hl.ly (k := k) (k' := k') hok
  obtain ⟨g1, g2⟩ := hd.anew hok hm
  have hf := foldS_L (k := k) hm
  unfold lyE lyD lyK at hc
  unfold lyD at hlim
  rw [hf] at hc hlim
  simp only [g1, if_true] at hc
  refine hc.mono ?_
  rintro e w' ⟨h1, u0, u1, ve', h2, h3, h4⟩
  exact ⟨h1, _, _, u0, u1, ve', h2, g2, hlim, h3, h4⟩
theorem J2.lay {w : World} {B j g m C y h n A : Nat} {k k' l : Kt} {v : Value} (hh : J2 w B j g m k C y h n l) (hA : A ≤ B) (hm : m ≤ 100000000) (hes : Es w v k'.ents) (hok : k'.ok) (hy : may k' = true) :
    Calls Try.prog 18 #[.pointer (some ⟨j, 0, none⟩), k'.val v] w (Af2 w B j g (m + 262152) k' C y h n l A 0) := by
  obtain ⟨u0, u1, d, rs, ve, x0, x1, e, qs, vf, ⟨h1, h2, h3⟩, h4, h7⟩ := hh
  exact (lay_snd h1 h2 h3 hm hes hok hy).mono (fun _ _ hs => hs.two h1 h4 h7 hA)
theorem J1.kept {w : World} {B j g m : Nat} {k : Kt} (h : J1 w B j g m k) : Calls Try.prog 12 #[.pointer (some ⟨j, 0, none⟩)] w fun e w' => ∃ v, e = .returned (k.val v) ∧ Es w' v k.ents ∧ Below w.heap.size w w' := by
  obtain ⟨u0, u1, d, rs, ve, h1, _⟩ := h
  refine (kept_c h1).mono ?_
  rintro e w' ⟨v, h2, h3, h4⟩
  exact ⟨v, h2, h3.es, h4⟩
theorem OpR.one {w w' : World} {B g : Nat} {v0 v1 : Value} {e : Ending} (h : PtV w B g v0 v1 Pt.newD) (ho : OpR w B g v0 v1 Pt.newD zeroK e w') : ∃ j c p, e = .returned (.tuple #[.pointer (some ⟨j, 0, none⟩), .agg #[.int .i64 0, .int .i64 0, .int .i64 0, .string ⟨#[]⟩, .slice p 0 c], .int .i64 0]) ∧ J1 w' B j g 0 zeroK ∧ (∀ x A, A ≤ B → B ≤ w.heap.size → Below A x w → Below A x w') := by
  obtain ⟨j, ve, p, c, u0, u1, rfl, h1, h2, h3, h4, h5⟩ := OpR.form ho
  refine ⟨j, c, p, rfl, ⟨u0, u1, _, _, ve, h1, JD.new, Lim.new⟩, fun x A hA hB hb => h4.below hb (by omega) (fun q hq => ?_)⟩
  have := (h.fs_lt q hq).1
  omega
/-- a second journal beside the first -/
theorem OpR.two {w0 w1 w2 : World} {B j g m h : Nat} {k : Kt} {v0 v1 : Value} {e : Ending} (hJ : J1 w0 B j g m k) (hb : Below w0.heap.size w0 w1) (hp : PtV w1 w0.heap.size h v0 v1 Pt.newD) (ho : OpR w1 w0.heap.size h v0 v1 Pt.newD zeroK e w2) :
    ∃ y c p, e = .returned (.tuple #[.pointer (some ⟨y, 0, none⟩), .agg #[.int .i64 0, .int .i64 0, .int .i64 0, .string ⟨#[]⟩, .slice p 0 c], .int .i64 0]) ∧ J2 w2 B j g m k w0.heap.size y h 0 zeroK ∧ (∀ x A, A ≤ w0.heap.size → Below A x w0 → Below A x w2) := by
  obtain ⟨u0, u1, d, rs, ve, h1, h2, h3⟩ := hJ
  obtain ⟨y, vf, p, c, x0, x1, rfl, g1, g2, g3, g4, g5⟩ := OpR.form ho
  have hJ1 := h1.below hb
  refine ⟨y, c, p, rfl, ⟨u0, u1, d, rs, ve, x0, x1, _, _, vf, ⟨hJ1.keep g4 (fun b hb' hc => ?_) (fun b cur hb' => Jr.no51 hp hb'), h2, h3⟩, ⟨g1, JD.new, Lim.new⟩, fun b hb' hc => ?_⟩, fun x A hA hx => g4.below (hx.trans (hb.mono hA)) (by have := hb.size; omega) (fun q hq => ?_)⟩
  · have := (h1.fj_lt b hb').2
    have := (hp.fs_lt b hc).1
    omega
  · have := (h1.fj_lt b hb').2
    have := (g1.fj_lt b hc).1
    omega
  · have := (hp.fs_lt q hq).1
    omega
/-- Open anew of the platter that the second journal is on -/
def Opn2 (w : World) (C y h n : Nat) (l : Kt) (e : Ending) (w' : World) : Prop := ∃ z v, e = .returned (.tuple #[.pointer (some ⟨z, 0, none⟩), l.val v, .int .i64 0]) ∧ Es w' v l.ents ∧ J1 w' C y h n l ∧ ∀ x A, A ≤ C → Below A x w → Below A x w'
theorem J1.reopen {w : World} {C y h n : Nat} {l : Kt} (hh : J1 w C y h n l) (hn : n ≤ 100000000) : Calls Try.prog 9 #[.pointer (some ⟨h, 0, none⟩)] w (Opn2 w C y h n l) := by
  obtain ⟨u0, u1, d, rs, ve, h1, h2, h3⟩ := hh
  refine (open_jd h1.pt h2 (h3.mono (by omega))).mono ?_
  rintro e w' ⟨z, vz, v, x0, x1, rfl, g1, g2, g3, g4, g5⟩
  refine ⟨z, v, rfl, g2.val, ?_, fun x A hA hb => g4.below hb (by have := h1.base; have := h1.row.lt; omega) (fun q hq => ?_)⟩
  · obtain ⟨t0, t1, vt, k1, _, _⟩ := JStp.of_stp h1 ⟨x0, x1, g1.pt, g4, g5⟩
    exact ⟨t0, t1, d, rs, vt, k1, h2, h3⟩
  · have := (h1.pt.fs_lt q hq).1
    omega
end Go.Proofs.Ytjjofjnhhajjjaa.Jr
