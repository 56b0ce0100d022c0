/-
  What comes in: votes, numbers, truth values.
-/
import Derived.ProofKit
import Derived.OpenShut
import Derived.ShutString
import Derived.ChangeOld
import Derived.Deep.DeepHandedRow
import Derived.SizedLaws
import Derived.Lib.LaidTab
import Derived.Deep.Matrix
import Derived.Deep.Slices
import Derived.Deep.RegionLaw
import Derived.Deep.DrawnRows
import Derived.OwnWalk
import Derived.Laws.CopyOwn
import Derived.Laws.Tables
import Derived.Lib.AppendZeros
import Derived.Lib.SlBytesConst
import Derived.Deep.LoopGhost
import Derived.Laws.StructEq
import Derived.Test.YtpmakigmhcjegaaE00
import Derived.Test.YtpmakigmhcjegaaE01
import Derived.Test.YtpmakigmhcjegaaE02
import Derived.Test.YtpmakigmhcjegaaE03
namespace Go.Proofs.Ytpmakigmhcjegaa.Vw
open Go.ChangeShapes Go.WideShapes Go.ChangeAt Go.RowKit Go.Deep
theorem tcells2 : Try.prog.cellsOf 2 = 1 := by kernel_rfl
theorem tcells3 : Try.prog.cellsOf 3 = 1 := by kernel_rfl
theorem tcells31 : Try.prog.cellsOf 31 = 3 := by kernel_rfl
theorem tbytes31 : Try.prog.bytesOf 31 = 24 := by kernel_rfl
theorem vote_in {H : Type} {enc : TypeId × Value → H} {W : World} {fuel : Nat} {cs : List Value} {d : DataW H} {p : List MemPlace} (hf : DataW.trod enc Try.prog W 0 (fun _ => true) true fuel 31 cs = some (d, p)) :
    ∃ e : Vt, cs = e.cells := by
  obtain ⟨xs, n, _, hxy, hl, hxl, hg⟩ := DataW.trod_struct Try.underlying31 hf
  have hxl' : xs.length = 3 := hxl
  rw [tcells31] at hl
  match xs, hxl', cs, hl with
  | [y0, y1, y2], _, [v0, v1, v2], _ =>
    have g0 := hg 0 _ rfl
    have g1 := hg 1 _ rfl
    have g2 := hg 2 _ rfl
    obtain ⟨A, e0, _, hA⟩ := DataW.trod_int Try.underlying3 g0
    obtain ⟨B, e1, _, hB⟩ := DataW.trod_int Try.underlying2 g1
    obtain ⟨C, e2, _, hC⟩ := DataW.trod_int Try.underlying2 g2
    simp [tcells2, tcells3] at e0 e1 e2
    subst e0 e1 e2
    exact ⟨⟨A, B, C⟩, rfl⟩
/-- a row of elements of k cells each that comes in -/
theorem row_in {H : Type} {enc : TypeId × Value → H} {W : World} {t e k : Nat} {len cap : Nat} {a : Option Addr} {d : DataW H} {p : List MemPlace} (ht : Try.prog.underlying t = some (.slice e)) (hk : Try.prog.cellsOf e = k) (hk0 : 0 < k)
    {α : Type} [Inhabited α] (cell : α → List Value) (hc : ∀ x, (cell x).length = k) (one : ∀ fuel cs d p, DataW.trod enc Try.prog W 0 (fun _ => true) true fuel e cs = some (d, p) → ∃ x, cs = cell x)
    (h : DataW.Trod enc Try.prog W 0 (fun _ => true) true t (.slice a len cap) d p) :
    ∃ (xs : List α) (b o : Nat), xs.length = len ∧ len ≤ cap ∧ cap ≤ 9223372036854775807 ∧ (xs ≠ [] → a = some ⟨b, o, none⟩ ∧ b < W.heap.size) ∧ (∀ (i : Nat) x, xs[i]? = some x → ∀ (y : Nat) u, (cell x)[y]? = some u → W.cell? ⟨b, o + i * k + y, none⟩ = some u) ∧ (a = none → xs = [] ∧ cap = 0) ∧ ((d = .nil ∧ len = 0) ∨ ∃ es sp, d = .slice es sp ∧ es.length = len) := by
  obtain ⟨fuel, hf⟩ := h
  rcases open_slice ht hf with ⟨hcs, hx⟩ | ⟨x, l, c, m, n, D, Pl, hcs, _, hl, hm, hmm, hx, hr⟩
  · simp [Value.cells] at hcs
    obtain ⟨rfl, rfl, rfl⟩ := hcs
    simp only [Prod.mk.injEq] at hx
    exact ⟨[], 0, 0, rfl, Nat.le_refl _, by decide, fun h => absurd rfl h, fun i x h => by simp at h, fun _ => ⟨rfl, rfl⟩, .inl ⟨hx.1, rfl⟩⟩
  · simp [Value.cells] at hcs
    obtain ⟨rfl, rfl, rfl⟩ := hcs
    simp only [if_true] at hmm
    subst hmm
    simp only [Prod.mk.injEq] at hx
    rw [hk] at hr
    have each : ∀ r, r < len → ∃ e : α, ∀ (j : Nat) u, (cell e)[j]? = some u → W.cell? ((x.add (r * k)).add j) = some u := by
      intro r hlt
      obtain ⟨cs', h1, h2⟩ := hr r (by omega)
      obtain ⟨_, hlen, hcell⟩ := World.cells?_some h1
      obtain ⟨e, rfl⟩ := one _ _ _ _ h2
      refine ⟨e, fun j u hj => ?_⟩
      have hjk : j < k := by have := (List.getElem?_eq_some_iff.1 hj).1; rw [hc] at this; exact this
      rw [hcell j hjk]
      exact hj
    obtain ⟨y, hy⟩ := choose_lt each
    have hcap : m ≤ 9223372036854775807 := by unfold maxLen at hm; omega
    obtain ⟨b, o, hpx⟩ : ∃ b o, 0 < len → x = ⟨b, o, none⟩ ∧ b < W.heap.size := by
      by_cases h0 : 0 < len
      · have hc0 := hy 0 h0 0 ((cell (y 0))[0]'(by rw [hc]; exact hk0)) (List.getElem?_eq_getElem _)
        obtain ⟨b', o', sp⟩ := x
        have hspot : sp = none := by simpa [Addr.add] using World.cell?_spot hc0
        subst hspot
        rw [Addr.add_mid, Addr.add_mid] at hc0
        exact ⟨b', o', fun _ => ⟨rfl, World.block_lt_of_cell? W _ hc0⟩⟩
      · exact ⟨0, 0, fun h => absurd h h0⟩
    refine ⟨(List.range len).map y, b, o, by simp, hl, hcap, fun h => ?_, fun i z hi q u hu => ?_, fun h => (by cases h), .inr ⟨_, _, hx.1, by simp⟩⟩
    · have h0 : 0 < len := by
        rcases Nat.eq_zero_or_pos len with h1 | h1
        · subst h1; exact absurd rfl h
        · exact h1
      exact ⟨by rw [(hpx h0).1], (hpx h0).2⟩
    · have hlt : i < len := by have := (List.getElem?_eq_some_iff.1 hi).1; simpa using this
      simp [hlt] at hi
      subst hi
      have h2 := hy i hlt q u hu
      rw [(hpx (by omega)).1, Addr.add_mid, Addr.add_mid] at h2
      exact h2
theorem reach_of {H : Type} {d : DataW H} {len t e n : Nat} (hd : (d = .nil ∧ len = 0) ∨ ∃ es sp, d = .slice es sp ∧ es.length = len) {ts : List TypeId} {ds : List (DataW H)} (hu : Try.prog.underlying t = some (.slice e)) (hb : Try.prog.bytesOf e = n)
    (hsz : (DataW.weightsEach Try.prog ts ds).all (· ≤ reachBytes) = true) (j : Nat) (ht : ts[j]? = some t) (hj : ds[j]? = some d) : len * n ≤ 140737488351232 := by
  rcases hd with ⟨_, rfl⟩ | ⟨es, sp, rfl, rfl⟩
  · omega
  · have h := sized_slice hsz ht hj hu
    rw [hb] at h
    unfold reachBytes at h
    exact Nat.le_trans (Nat.mul_le_mul_right _ (by omega)) h
theorem votes_in {H : Type} {enc : TypeId × Value → H} {W : World} {a : Option Addr} {len cap : Nat} {d : DataW H} {p : List MemPlace} (h : DataW.Trod enc Try.prog W 0 (fun _ => true) true 28 (.slice a len cap) d p)
    {ts : List TypeId} {ds : List (DataW H)} (hsz : (DataW.weightsEach Try.prog ts ds).all (· ≤ reachBytes) = true) (j : Nat) (ht : ts[j]? = some 28) (hj : ds[j]? = some d) : ∃ vs, Es W (.slice a len cap) vs ∧ vs.length ≤ 5864062014805 := by
  haveI : Inhabited Vt := ⟨zv⟩
  obtain ⟨xs, b, o, rfl, h1, h2, h3, h4, h5, h6⟩ := row_in Try.underlying28 tcells31 (by decide) Vt.cells (fun _ => rfl) (fun _ _ _ _ h => vote_in h) h
  have h7 := reach_of h6 Try.underlying28 tbytes31 hsz j ht hj
  refine ⟨xs, ⟨a, cap, b, o, rfl, h1, h2, h3, fun j u hj => ?_, h5⟩, by omega⟩
  have hjl : j < xs.length * 3 := by
    have := (List.getElem?_eq_some_iff.1 hj).1
    rw [ecells_len] at this
    exact this
  have hi : j / 3 < xs.length := by omega
  have h8 : (xs[j / 3]).cells.length = 3 := rfl
  have hg : xs[j / 3]? = some xs[j / 3] := List.getElem?_eq_getElem hi
  have hu : (xs[j / 3]).cells[j % 3]? = some u := by
    have h1 := ecells_at hg (j % 3) ((xs[j / 3]).cells[j % 3]'(by omega)) (List.getElem?_eq_getElem _)
    have e : j / 3 * 3 + j % 3 = j := by omega
    rw [e, hj] at h1
    rw [List.getElem?_eq_getElem (by omega)]
    exact h1.symm
  have h9 := h4 _ _ hg _ _ hu
  have e : o + j / 3 * 3 + j % 3 = o + j := by omega
  rw [e] at h9
  exact h9
end Go.Proofs.Ytpmakigmhcjegaa.Vw
