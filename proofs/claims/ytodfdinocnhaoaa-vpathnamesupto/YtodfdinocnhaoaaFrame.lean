/-
  What the statements' proofs have in common: names that come in as one slice.
-/
import Derived.Test.YtodfdinocnhaoaaA9
import Derived.ProofKit
import Derived.OpenShut
import Derived.ShutString
import Derived.ChangeOld
import Derived.Deep.DeepHandedRow
import Derived.Deep.Slices
import Derived.SizedLaws
import Derived.Lib.LaidTab
namespace Go.Proofs.Ytodfdinocnhaoaa
open Go.ChangeShapes Go.WideShapes Go.ChangeAt Go.RowKit Go.Deep

theorem own : ownKnob Try.prog.godebug = none := by kernel_rfl
theorem laidOut : laidOutB Try.prog = true := by kernel_rfl
theorem cells9 : Try.prog.cellsOf 9 = 1 := by kernel_rfl
theorem choose_str {n : Nat} {P : Nat → ByteArray → Prop} (h : ∀ i, i < n → ∃ s, P i s) : ∃ y : Nat → ByteArray, ∀ i, i < n → P i (y i) := by
  classical
  refine ⟨fun i => if hi : i < n then Classical.choose (h i hi) else ByteArray.empty, fun i hi => ?_⟩
  simp only [dif_pos hi]
  exact Classical.choose_spec (h i hi)
theorem add_one (x : Addr) (r : Nat) : x.add (r * 1) = x.add r := by rw [Nat.mul_one]
theorem add_at (b o j : Nat) : (⟨b, o, none⟩ : Addr).add j = ⟨b, o + j, none⟩ := by
  by_cases h : j = 0
  · subst h; simp [Addr.add]
  · simp [Addr.add, h]
theorem add_zero' (x : Addr) : x.add 0 = x := by cases x; simp [Addr.add]
theorem cell_lt {W : World} {a : Addr} {v : Value} (h : W.cell? a = some v) : a.block < W.heap.size := by
  by_cases hb : a.block < W.heap.size
  · exact hb
  · simp [World.cell?, Array.getElem?_eq_none (Nat.le_of_not_lt hb)] at h
theorem bulk_strs {H : Type} (l : List Nat) (D : Nat → DataW H) (y : Nat → ByteArray) (h : ∀ r ∈ l, Rows.uptoBulk (D r) = (y r).size + 1) : Lib.lens (l.map fun r => bl (y r)) + l.length = Rows.uptoBulkAll (l.map D) := by
  induction l with
  | nil => simp [Lib.lens, Rows.uptoBulkAll]
  | cons x r ih =>
    have h1 := h x (by simp)
    have h2 := ih (fun z hz => h z (by simp [hz]))
    simp only [Lib.lens, List.map_cons, Rows.uptoBulkAll, List.sum_cons, List.length_cons, bl_length] at h2 ⊢
    omega
theorem names_in {H : Type} {enc : TypeId × Value → H} {W : World} {a : Option Addr} {len cap : Nat} {d : DataW H} {p : List MemPlace} (h : DataW.Trod enc Try.prog W 0 (fun _ => true) true 23 (.slice a len cap) d p) :
    ∃ xs : List Str, Val W (.slice a len cap) xs ∧ Lib.lens xs + xs.length ≤ Rows.uptoBulk d := by
  obtain ⟨fuel, hf⟩ := h
  rcases open_slice Try.underlying23 hf with ⟨hcs, hx⟩ | ⟨x, l, c, m, n, D, Pl, hcs, _, hl, hm, hmm, hx, hr⟩
  · simp [Value.cells] at hcs
    obtain ⟨rfl, rfl, rfl⟩ := hcs
    exact ⟨[], Val.none W, by simp [Lib.lens]⟩
  · simp [Value.cells] at hcs
    obtain ⟨rfl, rfl, rfl⟩ := hcs
    simp only [if_true] at hmm
    subst hmm
    rw [cells9] at hr
    have each : ∀ r, r < len → ∃ s : ByteArray, W.cell? (x.add r) = some (.string s) ∧ Rows.uptoBulk (D r) = s.size + 1 := by
      intro r hlt
      obtain ⟨cs', h1, h2⟩ := hr r (by omega)
      obtain ⟨_, hlen, hcell⟩ := World.cells?_some h1
      obtain ⟨S, e2, x2, _⟩ := DataW.trod_string Try.underlying9 h2
      subst e2
      refine ⟨S, ?_, ?_⟩
      · have := hcell 0 (by omega)
        rw [add_one, add_zero'] at this
        simpa using this
      · simp only [Prod.mk.injEq] at x2
        rw [x2.1]
        rfl
    obtain ⟨y, hy⟩ := choose_str each
    have hlen : ((List.range len).map fun r => bl (y r)).length = len := by simp
    refine ⟨(List.range len).map fun r => bl (y r), ⟨some x, m, by rw [hlen], ?_⟩, ?_⟩
    · have hcap : m ≤ 9223372036854775807 := by unfold maxLen at hm; omega
      obtain ⟨b, o, hpx⟩ : ∃ b o, 0 < len → x = ⟨b, o, none⟩ := by
        by_cases h0 : 0 < len
        · have hc := (hy 0 h0).1
          obtain ⟨b', o', sp⟩ := x
          have hspot : sp = none := by simpa [Addr.add] using World.cell?_spot hc
          subst hspot
          exact ⟨b', o', fun _ => rfl⟩
        · exact ⟨0, 0, fun h => absurd h h0⟩
      refine ⟨by rw [hlen]; exact hl, hcap, (fun e => by cases e), b, o, fun hne => ?_, fun j z hz => ?_⟩
      · have h0 : 0 < len := by
          rcases Nat.eq_zero_or_pos len with h | h
          · subst h; exact absurd rfl hne
          · exact h
        have hx0 := hpx h0
        refine ⟨by rw [hx0], ?_⟩
        have hc := (hy 0 h0).1
        rw [hx0] at hc
        exact cell_lt hc
      · have hj : j < len := by have := (List.getElem?_eq_some_iff.1 hz).1; simpa using this
        have hc := (hy j hj).1
        rw [hpx (by omega)] at hc
        simp [hj] at hz
        subst hz
        show _ = some (Value.string (B (bl (y j))))
        rw [B_bl]
        rw [add_at] at hc
        exact hc
    · have hb := bulk_strs (List.range len) D y (fun r hr => (hy r (by simpa using hr)).2)
      rw [hlen]
      rw [List.length_range] at hb
      simp only [Prod.mk.injEq] at hx
      rw [hx.1]
      simp only [Rows.uptoBulk]
      omega
end Go.Proofs.Ytodfdinocnhaoaa
