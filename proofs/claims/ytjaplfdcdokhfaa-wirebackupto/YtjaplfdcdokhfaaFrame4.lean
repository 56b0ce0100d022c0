/-
  Fields that come in as one slice.
-/
import Derived.Test.YtjaplfdcdokhfaaFrameU
import Derived.Test.YtjaplfdcdokhfaaL3
import Derived.Deep.Slices
namespace Go.Proofs.Ytjaplfdcdokhfaa
open Go.ChangeShapes Go.WideShapes Go.ChangeAt Go.RowKit Go.Deep

theorem cells3 : Try.prog.cellsOf 3 = 1 := by kernel_rfl
theorem cells29 : Try.prog.cellsOf 29 = 1 := by kernel_rfl
theorem cells9 : Try.prog.cellsOf 9 = 1 := by kernel_rfl
theorem cells31 : Try.prog.cellsOf 31 = 4 := by kernel_rfl
instance : Inhabited Fld := ⟨⟨0, 0, ByteArray.empty, 0⟩⟩
theorem field_in {H : Type} {enc : TypeId × Value → H} {W : World} {fuel : Nat} {a : Addr} {cs : List Value} {d : DataW H} {p : List MemPlace} (hc : W.cells? 0 a 4 = some cs) (h : DataW.trod enc Try.prog W 0 (fun _ => true) true fuel 31 cs = some (d, p)) :
    ∃ f : Fld, W.cell? (a.add 0) = some (.int .i64 f.K) ∧ W.cell? (a.add 1) = some (.int .u64 (f.N : Int)) ∧ W.cell? (a.add 2) = some (.string f.S) ∧ W.cell? (a.add 3) = some (.int .i64 f.M) ∧ f.N < 18446744073709551616 ∧ 42 + f.S.size ≤ 42 * Rows.uptoBulk d := by
  obtain ⟨_, hlen, hcell⟩ := World.cells?_some hc
  obtain ⟨xs, k, _, hxy, _, hxl, hf⟩ := DataW.trod_struct Try.underlying31 h
  have hxl' : xs.length = 4 := hxl
  match xs, hxl', cs, hlen with
  | [y0, y1, y2, y3], _, [v0, v1, v2, v3], _ =>
    have g0 := hf 0 _ rfl
    have g1 := hf 1 _ rfl
    have g2 := hf 2 _ rfl
    have g3 := hf 3 _ rfl
    obtain ⟨K, e0, x0, _⟩ := DataW.trod_int Try.underlying3 g0
    obtain ⟨N, e1, x1, hN⟩ := DataW.trod_int Try.underlying29 g1
    obtain ⟨S, e2, x2, _⟩ := DataW.trod_string Try.underlying9 g2
    obtain ⟨M, e3, x3, _⟩ := DataW.trod_int Try.underlying3 g3
    simp [cells3, cells29, cells9] at e0 e1 e2 e3
    subst e0 e1 e2 e3
    have hb := bounds_u64 hN
    obtain ⟨n, rfl⟩ := Int.eq_ofNat_of_zero_le hb.1
    have hd : d = .agg [y0.1, y1.1, y2.1, y3.1] := by
      simp only [Prod.mk.injEq] at hxy
      simpa using hxy.1
    refine ⟨⟨K, n, S, M⟩, ?_, ?_, ?_, ?_, by simp only; omega, ?_⟩
    · simpa using hcell 0 (by omega)
    · simpa using hcell 1 (by omega)
    · simpa using hcell 2 (by omega)
    · simpa using hcell 3 (by omega)
    · rw [hd, x0, x1, x2, x3]
      simp only [Rows.uptoBulk, Rows.uptoBulkAll]
      have hS : S.size = S.data.toList.length := rfl
      omega
theorem bulk_fields {H : Type} (xs : List Nat) (D : Nat → DataW H) (y : Nat → Fld) (h : ∀ r ∈ xs, 42 + (y r).S.size ≤ 42 * Rows.uptoBulk (D r)) : roomF (xs.map y) ≤ 42 * Rows.uptoBulkAll (xs.map D) := by
  induction xs with
  | nil => simp [roomF]
  | cons x r ih =>
    have h1 := h x (by simp)
    have h2 := ih (fun z hz => h z (by simp [hz]))
    simp only [List.map_cons, Rows.uptoBulkAll, roomF, List.sum_cons] at h2 ⊢
    omega
theorem fields_in {H : Type} {enc : TypeId × Value → H} {W : World} {a : Option Addr} {len cap : Nat} {d : DataW H} {p : List MemPlace} (h : DataW.Trod enc Try.prog W 0 (fun _ => true) true 22 (.slice a len cap) d p) :
    ∃ (fs : List Fld) (fb fo : Nat), fs.length = len ∧ Fields W fb fo fs ∧ (0 < fs.length → a = some ⟨fb, fo, none⟩) ∧ fs.length ≤ 9223372036854775807 ∧ roomF fs ≤ 42 * Rows.uptoBulk d := by
  obtain ⟨fuel, hf⟩ := h
  rcases open_slice Try.underlying22 hf with ⟨hcs, hx⟩ | ⟨x, l, c, m, n, D, Pl, hcs, _, hl, hm, hmm, hx, hr⟩
  · simp [Value.cells] at hcs
    obtain ⟨rfl, rfl, rfl⟩ := hcs
    exact ⟨[], 0, 0, rfl, ⟨fun i f hf => (by simp at hf), fun i f hf => (by simp at hf), fun i f hf => (by simp at hf), fun i f hf => (by simp at hf), fun f hf => (by cases hf)⟩, fun h => (by simp at h), by simp, by simp [roomF]⟩
  · simp [Value.cells] at hcs
    obtain ⟨rfl, rfl, rfl⟩ := hcs
    simp only [if_true] at hmm
    subst hmm
    simp only [Prod.mk.injEq] at hx
    obtain ⟨hd, _⟩ := hx
    rw [cells31] at hr
    have each : ∀ r, r < len → ∃ f : Fld, W.cell? ((x.add (r * 4)).add 0) = some (.int .i64 f.K) ∧ W.cell? ((x.add (r * 4)).add 1) = some (.int .u64 (f.N : Int)) ∧ W.cell? ((x.add (r * 4)).add 2) = some (.string f.S) ∧ W.cell? ((x.add (r * 4)).add 3) = some (.int .i64 f.M) ∧ f.N < 18446744073709551616 ∧ 42 + f.S.size ≤ 42 * Rows.uptoBulk (D r) := by
      intro r hlt
      obtain ⟨cs', h1, h2⟩ := hr r (by omega)
      exact field_in h1 h2
    obtain ⟨y, hy⟩ := choose_lt each
    have hcap : len ≤ 9223372036854775807 := by unfold maxLen at hm; omega
    obtain ⟨fb, fo, hpx⟩ : ∃ fb fo, 0 < len → x = ⟨fb, fo, none⟩ := by
      by_cases h0 : 0 < len
      · have hc := (hy 0 h0).1
        obtain ⟨b', o', sp⟩ := x
        have hspot : sp = none := by simpa [Addr.add] using World.cell?_spot hc
        subst hspot
        exact ⟨b', o', fun _ => rfl⟩
      · exact ⟨0, 0, fun h => absurd h h0⟩
    have at_ : ∀ i f, ((List.range len).map y)[i]? = some f → i < len ∧ f = y i := fun i f hf => by
      have hi : i < len := by have := (List.getElem?_eq_some_iff.1 hf).1; simpa using this
      simp [hi] at hf
      exact ⟨hi, hf.symm⟩
    refine ⟨(List.range len).map y, fb, fo, by simp, ⟨?_, ?_, ?_, ?_, ?_⟩, fun h => ?_, by simp; omega, ?_⟩
    · intro i f hf
      obtain ⟨hi, rfl⟩ := at_ i f hf
      have h := (hy i hi).1
      rw [hpx (by omega), Addr.add_mid, Addr.add_mid, Nat.add_zero] at h
      exact h
    · intro i f hf
      obtain ⟨hi, rfl⟩ := at_ i f hf
      have h := (hy i hi).2.1
      rw [hpx (by omega), Addr.add_mid, Addr.add_mid] at h
      exact h
    · intro i f hf
      obtain ⟨hi, rfl⟩ := at_ i f hf
      have h := (hy i hi).2.2.1
      rw [hpx (by omega), Addr.add_mid, Addr.add_mid] at h
      exact h
    · intro i f hf
      obtain ⟨hi, rfl⟩ := at_ i f hf
      have h := (hy i hi).2.2.2.1
      rw [hpx (by omega), Addr.add_mid, Addr.add_mid] at h
      exact h
    · intro f hf
      simp only [List.mem_map, List.mem_range] at hf
      obtain ⟨i, hi, rfl⟩ := hf
      exact (hy i hi).2.2.2.2.1
    · rw [hpx (by simpa using h)]
    · rw [hd]
      have := bulk_fields (List.range len) D y (fun r hrr => (hy r (by simpa using hrr)).2.2.2.2.2)
      simp only [Rows.uptoBulk]
      omega
end Go.Proofs.Ytjaplfdcdokhfaa
