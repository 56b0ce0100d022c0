/-
  What the statements' proofs have in common: a slice of bytes that comes in, and how long it can be.
-/
import Derived.Test.YtbccjomnfclkdaaN16
import Derived.ProofKit
import Derived.OpenShut
import Derived.ShutString
import Derived.ChangeOld
import Derived.Deep.DeepHandedRow
import Derived.SizedLaws
import Derived.Lib.LaidTab
namespace Go.Proofs.Ytbccjomnfclkdaa
open Go.ChangeShapes Go.WideShapes Go.ChangeAt Go.RowKit

theorem own : ownKnob Try.prog.godebug = none := by kernel_rfl
theorem laidOut : laidOutB Try.prog = true := by kernel_rfl
/-- what is told of a slice of bytes that came in -/
def IsRow (w : World) (a : Option Addr) (len cap : Nat) (zs : List Int) : Prop :=
  (a = none ∧ len = 0 ∧ cap = 0 ∧ zs = []) ∨
  ∃ x, a = some x ∧ len ≤ cap ∧ cap ≤ maxLen ∧ zs.length = cap ∧ (∀ i, i < zs.length → w.cell? (x.add i) = some (.int .u8 (zs.getD i 0))) ∧ ∀ n ∈ zs, (Lit.int .u8 n).wf = true
theorem sl_of {w : World} {a : Option Addr} {len cap : Nat} {zs : List Int} (h : IsRow w a len cap zs) : ∃ bs b off, bs.length = len ∧ Sl w a bs cap b off := by
  rcases h with ⟨rfl, rfl, rfl, rfl⟩ | ⟨x, rfl, h1, h2, h3, h4, h5⟩
  · exact ⟨[], 0, 0, rfl, ⟨by simp, by simp, by omega, fun h => by simp at h, fun j hj => by simp at hj⟩⟩
  · have h2' : cap ≤ 9223372036854775807 := by unfold maxLen at h2; omega
    have hl : ((zs.take len).map Int.toNat).length = len := by simp; omega
    have hb : ∀ y ∈ (zs.take len).map Int.toNat, y < 256 := by
      intro y hy
      simp only [List.mem_map] at hy
      obtain ⟨n, hn, rfl⟩ := hy
      have := bounds_u8 (h5 n (List.mem_of_mem_take hn))
      omega
    by_cases hp : 0 < zs.length
    · obtain ⟨b, off, rfl, hc⟩ := ints_at h4 hp
      refine ⟨_, b, off, hl, ⟨hb, by omega, h2', fun _ => rfl, fun j hj => ?_⟩⟩
      rw [hl] at hj
      rw [hc j (by omega)]
      have hz : j < zs.length := by omega
      have hbd := bounds_u8 (h5 zs[j] (List.getElem_mem hz))
      have e : (((zs.take len).map Int.toNat).getD j 0 : Nat) = (zs.getD j 0).toNat := by
        simp [hj, hz]
      unfold u8v
      rw [e]
      simp [hz]
      omega
    · refine ⟨_, 0, 0, hl, ⟨hb, by omega, h2', fun h => by omega, fun j hj => by omega⟩⟩

theorem slice_in {H : Type} {enc : TypeId × Value → H} {W : World} {a : Option Addr} {len cap : Nat} {d : DataW H} {p : List MemPlace} (h : DataW.Trod enc Try.prog W 0 (fun _ => true) true 33 (.slice a len cap) d p) : ∃ bs b off, bs.length = len ∧ Sl W a bs cap b off := by
  obtain ⟨fuel, hf⟩ := h
  rcases open_ints Try.underlying33 Try.underlying5 (by kernel_rfl) hf with ⟨hcs, _⟩ | ⟨x, l, c, zs, hcs, _, hl, hm, hz, _, hcell, hwz⟩
  · simp [Value.cells] at hcs
    obtain ⟨rfl, rfl, rfl⟩ := hcs
    exact sl_of (zs := []) (.inl ⟨rfl, rfl, rfl, rfl⟩)
  · simp [Value.cells] at hcs
    obtain ⟨rfl, rfl, rfl⟩ := hcs
    exact sl_of (.inr ⟨_, rfl, hl, hm, by simpa using hz, hcell, hwz⟩)

theorem bytes5 : Try.prog.bytesOf 5 = 1 := by kernel_rfl
theorem slice_in2 {H : Type} {enc : TypeId × Value → H} {W : World} {a : Option Addr} {len cap : Nat} {d : DataW H} {p : List MemPlace} (h : DataW.Trod enc Try.prog W 0 (fun _ => true) true 33 (.slice a len cap) d p) :
    (a = none → len = 0 ∧ cap = 0) ∧ ((d = .nil ∧ len = 0) ∨ ∃ es sp, d = .slice es sp ∧ es.length = len) := by
  obtain ⟨fuel, hf⟩ := h
  rcases open_ints Try.underlying33 Try.underlying5 (by kernel_rfl) hf with ⟨hcs, hx⟩ | ⟨x, l, c, zs, hcs, _, hl, hm, hz, hx, hcell, hwz⟩
  · simp [Value.cells] at hcs
    obtain ⟨rfl, rfl, rfl⟩ := hcs
    simp only [Prod.mk.injEq] at hx
    exact ⟨fun _ => ⟨rfl, rfl⟩, .inl ⟨hx.1, rfl⟩⟩
  · simp [Value.cells] at hcs
    obtain ⟨rfl, rfl, rfl⟩ := hcs
    simp only [Prod.mk.injEq] at hx
    refine ⟨fun h => (by cases h), .inr ⟨_, _, hx.1, ?_⟩⟩
    simp at hz
    simp [lits, hz]
    omega
theorem slice_reach {H : Type} {enc : TypeId × Value → H} {W : World} {a : Option Addr} {len cap : Nat} {d : DataW H} {p : List MemPlace} (h : DataW.Trod enc Try.prog W 0 (fun _ => true) true 33 (.slice a len cap) d p)
    {ts : List TypeId} {ds : List (DataW H)} (hsz : (DataW.weightsEach Try.prog ts ds).all (· ≤ reachBytes) = true) (j : Nat) (ht : ts[j]? = some 33) (hd : ds[j]? = some d) : len ≤ 140737488351232 := by
  obtain ⟨_, ⟨_, rfl⟩ | ⟨es, sp, rfl, rfl⟩⟩ := slice_in2 h
  · omega
  · have := sized_slice hsz ht hd Try.underlying33
    rw [bytes5] at this
    unfold reachBytes at this
    omega
end Go.Proofs.Ytbccjomnfclkdaa
