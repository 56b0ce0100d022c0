/-
  The reference's Check, of any node.
-/
import Derived.Test.YtbccjomnfclkdaaN19
namespace Go.Proofs.Ytbccjomnfclkdaa
open Go.RowKit
theorem rcheck_any (w : World) (v : Value) (n : Nd) (h : IsN w v n) (hs : n.short) : Calls Try.prog 12 #[v] w fun e w' => Says e (right n) ∧ Below w.heap.size w w' := by
  obtain ⟨vp, vi, hv, hp, hi⟩ := h.ex
  obtain ⟨pp, cp, pi, ci, hform⟩ := h.form
  rw [hv] at hform
  simp only [Value.agg.injEq, Array.mk.injEq, List.cons.injEq, and_true, true_and] at hform
  obtain ⟨rfl, rfl⟩ := hform
  rw [hv]
  have e0 : n.parts.length = 0 ↔ n.parts = [] := List.length_eq_zero_iff
  have e1 : n.items.length = 0 ↔ n.items = [] := List.length_eq_zero_iff
  by_cases h1 : n.kind = 1
  · rw [h1]
    refine (rcheck_chunk w n.size n.data n.parts.length n.items.length cp ci pp pi).mono ?_
    rintro e w' ⟨hsay, hb⟩
    refine ⟨hsay.mono ?_, hb⟩
    unfold right
    rw [e0, e1, h1]
    simp
  · by_cases h3 : n.kind = 3
    · rw [h3]
      refine (rcheck_dir w n.size n.data n.parts.length cp ci pp pi n.items hi h.ok.items hs.2).mono ?_
      rintro e w' ⟨hsay, hb⟩
      refine ⟨hsay.mono ?_, hb⟩
      unfold right
      rw [e0, h3]
      simp
    · refine (rcheck_file w n.kind n.size n.data n.parts.length n.items.length cp ci pp pi h1 h3).mono ?_
      rintro e w' ⟨hsay, hb⟩
      refine ⟨hsay.mono ?_, hb⟩
      unfold right
      rw [e1]
      simp [h1, h3]
end Go.Proofs.Ytbccjomnfclkdaa
