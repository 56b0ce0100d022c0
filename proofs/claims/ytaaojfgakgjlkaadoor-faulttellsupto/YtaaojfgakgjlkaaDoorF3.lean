/-
  Unwrap, listed.
-/
import Derived.Test.YtaaojfgakgjlkaaDoorF1
namespace Go.Proofs.YtaaojfgakgjlkaaDoor
open Go.RowKit

set_option maxHeartbeats 400000 in
theorem funwrap_any (b : Nat) (x y ev : Value) (w : World) (h : w.heap[b]? = some (.cells #[x, y, ev] 47 (0, 0))) :
    Calls Tryd.prog 17 #[.pointer (some ⟨b, 0, none⟩)] w fun e w' => e = .returned ev ∧ w' = w := by
  obtain ⟨_, _, c2⟩ := cell_row3 h
  clear h
  go_enter Tryd.func17, Tryd.ntmps17
  go_wp2_with fail
  go_ret
  exact ⟨rfl, rfl⟩
theorem size30 : (∀ w, (Go.sizeOf 30).run Tryd.prog w = .ok 1 w) := fun w => by kernel_rfl
set_option maxHeartbeats 400000 in
theorem lunwrap_any (b g cap : Nat) (vs : List Value) (w : World) (h : w.heap[b]? = some (.cells #[.slice (some ⟨g, 0, none⟩) vs.length cap] 65 (0, 0))) (hc : ∀ (j : Nat) u, vs[j]? = some u → w.cell? ⟨g, j, none⟩ = some u) (h1 : ∀ u ∈ vs, u.oneCell' = true) (hl : vs.length ≤ 100000000) (h0 : 0 < vs.length) :
    Calls Tryd.prog 29 #[.pointer (some ⟨b, 0, none⟩)] w fun e w' => ∃ g3 cap3 cur, e = .returned (.slice (some ⟨g3, 0, none⟩) vs.length cap3) ∧ vs.length ≤ cap3 ∧ cap3 ≤ 9223372036854775807 ∧ w.heap.size ≤ g3 ∧ w'.heap[g3]? = some (.cells cur 30 (0, 0)) ∧ cur.toList.take vs.length = vs ∧ Below w.heap.size w w' := by
  obtain ⟨i30, hi30, hz0, hz1, hz2⟩ := info_parts info30
  have c0 : w.cell? ⟨b, 0, none⟩ = some (.slice (some ⟨g, 0, none⟩) vs.length cap) := by rw [cell_of_row w b 0 _ _ (0, 0) h]; rfl
  have HC := hid_in (Tryd.slices_Clone i30 _ 1 16 hi30 hz0 hz1 hz2 rfl (by decide) size30 g 0 vs.length cap vs w (by omega) (by unfold maxLen; omega) (by omega) (fun j u hu => by rw [Nat.zero_add]; exact hc j u hu) h1)
  have H0 := hid_in h0
  clear h hc h1
  go_enter Tryd.func29, Tryd.ntmps29
  go_wp2_with (first
    | (go_at_call 38; refine HC.out.mono ?_; rintro e w1 ⟨v1, rfl, ho, _, hb⟩; have HO := hid_in ho; have HB := hid_in hb; clear ho hb))
  go_ret
  rcases HO.out.2 with ⟨_, hx⟩ | ⟨g3, cap3, cur, rfl, hgb, hgr, hgc, hgm, hgs, hgt⟩
  · exact absurd hx (by have := H0.out; omega)
  · exact ⟨g3, cap3, cur, rfl, hgc, by unfold maxLen at hgm; omega, hgb, hgr, by simpa using hgt, HB.out⟩
end Go.Proofs.YtaaojfgakgjlkaaDoor
