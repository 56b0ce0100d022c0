/-
  Path at a number within two faults; awake.
-/
import Derived.Test.YtaaojfgakgjlkaaDoorG2
namespace Go.Proofs.YtaaojfgakgjlkaaDoor
open Go.RowKit

set_option maxHeartbeats 1000000 in
set_option maxRecDepth 100000 in
theorem inside_flt (b : Nat) (x y : Value) (t : TypeId) (v : Value) (w : World) (h : w.heap[b]? = some (.cells #[x, y, .iface t v] 47 (0, 0))) :
    Calls Tryd.prog 34 #[.iface 42 (.pointer (some ⟨b, 0, none⟩))] w fun e w' => e = .returned (.slice (some ⟨w.heap.size, 0, none⟩) 1 1) ∧ w' = w.alloc (.cells #[.iface t v] 30) := by
  obtain ⟨_, _, c2⟩ := cell_row3 h
  have t1 := ta42_42
  clear h
  go_enter Tryd.func34, Tryd.ntmps34
  go_wp2_with fail
  go_ret
  exact ⟨rfl, rfl⟩
set_option maxHeartbeats 1000000 in
set_option maxRecDepth 100000 in
theorem inside_num (v : Value) (w : World) : Calls Tryd.prog 34 #[.iface 31 v] w fun e w' => e = .returned (.slice none 0 0) ∧ w' = w := by
  have t1 := ta31_42
  have t2 := ta31_44
  go_enter Tryd.func34, Tryd.ntmps34
  go_wp2_with fail
  go_ret
  exact ⟨rfl, rfl⟩
theorem grown_cell {W w2 : World} {v : Value} {t : TypeId} {Y : Obj} {o : Option Nat} (h : ((W.alloc (.cells #[v] t)).alloc Y).grownBy w2 o) (hne : some W.heap.size ≠ o) : w2.cell? ⟨W.heap.size, 0, none⟩ = some v := by
  have := (h.block W.heap.size (by simp; omega) hne).trans (heap_mid W _ Y _ rfl)
  rw [cell_of_row _ _ _ _ _ (0, 0) this]
  rfl
theorem two_row {W : World} {base g cap : Nat} {a b : Value} (h : W.ownsRow base 42 1 (.slice (some ⟨g, 0, none⟩) 2 cap) 2 [a, b]) : 2 ≤ cap ∧ cap ≤ 9223372036854775807 ∧ g < W.heap.size ∧ W.cell? ⟨g, 0, none⟩ = some a ∧ W.cell? ⟨g, 1, none⟩ = some b := by
  rcases h.2 with ⟨hx, _⟩ | ⟨g', c', cur, hv, hgb, hgr, hgc, hgm, hgs, hgt⟩
  · cases hx
  · cases hv
    have e : ∀ (j : Nat) u, [a, b][j]? = some u → W.cell? ⟨g, j, none⟩ = some u := fun j u hu => by
      have hj := (List.getElem?_eq_some_iff.1 hu).1
      rw [cell_of_row W g j _ _ (0, 0) hgr]
      rw [← hgt, List.getElem?_take, if_pos (by simpa using hj), Array.getElem?_toList] at hu
      exact hu
    exact ⟨hgc, by unfold maxLen at hgm; omega, (Array.getElem?_eq_some_iff.1 hgr).1, e 0 a rfl, e 1 b rfl⟩
theorem info42 : (Tryd.prog.info? 42).map (fun i => (i.zero, i.size, i.bytes)) = some (some (.pointer none), 1, 8) := by kernel_rfl
set_option maxHeartbeats 4000000 in
set_option maxRecDepth 100000 in
theorem faults_two (b1 b2 : Nat) (x1 y1 x2 y2 : Value) (k : Int) (w : World) (h1 : w.heap[b1]? = some (.cells #[x1, y1, .iface 42 (.pointer (some ⟨b2, 0, none⟩))] 47 (0, 0))) (h2 : w.heap[b2]? = some (.cells #[x2, y2, .iface 31 (.int .i64 k)] 47 (0, 0))) :
    Calls Tryd.prog 26 #[.iface 42 (.pointer (some ⟨b1, 0, none⟩))] w fun e w' => ∃ g cap, e = .returned (.slice (some ⟨g, 0, none⟩) 2 cap) ∧ 2 ≤ cap ∧ cap ≤ 9223372036854775807 ∧ w'.cell? ⟨g, 0, none⟩ = some (.pointer (some ⟨b1, 0, none⟩)) ∧ w'.cell? ⟨g, 1, none⟩ = some (.pointer (some ⟨b2, 0, none⟩)) ∧ Below w.heap.size w w' := by
  obtain ⟨i42, hi42, hz0, hz1, hz2⟩ := info_parts info42
  have H1 : Hid (∀ W, Below w.heap.size w W → W.heap[b1]? = some (.cells #[x1, y1, .iface 42 (.pointer (some ⟨b2, 0, none⟩))] 47 (0, 0))) := fun W hW => (hW.block b1 (Array.getElem?_eq_some_iff.1 h1).1).trans h1
  have H2 : Hid (∀ W, Below w.heap.size w W → W.heap[b2]? = some (.cells #[x2, y2, .iface 31 (.int .i64 k)] 47 (0, 0))) := fun W hW => (hW.block b2 (Array.getElem?_eq_some_iff.1 h2).1).trans h2
  have t1 := ta42_42
  have t2 := ta31_42
  clear h1 h2
  go_enter Tryd.func26, Tryd.ntmps26
  go_wp2_with fail
  refine wp_loop_rounds 4 ?_
  rw [rounds_succ]
  go_wp2_with (first
    | (at_builtin; refine wpList_append_lies _ rfl _ _ 61 rfl w.heap.size 42 i42 (.pointer none) 1 8 Tryd.underlying61 hi42 hz0 hz1 hz2 rfl (by decide) (.slice none 0 0) 0 [] rfl (World.ownsRow_nil _ _ _ _) ⟨w.heap.size + 1, 0, none⟩ 1 1 [.pointer (some ⟨b1, 0, none⟩)] rfl rfl (cell_new' _ _ _ _ (by simp)) (by simp [Value.oneCell']) (by decide) (by unfold maxLen; omega) (by decide) (by simp; omega) (w.heap.size + 1 + 1) (by simp) ?_; intro g cap' w1 hown' hgrow hgg hgl; have HB1 := hid_in ((((Below.refl w.heap.size w).alloc (Nat.le_refl _) _).alloc (by simp) _).grown hgrow (by simp; omega) (fun k e => by simp [Value.ownBlock] at e)); have c1 := grown_cell hgrow (by simp [Value.ownBlock]); have HO := hid_in hown'; have hs1 := HB1.out.size; have hl1 := own_lt hown' g rfl; clear hown' hgrow hgg hgl)
    | (go_at_call 34; refine (inside_flt b1 x1 y1 42 _ w1 (H1.out _ HB1.out)).mono ?_; rintro e w' ⟨rfl, hw⟩; subst hw))
  rw [rounds_succ]
  have hb2 : Below w.heap.size w (w1.alloc (.cells #[.iface 42 (.pointer (some ⟨b2, 0, none⟩))] 30)) := HB1.out.alloc hs1 _
  have HB2 := hid_in hb2
  clear hb2
  go_wp2_with (first
    | (at_builtin; refine wpList_append_lies _ rfl _ _ 61 rfl w.heap.size 42 i42 (.pointer none) 1 8 Tryd.underlying61 hi42 hz0 hz1 hz2 rfl (by decide) (.slice (some ⟨g, 0, none⟩) 1 cap') 1 [.pointer (some ⟨b1, 0, none⟩)] rfl ((HO.out.alloc _).alloc _) ⟨w1.heap.size + 1, 0, none⟩ 1 1 [.pointer (some ⟨b2, 0, none⟩)] rfl rfl (cell_new' _ _ _ _ (by simp)) (by simp [Value.oneCell']) (by decide) (by unfold maxLen; omega) (by decide) (by simp; omega) (w1.heap.size + 1 + 1) (by simp) ?_; intro g2 cap2 w2 hown' hgrow hgg hgl; have HB3 := hid_in ((HB2.out.alloc (by simp; omega) _).grown hgrow (by simp; omega) (fun k e => own_ge HO.out k e)); have c2 := grown_cell hgrow (by simp [Value.ownBlock]; omega); have HO2 := hid_in hown'; have hs2 := HB3.out.size; clear hown' hgrow hgg hgl)
    | (go_at_call 34; refine (inside_flt b2 x2 y2 31 _ w2 (H2.out _ HB3.out)).mono ?_; rintro e w' ⟨rfl, hw⟩; subst hw))
  rw [rounds_succ]
  go_wp2_with (first
    | (go_at_call 34; refine (inside_num _ _).mono ?_; rintro e w' ⟨rfl, hw⟩; subst hw))
  rw [rounds_succ]
  go_wp2_with fail
  go_ret
  obtain ⟨ca, cb, c9, d0, d1⟩ := two_row HO2.out
  have hba : Below w2.heap.size w2 (w2.alloc (.cells #[.iface 31 (.int .i64 k)] 30)) := (Below.refl _ _).alloc (Nat.le_refl _) _
  exact ⟨g2, cap2, rfl, ca, cb, (hba.cell (p := ⟨g2, 0, none⟩) c9).trans d0, (hba.cell (p := ⟨g2, 1, none⟩) c9).trans d1, HB3.out.alloc hs2 _⟩
end Go.Proofs.YtaaojfgakgjlkaaDoor
