/-
  awake.
-/
import Derived.Test.YtaaojfgakgjlkaaDoorG3
namespace Go.Proofs.YtaaojfgakgjlkaaDoor
open Go.RowKit

set_option maxHeartbeats 4000000 in
set_option maxRecDepth 100000 in
theorem path_two (b1 b2 : Nat) (x1 x2 : Value) (k : Int) (w : World) (h1 : w.heap[b1]? = some (.cells #[x1, .string { data := #[] }, .iface 42 (.pointer (some ⟨b2, 0, none⟩))] 47 (0, 0))) (h2 : w.heap[b2]? = some (.cells #[x2, .string { data := #[47, 97] }, .iface 31 (.int .i64 k)] 47 (0, 0))) :
    Calls Tryd.prog 11 #[.iface 42 (.pointer (some ⟨b1, 0, none⟩))] w fun e w' => e = .returned (.string { data := #[47, 97] }) ∧ Below w.heap.size w w' := by
  have HF := hid_in (faults_two b1 b2 _ _ _ _ k w h1 h2)
  have H1 : Hid (∀ W, Below w.heap.size w W → W.cell? ⟨b1, 1, none⟩ = some (.string { data := #[] })) := fun W hW => (hW.cell (p := ⟨b1, 1, none⟩) (Array.getElem?_eq_some_iff.1 h1).1).trans (cell_row3 h1).2.1
  have H2 : Hid (∀ W, Below w.heap.size w W → W.cell? ⟨b2, 1, none⟩ = some (.string { data := #[47, 97] })) := fun W hW => (hW.cell (p := ⟨b2, 1, none⟩) (Array.getElem?_eq_some_iff.1 h2).1).trans (cell_row3 h2).2.1
  clear h1 h2
  go_enter Tryd.func11, Tryd.ntmps11
  go_wp2_with (first
    | (go_at_call 26; refine HF.out.mono ?_; rintro e w1 ⟨g, cap, rfl, hc1, hc2, d0, d1, hb1⟩; have e1 := H1.out w1 hb1; have e2 := H2.out w1 hb1; have HB1 := hid_in hb1; clear hb1 HF))
  refine wp_loop_rounds 3 ?_
  rw [rounds_succ]
  go_wp2_with fail
  rw [rounds_succ]
  go_wp2_with fail
  rw [rounds_succ]
  go_wp2_with fail
  go_ret
  exact ⟨rfl, HB1.out⟩
def tDo : Tr := .flt [100, 111] [] (.flt [119, 114, 105, 116, 101] [47, 97] (.num 134))
theorem text_do : B (textS tDo) = { data := #[100, 111, 58, 32, 119, 114, 105, 116, 101, 32, 47, 97, 58, 32, 118, 101, 110, 101, 101, 114, 58, 32, 101, 114, 114, 111, 114, 32, 49, 51, 52] } := by decide +kernel
theorem len_do : (textS tDo).length ≤ 140737488355328 := by decide +kernel
set_option maxHeartbeats 4000000 in
set_option maxRecDepth 100000 in
theorem awake_any (w : World) (hg : w.cell? ⟨0, 0, none⟩ = some (.iface 87 (.agg #[.pointer (some ⟨4, 30, none⟩)]))) (ht : Tab w.heap.size w) :
    Calls Tryd.prog 5 #[] w fun e w' => e = .returned (.bool true) ∧ Below w.heap.size w w' := by
  obtain ⟨W2, HW2⟩ : ∃ W2, Hid ((w.alloc (.cells #[.string { data := #[119, 114, 105, 116, 101] }, .string { data := #[47, 97] }, .iface 31 (.int .i64 134)] 47)).alloc (.cells #[.string { data := #[100, 111] }, .string { data := #[] }, .iface 42 (.pointer (some ⟨w.heap.size, 0, none⟩))] 47) = W2) := ⟨_, rfl⟩
  have HB2 : Hid (Below w.heap.size w W2) := by show Below _ _ _; rw [← HW2.out]; exact ((Below.refl _ _).alloc (Nat.le_refl _) _).alloc (by simp) _
  have hs2 : W2.heap.size = w.heap.size + 2 := by rw [← HW2.out]; simp
  have r2 : W2.heap[w.heap.size]? = some (.cells #[.string { data := #[119, 114, 105, 116, 101] }, .string { data := #[47, 97] }, .iface 31 (.int .i64 134)] 47 (0, 0)) := by rw [← HW2.out]; exact heap_mid w _ _ _ rfl
  have r1 : W2.heap[w.heap.size + 1]? = some (.cells #[.string { data := #[100, 111] }, .string { data := #[] }, .iface 42 (.pointer (some ⟨w.heap.size, 0, none⟩))] 47 (0, 0)) := by
    rw [← HW2.out]
    have := World.alloc_heap_new (w.alloc (.cells #[.string { data := #[119, 114, 105, 116, 101] }, .string { data := #[47, 97] }, .iface 31 (.int .i64 134)] 47)) (.cells #[.string { data := #[100, 111] }, .string { data := #[] }, .iface 42 (.pointer (some ⟨w.heap.size, 0, none⟩))] 47)
    rw [show (w.alloc (.cells #[.string { data := #[119, 114, 105, 116, 101] }, .string { data := #[47, 97] }, .iface 31 (.int .i64 134)] 47)).heap.size = w.heap.size + 1 by simp] at this
    exact this
  have hlt : 0 < w.heap.size := by have := ht.1; omega
  have hE : IsE W2.heap.size W2 tDo (.iface 42 (.pointer (some ⟨w.heap.size + 1, 0, none⟩))) := by
    unfold tDo IsE
    refine ⟨w.heap.size + 1, _, rfl, by omega, r1, ?_⟩
    unfold IsE
    exact ⟨w.heap.size, _, rfl, by omega, r2, by unfold IsE; exact ⟨rfl, by decide, by decide⟩⟩
  have htw : Tab W2.heap.size W2 := ⟨by have := ht.1; omega, (ht.below HB2.out).2⟩
  have HT := hid_in (text_any (some tDo) W2.heap.size _ W2 hE (Nat.le_refl _) htw len_do)
  simp only [textO, text_do] at HT
  have HCO : Hid (∀ W, Below W2.heap.size W2 W → Calls Tryd.prog 10 #[.iface 42 (.pointer (some ⟨w.heap.size + 1, 0, none⟩))] W fun e w' => e = .returned (.int .i64 134) ∧ Below W.heap.size W w') := fun W hW => code_two _ _ _ _ _ _ 134 W ((hW.cell (p := ⟨0, 0, none⟩) (by show 0 < _; omega)).trans ((HB2.out.cell (p := ⟨0, 0, none⟩) hlt).trans hg)) ((hW.block _ (by omega)).trans r1) ((hW.block _ (by omega)).trans r2)
  have HPA : Hid (∀ W, Below W2.heap.size W2 W → Calls Tryd.prog 11 #[.iface 42 (.pointer (some ⟨w.heap.size + 1, 0, none⟩))] W fun e w' => e = .returned (.string { data := #[47, 97] }) ∧ Below W.heap.size W w') := fun W hW => path_two _ _ _ _ 134 W ((hW.block _ (by omega)).trans r1) ((hW.block _ (by omega)).trans r2)
  clear hg ht hE htw r1 r2 hs2
  go_enter Tryd.func5, Tryd.ntmps5
  go_wp2_with (first
    | (go_at_call 21; have hx := HB5.out; refine (new_ok _ _ _).mono ?_; rintro e w' ⟨rfl, hw⟩; subst hw; clear hx)
    | (go_at_call 21; refine (new_err _ _ 134 (by decide) _).mono ?_; rintro e w' ⟨rfl, hw⟩; subst hw)
    | (go_at_call 20; refine (wrap_some _ _ _ _).mono ?_; rintro e w' ⟨rfl, hw⟩; obtain rfl := hw.trans HW2.out; clear hw)
    | (go_at_call 14; refine HT.out.mono ?_; rintro e w3 ⟨rfl, hb3⟩; have HB3 := hid_in hb3; clear hb3)
    | (go_at_call 10; refine (HCO.out _ HB3.out).mono ?_; rintro e w4 ⟨rfl, hb4⟩; have HB4 := hid_in (HB3.out.trans (hb4.mono HB3.out.size)); clear hb4)
    | (go_at_call 11; refine (HPA.out _ HB4.out).mono ?_; rintro e w5 ⟨rfl, hb5⟩; have HB5 := hid_in (HB4.out.trans (hb5.mono HB4.out.size)); clear hb5))
  go_ret
  exact ⟨rfl, HB2.out.trans (HB5.out.mono HB2.out.size)⟩
end Go.Proofs.YtaaojfgakgjlkaaDoor
