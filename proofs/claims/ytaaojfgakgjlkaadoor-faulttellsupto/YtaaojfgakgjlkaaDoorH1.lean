/-
  FaultKinds: what a pile holds, as the law sees it.
-/
import Derived.Test.YtaaojfgakgjlkaaDoorF4
import Derived.Test.YtaaojfgakgjlkaaDoorG4
import Derived.Test.YtaaojfgakgjlkaaDoorH0
namespace Go.Proofs.YtaaojfgakgjlkaaDoor
open Go.RowKit

theorem pileP_view {W : World} {base : Nat} {v : Value} {os : List (Option Tr)} (h : PileP W base v os) : ∃ (p : Option Addr) (g c : Nat) (us : List Value), v = .slice p os.length c ∧ us.length = os.length ∧ (0 < os.length → p = some ⟨g, 0, none⟩ ∧ os.length ≤ c ∧ c ≤ 9223372036854775807 ∧ g < W.heap.size) ∧ (∀ (j : Nat) u, us[j]? = some u → W.cell? ⟨g, j, none⟩ = some u) ∧ (∀ (j : Nat) o u, os[j]? = some o → us[j]? = some u → IsO W.heap.size W o u ∧ ∀ T, o = some T → Fit T) := by
  obtain ⟨us, hown, hlen, hare⟩ := h
  have hA : ∀ (j : Nat) o u, os[j]? = some o → us[j]? = some u → IsO W.heap.size W o u ∧ ∀ T, o = some T → Fit T := fun j o u h1 h2 =>
    ⟨isOA_to (fun b hb => hb.2.1) (hare j o u h1 h2), fun T hT => by subst hT; exact isA_fit T u (hare j _ u h1 h2)⟩
  rcases hown.2 with ⟨rfl, h0⟩ | ⟨g, c, cur, rfl, hgb, hgr, hgc, hgm, hgs, hgt⟩
  · have he : us = [] := List.eq_nil_of_length_eq_zero h0
    refine ⟨none, 0, 0, us, by rw [← hlen, h0], hlen, fun h => by omega, fun j u hu => by rw [he] at hu; simp at hu, hA⟩
  · refine ⟨_, g, c, us, by rw [← hlen], hlen, fun _ => ⟨rfl, by omega, by unfold maxLen at hgm; omega, (Array.getElem?_eq_some_iff.1 hgr).1⟩, fun j u hu => ?_, hA⟩
    have hj := (List.getElem?_eq_some_iff.1 hu).1
    rw [cell_of_row W g j _ _ (0, 0) hgr]
    have h1 : (cur.toList.take (us.length * 1))[j]? = us[j]? := by rw [hgt]
    rw [Nat.mul_one, List.getElem?_take, if_pos hj, Array.getElem?_toList] at h1
    rw [h1, hu]
theorem pileR_view {W : World} {base : Nat} {v : Value} {os : List (Option Tr)} (h : PileR W base v os) : ∃ (p : Option Addr) (g c : Nat) (uss : List (List Value)), v = .slice p os.length c ∧ uss.length = os.length ∧ (0 < os.length → p = some ⟨g, 0, none⟩ ∧ os.length ≤ c ∧ c ≤ 9223372036854775807 ∧ g < W.heap.size) ∧ (∀ (j y : Nat) us u, uss[j]? = some us → us[y]? = some u → W.cell? ⟨g, j * 5 + y, none⟩ = some u) ∧ (∀ (j : Nat) o us, os[j]? = some o → uss[j]? = some us → IsRO W.heap.size W o us ∧ us.length = 5) := by
  obtain ⟨uss, hown, hlen, hare⟩ := h
  have h5 := five_all hlen hare
  have hA : ∀ (j : Nat) o us, os[j]? = some o → uss[j]? = some us → IsRO W.heap.size W o us ∧ us.length = 5 := fun j o us h1 h2 => ⟨isROA_to (fun b hb => hb.2.1) (hare j o us h1 h2), isROA_len (hare j o us h1 h2)⟩
  rcases hown.2 with ⟨rfl, h0⟩ | ⟨g, c, cur, rfl, hgb, hgr, hgc, hgm, hgs, hgt⟩
  · have he : uss = [] := List.eq_nil_of_length_eq_zero h0
    exact ⟨none, 0, 0, uss, by rw [← hlen, h0], hlen, fun h => by omega, fun j y us u hu => by rw [he] at hu; simp at hu, hA⟩
  · exact ⟨_, g, c, uss, by rw [← hlen], hlen, fun _ => ⟨rfl, by omega, by unfold maxLen at hgm; omega, (Array.getElem?_eq_some_iff.1 hgr).1⟩, fun j y us u h1 h2 => row_at hgr hgt h5 rfl h1 h2, hA⟩
theorem Steps.below {W W' : World} {b o : Nat} {ss : List St} (h : Steps W b o ss) (hb : Below W.heap.size W W') (hl : ss ≠ [] → b < W.heap.size) : Steps W' b o ss := by
  intro j s hs
  have hne : ss ≠ [] := by rintro rfl; simp at hs
  have hbl := hl hne
  obtain ⟨h0, h1, h2, h3, h4⟩ := h j s hs
  exact ⟨(hb.cell (p := ⟨b, o + j * 5, none⟩) hbl).trans h0, (hb.cell (p := ⟨b, o + j * 5 + 1, none⟩) hbl).trans h1, (hb.cell (p := ⟨b, o + j * 5 + 2, none⟩) hbl).trans h2, (hb.cell (p := ⟨b, o + j * 5 + 3, none⟩) hbl).trans h3, (hb.cell (p := ⟨b, o + j * 5 + 4, none⟩) hbl).trans h4⟩
theorem joinT_mem {l : List Tr} {t : Tr} (h : t ∈ l) : (textS t).length ≤ (joinT l).length := by
  obtain ⟨i, hi⟩ := List.mem_iff_getElem?.1 h
  have h1 := joinT_take hi
  have h2 := joinT_takele l (i + 1)
  rw [h1] at h2
  simp at h2
  omega
theorem kid_le {ts : TrL} {t : Tr} (h : t ∈ ts.list) : (textS t).length ≤ (textS (.lst ts)).length := by
  rw [text_lst]; exact joinT_mem h
theorem isEs_below {n : Nat} {W W' : World} (h : Below n W W') : ∀ {ts : TrL} {vs : List Value}, IsEs n W ts vs → IsEs n W' ts vs
  | .nil, [], _ => by unfold IsEs; trivial
  | .cons t ts, v :: vs, hv => by
    unfold IsEs at hv ⊢
    exact ⟨isE_below h t v hv.1, isEs_below h hv.2⟩
  | .nil, _ :: _, hv => by unfold IsEs at hv; exact hv.elim
  | .cons _ _, [], hv => by unfold IsEs at hv; exact hv.elim
theorem isRs_below {n : Nat} {W W' : World} (h : Below n W W') : ∀ {ts : TrL} {vs : List (List Value)}, IsRs n W ts vs → IsRs n W' ts vs
  | .nil, [], _ => by unfold IsRs; trivial
  | .cons t ts, v :: vs, hv => by
    unfold IsRs at hv ⊢
    exact ⟨isR_below h t v hv.1, isRs_below h hv.2⟩
  | .nil, _ :: _, hv => by unfold IsRs at hv; exact hv.elim
  | .cons _ _, [], hv => by unfold IsRs at hv; exact hv.elim
theorem ta0_42 (w : World) : (Instr.typeAssert .nilIface 30 42 true).run Tryd.prog w = .ok (.tuple #[.pointer none, .bool false]) w := by kernel_rfl
theorem ta0_44 (w : World) : (Instr.typeAssert .nilIface 30 44 true).run Tryd.prog w = .ok (.tuple #[.pointer none, .bool false]) w := by kernel_rfl
end Go.Proofs.YtaaojfgakgjlkaaDoor
