/-
  bytes.Clone.
-/
import Derived.Test.YtokjbmpiekadaaaDoorK2
import Derived.Test.YtokjbmpiekadaaaDoorR1
namespace Go.Proofs.YtokjbmpiekadaaaDoor
open Go.RowKit

theorem own_sl {w : World} {B : Nat} {v : Value} {xs : List Nat} (hlt : ∀ x ∈ xs, x < 256) (h : w.ownsRow B 5 1 v xs.length (xs.map u8v)) : ∃ p cap b, v = .slice p xs.length cap ∧ Sl w p xs cap b 0 ∧ (p = none → xs.length = 0 ∧ cap = 0) ∧ B ≤ b ∧ (0 < xs.length → T5 w b) := by
  have hh := h
  obtain ⟨hl, ⟨rfl, h0⟩ | ⟨g, cap, cur, rfl, hb, hg, h1, h2, h3, h4⟩⟩ := h
  · have hx : xs = [] := by simpa using h0
    subst hx
    exact ⟨none, 0, B, rfl, ⟨hlt, by simp, by omega, fun h => by simp at h, fun j hj => by simp at hj⟩, fun _ => ⟨rfl, rfl⟩, Nat.le_refl _, fun h => by simp at h⟩
  · refine ⟨_, cap, g, rfl, ⟨hlt, h1, by unfold maxLen at h2; omega, fun _ => rfl, fun j hj => ?_⟩, fun h => (by cases h), hb, fun _ => ⟨_, _, hg⟩⟩
    have e1 : (xs.map u8v)[j]? = some (u8v (xs.getD j 0)) := by simp [hj]
    rw [Nat.zero_add, hh.cellAt j (by omega), e1]

theorem nil_yes (w : World) : (binOp .eql 30 (.slice none 0 0) (.slice none 0 0)).run Tryd.prog w = .ok (.bool true) w := by kernel_rfl
theorem nil_no (ad : Addr) (n c : Nat) (w : World) : (binOp .eql 30 (.slice (some ad) n c) (.slice none 0 0)).run Tryd.prog w = .ok (.bool false) w := by kernel_rfl
set_option maxHeartbeats 400000 in
set_option maxRecDepth 100000 in
theorem clone_any (bs : List Nat) (p : Option Addr) (cap b off : Nat) (w : World) (hs : Sl w p bs cap b off) (hpn : p = none → bs.length = 0 ∧ cap = 0) (hre : bs.length ≤ 140737488355328) :
    Calls Tryd.prog 39 #[.slice p bs.length cap] w fun e w' => ∃ p' cap' b', e = .returned (.slice p' bs.length cap') ∧ Sl w' p' bs cap' b' 0 ∧ (p' = none → bs.length = 0 ∧ cap' = 0) ∧ w.heap.size ≤ b' ∧ (0 < bs.length → T5 w' b') ∧ Below w.heap.size w w' := by
  rcases p with _ | ad
  · obtain ⟨h0, rfl⟩ := hpn rfl
    obtain rfl : bs = [] := List.eq_nil_of_length_eq_zero h0
    clear hs hpn hre h0
    have hn := nil_yes
    go_enter Tryd.func39, Tryd.ntmps39
    go_wp2
    go_ret
    exact ⟨none, 0, w.heap.size, rfl, ⟨by simp, by simp, by omega, fun h => by simp at h, fun j hj => by simp at hj⟩, fun _ => by simp, Nat.le_refl _, fun h => by simp at h, Below.refl _ _⟩
  · obtain ⟨i5i, hi5, he5⟩ := Option.map_eq_some_iff.1 i5
    simp only [Prod.mk.injEq] at he5
    obtain ⟨e1, e2, e3⟩ := he5
    have HI5 : Hid (Tryd.prog.info? 5 = some i5i) := hi5
    have HE1 : Hid (i5i.size = 1) := e1
    have HE2 : Hid (i5i.bytes = 1) := e2
    have HE3 : Hid (i5i.zero = some (.int .u8 0)) := e3
    clear hi5 e1 e2 e3
    have hown0 : (w.alloc (.cells #[] 5)).ownsRow w.heap.size 5 1 (.slice (some ⟨w.heap.size, 0, none⟩) 0 0) 0 [] :=
      World.ownsRow_made (base := w.heap.size) (e := 5) (size := 1) w #[] 0 (Nat.le_refl _) (by simp) rfl
    have hb0 : Below w.heap.size w (w.alloc (.cells #[] 5)) := (Below.refl _ _).alloc (Nat.le_refl _) _
    have hBs : w.heap.size ≤ (w.alloc (.cells #[] 5)).heap.size := by simp
    have hsrc0 : ∀ ad', some ad = some ad' → ∀ j u, (bs.map u8v)[j]? = some u → (w.alloc (.cells #[] 5)).cell? (ad'.add j) = some u := by
      intro ad' had j u hu
      cases had
      have hj : j < bs.length := by simpa using (List.getElem?_eq_some_iff.1 hu).1
      obtain rfl : ad = ⟨b, off, none⟩ := by have := hs.at_ (by omega); exact Option.some.inj this
      have hc := hs.src j hj
      have hlt := World.block_lt_of_cell? w _ hc
      rw [Addr.add_mid, hb0.cell hlt, hc]
      simp [hj] at hu
      rw [← hu]
      simp [hj]
    have hl0 : (bs.map u8v).length = bs.length := by simp
    have hfit0 : 0 + bs.length ≤ 140737488355328 := by omega
    have HS := hid_in hs.lt
    have HF0 := hid_in hfit0
    have hn := nil_no ad
    clear hs hre hfit0
    go_enter Tryd.func39, Tryd.ntmps39
    go_wp2_with (first | (at_builtin; refine wpList_append_any rfl _ _ 30 rfl w.heap.size 5 i5i (.int .u8 0) Tryd.underlying30 HI5.out HE3.out HE1.out HE2.out rfl _ 0 [] rfl hown0 (some ad) bs.length cap (bs.map u8v) rfl hl0 hpn hsrc0 (one_u8 bs) HF0.out hBs ?_; intro v1 w1 hown1 hg1; have hb1 := own_step hb0 hg1 hBs rfl hown0; rw [Nat.zero_add, List.nil_append] at hown1))
    obtain ⟨p1, cap1, b1, rfl, hs1, hp1, hB1, hT1⟩ := own_sl HS.out hown1
    go_ret
    exact ⟨p1, cap1, b1, rfl, hs1, hp1, hB1, hT1, hb1⟩
end Go.Proofs.YtokjbmpiekadaaaDoor
