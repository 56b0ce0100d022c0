/-
  The walks of bytes.Clone, slices.Grow (of nothing) and slices.Concat.
-/
import Derived.Test.YtbccjomnfclkdaaS2
namespace Go.Proofs.Ytbccjomnfclkdaa
open Go.RowKit
theorem own_empty (w : World) : (w.alloc (.cells #[] 5)).ownsRow w.heap.size 5 1 (.slice (some ⟨w.heap.size, 0, none⟩) 0 0) 0 [] :=
  World.ownsRow_made (base := w.heap.size) (e := 5) (size := 1) w #[] 0 (Nat.le_refl _) (by simp) rfl
/-- the cells of a slice of bytes, as append asks for them -/
theorem Sl.news {w : World} {p : Option Addr} {bs : List Nat} {cap b off : Nat} (h : Sl w p bs cap b off) : ∀ ad, p = some ad → ∀ j u, (bs.map u8v)[j]? = some u → w.cell? (ad.add j) = some u := by
  intro ad hpa j u hu
  have hj : j < bs.length := by simpa using (List.getElem?_eq_some_iff.1 hu).1
  obtain rfl : ad = ⟨b, off, none⟩ := by have := h.at_ (by omega); rw [hpa] at this; exact Option.some.inj this
  rw [Addr.add_mid, h.src j hj]
  simp [hj] at hu
  rw [← hu]
  simp [hj]
theorem nil_yes (w : World) : (binOp .eql 33 (.slice none 0 0) (.slice none 0 0)).run Try.prog w = .ok (.bool true) w := by kernel_rfl
theorem nil_no (ad : Addr) (n c : Nat) (w : World) : (binOp .eql 33 (.slice (some ad) n c) (.slice none 0 0)).run Try.prog w = .ok (.bool false) w := by kernel_rfl
theorem i5h : ∃ i5i, Hid (Try.prog.info? 5 = some i5i) ∧ Hid (i5i.size = 1) ∧ Hid (i5i.bytes = 1) ∧ Hid (i5i.zero = some (.int .u8 0)) := by
  obtain ⟨i5i, hi5, he5⟩ := Option.map_eq_some_iff.1 i5
  simp only [Prod.mk.injEq] at he5
  obtain ⟨e1, e2, e3⟩ := he5
  exact ⟨i5i, hi5, e1, e2, e3⟩
set_option maxHeartbeats 400000 in
theorem clone_any (bs : List Nat) (p : Option Addr) (cap b off : Nat) (w : World) (hsl : Sl w p bs cap b off) (hno : p = none → bs.length = 0 ∧ cap = 0) (hre : bs.length ≤ 140737488355328) :
    Calls Try.prog 42 #[.slice p bs.length cap] w fun e w' => ∃ v, e = .returned v ∧ w'.ownsRow w.heap.size 5 1 v bs.length (bs.map u8v) ∧ Below w.heap.size w w' := by
  obtain ⟨i5i, HI5, HE1, HE2, HE3⟩ := i5h
  rcases p with _ | ad
  · obtain ⟨h0, h1⟩ := hno rfl
    have hb0 : bs = [] := List.eq_nil_of_length_eq_zero h0
    subst hb0
    obtain rfl := h1
    have hnil := nil_yes w
    go_enter Try.func42, Try.ntmps42
    go_wp2
    go_ret
    exact ⟨_, rfl, World.ownsRow_nil _ _ _ _, Below.refl _ _⟩
  · have hown0 := own_empty w
    have hb0 : Below w.heap.size w (w.alloc (.cells #[] 5)) := (Below.refl _ _).alloc (Nat.le_refl _) _
    have hsrc0 := (hsl.below hb0).news
    have hl0 : (bs.map u8v).length = bs.length := by simp
    have hBs : w.heap.size ≤ (w.alloc (.cells #[] 5)).heap.size := by simp
    have hf0 : 0 + bs.length ≤ 140737488355328 := by omega
    have hnil := nil_no ad bs.length cap w
    clear hsl
    go_enter Try.func42, Try.ntmps42
    go_wp2_with (at_builtin; refine wpList_append_any rfl _ _ 33 rfl w.heap.size 5 i5i (.int .u8 0) Try.underlying33 HI5.out HE3.out HE1.out HE2.out rfl _ 0 [] rfl hown0 (some ad) bs.length cap (bs.map u8v) rfl hl0 hno hsrc0 (one_u8 bs) hf0 hBs ?_; intro v1 w1 hown1 hg1)
    go_ret
    rw [Nat.zero_add, List.nil_append] at hown1
    exact ⟨_, rfl, hown1, own_step hb0 hg1 hBs rfl hown0⟩
end Go.Proofs.Ytbccjomnfclkdaa
