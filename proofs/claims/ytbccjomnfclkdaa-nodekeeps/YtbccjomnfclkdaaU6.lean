/-
  The walks of the reference's In: bad, Left, Flag.
-/
import Derived.Test.YtbccjomnfclkdaaU3
import Derived.Deep.RegionLaw
import Derived.Deep.DrawnRows
namespace Go.Proofs.Ytbccjomnfclkdaa
open Go.RowKit
/-- the reference's In at block g reads the bytes bs, and stands at k; what was wrong is e -/
structure RIs (B : Nat) (w : World) (g : Nat) (t : TypeId) (bs : List Nat) (k e : Nat) : Prop where
  ex : ∃ p cap b off, Row w g [.slice p bs.length cap, .int .i64 (k : Int), .int .i64 (e : Int)] t ∧ Sl w p bs cap b off ∧ (0 < bs.length → b ≠ g ∧ b < B)
  le : k ≤ bs.length
theorem RIs.len {B : Nat} {w : World} {g : Nat} {t : TypeId} {bs : List Nat} {k e : Nat} (h : RIs B w g t bs k e) : bs.length ≤ 9223372036854775807 := by
  obtain ⟨p, cap, b, off, hr, hsl, hne⟩ := h.ex
  have := hsl.cap1
  have := hsl.cap2
  omega
theorem rbad_any {B : Nat} (w : World) (g : Nat) (t : TypeId) (bs : List Nat) (k e e' : Nat) (hi : RIs B w g t bs k e) :
    Calls Try.prog 52 #[.pointer (some ⟨g, 0, none⟩), .int .i64 (e' : Int)] w fun r w' => r = .returned (.tuple #[]) ∧ RIs B w' g t bs bs.length e' ∧ w.grownBy w' (some g) ∧ w'.heap.size = w.heap.size := by
  obtain ⟨p, cap, b, off, hr, hsl, hne⟩ := hi.ex
  have c0 : w.cell? ⟨g, 0, none⟩ = some (.slice p bs.length cap) := hr.cell 0
  have c1 : w.cell? ⟨g, 1, none⟩ = some (.int .i64 (k : Int)) := hr.cell 1
  have c2 : w.cell? ⟨g, 2, none⟩ = some (.int .i64 (e : Int)) := hr.cell 2
  have f1 := hr.frozen 1
  have f2 := hr.frozen 2
  have HR := hid_in hr
  have HSL := hid_in hsl
  have HNE := hid_in hne
  clear hi hr hsl hne
  go_enter Try.func52, Try.ntmps52
  go_wp2
  go_end0
  have hg := grownBy_trans (grownBy_setCell w ⟨g, 2, none⟩ (.int .i64 (e' : Int))) (grownBy_setCell _ ⟨g, 1, none⟩ (.int .i64 (bs.length : Int)))
  refine ⟨rfl, ⟨⟨p, cap, b, off, (HR.out.set_same 2 _).set_same 1 _, HSL.out.grown hg (fun h => by simpa using (HNE.out h).1), HNE.out⟩, Nat.le_refl _⟩, hg, by simp [World.setCell]⟩
theorem rleft_any {B : Nat} (w : World) (g : Nat) (t : TypeId) (bs : List Nat) (k e : Nat) (hi : RIs B w g t bs k e) :
    Calls Try.prog 38 #[.pointer (some ⟨g, 0, none⟩)] w fun r w' => r = .returned (.int .i64 ((bs.drop k).length : Int)) ∧ w' = w.drew := by
  obtain ⟨p, cap, b, off, hr, hsl, hne⟩ := hi.ex
  have hk := hi.le
  have hl := hi.len
  have c0 : w.cell? ⟨g, 0, none⟩ = some (.slice p bs.length cap) := hr.cell 0
  have c1 : w.cell? ⟨g, 1, none⟩ = some (.int .i64 (k : Int)) := hr.cell 1
  have HV : Hid (((bs.drop k).length : Int) = (bs.length : Int) - (k : Int)) := by show _ = _; rw [List.length_drop]; omega
  rw [HV.out]
  clear hi hr hsl hne HV
  go_enter Try.func38, Try.ntmps38
  go_wp2
  go_region
  go_wp2
  go_ret
  exact ⟨rfl, rfl⟩
/-- where the In stands before a byte that is there -/
theorem ris_step {B : Nat} {w : World} {g : Nat} {t : TypeId} {bs : List Nat} {k e : Nat} {c : Nat} {r : List Nat} (hi : RIs B w g t bs k e) (hc : bs.drop k = c :: r) :
    k < bs.length ∧ bs.drop (k + 1) = r ∧ (∃ p cap b off, Row w g [.slice p bs.length cap, .int .i64 (k : Int), .int .i64 (e : Int)] t ∧ p = some ⟨b, off, none⟩ ∧ w.cell? ⟨b, off + k, none⟩ = some (.int .u8 (c : Int)) ∧ b ≠ g) ∧ RIs B (w.setCell ⟨g, 1, none⟩ (.int .i64 ((k + 1 : Nat) : Int))) g t bs (k + 1) e ∧ c < 256 := by
  obtain ⟨p, cap, b, off, hr, hsl, hne⟩ := hi.ex
  have hk : k < bs.length := by
    have := congrArg List.length hc
    simp at this
    omega
  have hd := List.drop_eq_getElem_cons hk
  rw [hc] at hd
  have h1 : c = bs[k] := (List.cons.inj hd).1
  have h2 : r = bs.drop (k + 1) := (List.cons.inj hd).2
  have hg := grownBy_setCell w ⟨g, 1, none⟩ (.int .i64 ((k + 1 : Nat) : Int))
  refine ⟨hk, h2.symm, ⟨p, cap, b, off, hr, hsl.at_ (by omega), ?_, (hne (by omega)).1⟩, ⟨⟨p, cap, b, off, hr.set_same 1 _, hsl.grown hg (fun h => by simpa using (hne h).1), hne⟩, hk⟩, ?_⟩
  · rw [hsl.src k hk, h1]
    simp [u8v, hk]
  · rw [h1]; exact hsl.lt _ (List.getElem_mem hk)
end Go.Proofs.Ytbccjomnfclkdaa
