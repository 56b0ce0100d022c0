/-
  Digests as keys of a map: what the map's operations do with them.
-/
import Derived.Test.YtokjbmpiekadaaaDoorEq25
import Derived.Test.YtokjbmpiekadaaaDoorSlc
import Derived.Maps.OwnSet
namespace Go.Proofs.YtokjbmpiekadaaaDoor
open Go.RowKit

/-- a digest as the program has it -/
def dv (d : List Nat) : Value := .agg (d.map u8v).toArray
theorem u8v_inj {x y : Nat} (h : u8v x = u8v y) : x = y := by
  simp only [u8v, Value.int.injEq] at h
  omega
theorem dv_inj {a b : List Nat} (h : dv a = dv b) : a = b := by
  simp only [dv, Value.agg.injEq] at h
  have h2 : a.map u8v = b.map u8v := by simpa using congrArg Array.toList h
  exact (List.map_inj_right (fun _ _ h => u8v_inj h)).1 h2

theorem unit_loop {P : Program} {w : World} (f : Nat → Unit → Sem (ForInStep Unit)) :
    ∀ (L : List Nat), (∀ i ∈ L, ∀ s, (f i s).run P w = .ok (.yield ()) w) → (forIn L () f).run P w = .ok () w
  | [], _ => by simp [Sem.run_pure]
  | i :: L, h => by
    simp only [List.forIn_cons, Sem.run_bind, h i (by simp), Result.andThen]
    exact unit_loop f L (fun j hj => h j (by simp [hj]))
theorem check5 (em : Bool) (n x : Nat) (w : World) : (Instr.checkKey em (n + 1) 5 (u8v x)).run Tryd.prog w = .ok () w := by
  simp only [Instr.checkKey, Sem.run_bind, run_underlying Tryd.underlying5, Result.andThen_ok, u8v, Sem.run_pure]
theorem check39g (em : Bool) (n : Nat) (d : List Nat) (hd : d.length = 32) (w : World) : (Instr.checkKey em (n + 1 + 1) 39 (dv d)).run Tryd.prog w = .ok () w := by
  have hsz : (sizeOf 5).run Tryd.prog w = .ok 1 w := by kernel_rfl
  rw [Instr.checkKey]
  simp only [dv, Sem.run_bind, run_underlying Tryd.underlying39, Result.andThen_ok]
  rw [Std.Legacy.Range.forIn_eq_forIn_range']
  rw [unit_loop _ _ ?_]
  · simp only [Result.andThen_ok, Sem.run_pure]
  intro i hi s
  have hi' : i < 32 := by simp only [List.mem_range'_1] at hi; have : [:32].size = 32 := rfl; omega
  simp only [Sem.run_bind, hsz, Result.andThen_ok, Nat.mul_one, part5 d hd i hi', check5, Sem.run_pure]
theorem check39 (em : Bool) (d : List Nat) (hd : d.length = 32) (w : World) : (Instr.checkKey em 10000 39 (dv d)).run Tryd.prog w = .ok () w := check39g em 9998 d hd w

/-- entries whose keys are digests -/
def Dk (es : List MapEntry) : Prop := ∀ e ∈ es, ∃ d : List Nat, d.length = 32 ∧ e.key = dv d

theorem ask39 (d : List Nat) (hd : d.length = 32) (w : World) : ∀ (es : List MapEntry) (i : Nat), Dk es →
    ((Instr.findAsking 39 (dv d) es i).run Tryd.prog w = .ok none w ∧ ∀ e ∈ es, e.key ≠ dv d) ∨
    ∃ j e, (Instr.findAsking 39 (dv d) es i).run Tryd.prog w = .ok (some (i + j, e.val)) w ∧ es[j]? = some e ∧ e.key = dv d
  | [], i, _ => .inl ⟨by simp [Instr.findAsking, Sem.run_pure], by simp⟩
  | e :: es, i, h => by
    obtain ⟨d', hd', hk⟩ := h e (by simp)
    have heq : (Op.equal 39 (dv d) e.key).run Tryd.prog w = .ok (decide (d = d')) w := by rw [hk]; exact eq25 d d' hd hd' w
    by_cases hc : d = d'
    · refine .inr ⟨0, e, ?_, by simp, by rw [hk, hc]⟩
      rw [decide_eq_true hc] at heq
      simp only [Instr.findAsking, Sem.run_bind, heq, Result.andThen_ok, if_true, Sem.run_pure, Nat.add_zero]
    · have hrest := ask39 d hd w es (i + 1) (fun x hx => h x (by simp [hx]))
      have hstep : (Instr.findAsking 39 (dv d) (e :: es) i).run Tryd.prog w = (Instr.findAsking 39 (dv d) es (i + 1)).run Tryd.prog w := by
        simp only [Instr.findAsking, Sem.run_bind, heq, Result.andThen_ok, hc, decide_false, Bool.false_eq_true, if_false]
      rw [hstep]
      rcases hrest with ⟨h1, h2⟩ | ⟨j, e2, h1, h2, h3⟩
      · refine .inl ⟨h1, fun x hx => ?_⟩
        rcases List.mem_cons.1 hx with rfl | hx
        · rw [hk]; exact fun hh => hc (dv_inj hh).symm
        · exact h2 x hx
      · exact .inr ⟨j + 1, e2, by rw [h1, show i + 1 + j = i + (j + 1) by omega], by simpa using h2, h3⟩
theorem find39 (d : List Nat) (hd : d.length = 32) (w : World) (es : List MapEntry) (h : Dk es) :
    ((Instr.findKey 39 (dv d) es).run Tryd.prog w = .ok none w ∧ ∀ e ∈ es, e.key ≠ dv d) ∨
    ∃ j e, (Instr.findKey 39 (dv d) es).run Tryd.prog w = .ok (some (j, e.val)) w ∧ es[j]? = some e ∧ e.key = dv d := by
  cases es with
  | nil => exact .inl ⟨by simp [Instr.findKey, Instr.findNow, run_underlying Tryd.underlying39, Result.andThen_ok], by simp⟩
  | cons e es =>
    have hstep : (Instr.findKey 39 (dv d) (e :: es)).run Tryd.prog w = (Instr.findAsking 39 (dv d) (e :: es)).run Tryd.prog w := by
      simp only [Instr.findKey, Sem.run_bind, run_underlying Tryd.underlying39, Result.andThen_ok, Instr.findNow, Instr.sameNow]
    rw [hstep]
    have := ask39 d hd w (e :: es) 0 h
    simpa only [Nat.zero_add] using this
theorem stays39 (d : List Nat) (w : World) : (Instr.keyThatStays (dv d) (dv d)).run Tryd.prog w = .ok (dv d) w := by
  have h : Instr.sameBits 10000 (dv d) (dv d) = true := by
    show Instr.sameBits (9999 + 1) (dv d) (dv d) = true
    simp only [dv, Instr.sameBits, beq_self_eq_true, Bool.true_and, List.all_eq_true]
    rintro ⟨x, y⟩ hx
    obtain ⟨i, hi, hh⟩ := List.getElem_of_mem hx
    simp at hh
    obtain ⟨rfl, rfl⟩ := hh
    simp [u8v, Instr.sameBits]
  simp only [Instr.keyThatStays, h, if_true, Sem.run_pure]
end Go.Proofs.YtokjbmpiekadaaaDoor
