/-
  Two digests are compared.
-/
import Derived.Test.YtokjbmpiekadaaaDoorLaws
namespace Go.Proofs.YtokjbmpiekadaaaDoor
open Go.RowKit

theorem eq_loop {P : Program} {w : World} (f : Nat → Option Bool × Unit → Sem (ForInStep (Option Bool × Unit))) (c : Nat → Bool) :
    ∀ (L : List Nat), (∀ i ∈ L, ∀ s, (f i s).run P w = .ok (if c i = true then .yield (none, ()) else .done (some false, ())) w) → (forIn L (none, ()) f).run P w = .ok (if L.all c = true then (none, ()) else (some false, ())) w
  | [], _ => by simp [Sem.run_pure]
  | i :: L, h => by
    simp only [List.forIn_cons, Sem.run_bind, h i (by simp)]
    by_cases hc : c i = true
    · simp only [hc, if_true, Result.andThen, List.all_cons, Bool.true_and]
      exact eq_loop f c L (fun j hj => h j (by simp [hj]))
    · simp [hc, Result.andThen, Sem.run_pure]
theorem part5 (d : List Nat) (hd : d.length = 32) (i : Nat) (h : i < 32) (w : World) : (part 5 (d.map u8v).toArray i).run Tryd.prog w = .ok (u8v (d.getD i 0)) w := by
  have hagg : (isAgg 5).run Tryd.prog w = .ok false w := by kernel_rfl
  have hi : i < d.length := by omega
  simp [part, Sem.run_bind, hagg, hi]
theorem eqin5 (d x y : Nat) (w : World) : (Op.equalIn (d + 1) 5 (u8v x) (u8v y)).run Tryd.prog w = .ok (decide (x = y)) w := by
  simp only [Op.equalIn, Sem.run_bind, run_underlying Tryd.underlying5, Result.andThen_ok, u8v, if_true, Sem.run_pure]
  congr 1
  rw [Bool.eq_iff_iff]
  simp
  omega
theorem all_range (a b : List Nat) (ha : a.length = 32) (hb : b.length = 32) : (List.range' 0 32).all (fun i => decide (a.getD i 0 = b.getD i 0)) = decide (a = b) := by
  rw [Bool.eq_iff_iff]
  simp only [List.all_eq_true, decide_eq_true_eq, List.mem_range'_1]
  constructor
  · intro h
    refine List.ext_getElem (by omega) fun i h1 h2 => ?_
    have := h i ⟨by omega, by omega⟩
    simpa [h1, h2] using this
  · rintro rfl i _; rfl
theorem eq25g (d : Nat) (a b : List Nat) (ha : a.length = 32) (hb : b.length = 32) (w : World) : (Op.equalIn (d + 1 + 1) 39 (.agg (a.map u8v).toArray) (.agg (b.map u8v).toArray)).run Tryd.prog w = .ok (decide (a = b)) w := by
  have hsz : (sizeOf 5).run Tryd.prog w = .ok 1 w := by kernel_rfl
  rw [Op.equalIn]
  simp only [Sem.run_bind, run_underlying Tryd.underlying39, Result.andThen_ok, hsz, Nat.mul_one]
  rw [Std.Legacy.Range.forIn_eq_forIn_range']
  rw [eq_loop _ (fun i => decide (a.getD i 0 = b.getD i 0)) _ ?_]
  · simp only [Result.andThen_ok]
    rw [show (List.range' 0 [:32].size) = List.range' 0 32 from rfl, all_range a b ha hb]
    by_cases h : a = b
    · simp [h, Sem.run_pure]
    · simp [h, Sem.run_pure]
  · intro i hi s
    have hi' : i < 32 := by simp only [List.mem_range'_1] at hi; have : [:32].size = 32 := rfl; omega
    simp only [Sem.run_bind, part5 a ha i hi', part5 b hb i hi', eqin5, Result.andThen_ok]
    by_cases h : a.getD i 0 = b.getD i 0
    · simp only [h, decide_true, Bool.not_true, Bool.false_eq_true, if_false, if_true, Sem.run_pure]
    · simp only [h, decide_false, Bool.not_false, if_true, Bool.false_eq_true, if_false, Sem.run_pure]
theorem eq25 (a b : List Nat) (ha : a.length = 32) (hb : b.length = 32) (w : World) : (Op.equalIn 10000 39 (.agg (a.map u8v).toArray) (.agg (b.map u8v).toArray)).run Tryd.prog w = .ok (decide (a = b)) w := eq25g 9998 a b ha hb w
end Go.Proofs.YtokjbmpiekadaaaDoor
