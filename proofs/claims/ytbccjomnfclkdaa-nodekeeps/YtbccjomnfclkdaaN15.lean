/-
  Digests and items that are compared.
-/
import Derived.Test.YtbccjomnfclkdaaN14
import Derived.Laws.StructEq
namespace Go.Proofs.Ytbccjomnfclkdaa
open Go.RowKit
theorem eq_loop {P : Program} {w : World} (f : Nat → Option Bool × Unit → Sem (ForInStep (Option Bool × Unit))) (c : Nat → Bool) :
    ∀ (L : List Nat), (∀ i ∈ L, ∀ s, (f i s).run P w = .ok (if c i = true then .yield (none, ()) else .done (some false, ())) w) → (forIn L (none, ()) f).run P w = .ok (if L.all c = true then (none, ()) else (some false, ())) w
  | [], _ => by simp [Sem.run_pure]
  | i :: L, h => by
    simp only [List.forIn_cons, Sem.run_bind, h i (by simp)]
    by_cases hc : c i = true
    · simp only [hc, if_true, Result.andThen, List.all_cons, Bool.true_and]
      exact eq_loop f c L (fun j hj => h j (by simp [hj]))
    · simp [hc, Result.andThen, Sem.run_pure]
theorem part5 (d : List Nat) (hd : d.length = 32) (i : Nat) (h : i < 32) (w : World) : (part 5 (d.map u8v).toArray i).run Try.prog w = .ok (u8v (d.getD i 0)) w := by
  have hagg : (isAgg 5).run Try.prog w = .ok false w := by kernel_rfl
  have hi : i < d.length := by omega
  simp [part, Sem.run_bind, hagg, hi]
theorem eqin5 (d x y : Nat) (w : World) : (Op.equalIn (d + 1) 5 (u8v x) (u8v y)).run Try.prog w = .ok (decide (x = y)) w := by
  simp only [Op.equalIn, Sem.run_bind, run_underlying Try.underlying5, Result.andThen_ok, u8v, if_true, Sem.run_pure]
  congr 1
  rw [Bool.eq_iff_iff]
  simp
  omega
theorem all_range (a b : List Nat) (ha : a.length = 32) (hb : b.length = 32) : (List.range' 0 32).all (fun i => decide (a.getD i 0 = b.getD i 0)) = decide (a = b) := by
  rw [Bool.eq_iff_iff]
  simp only [List.all_eq_true, decide_eq_true_eq, List.mem_range'_1]
  constructor
  · intro h
    refine List.ext_getElem (by omega) fun i h1 h2 => ?_
    have := h i ⟨by omega, by omega⟩
    simpa [h1, h2] using this
  · rintro rfl i _; rfl
theorem eq49g (d : Nat) (a b : List Nat) (ha : a.length = 32) (hb : b.length = 32) (w : World) : (Op.equalIn (d + 1 + 1) 49 (.agg (a.map u8v).toArray) (.agg (b.map u8v).toArray)).run Try.prog w = .ok (decide (a = b)) w := by
  have hsz : (sizeOf 5).run Try.prog w = .ok 1 w := by kernel_rfl
  rw [Op.equalIn]
  simp only [Sem.run_bind, run_underlying Try.underlying49, Result.andThen_ok, hsz, Nat.mul_one]
  rw [Std.Legacy.Range.forIn_eq_forIn_range']
  rw [eq_loop _ (fun i => decide (a.getD i 0 = b.getD i 0)) _ ?_]
  · simp only [Result.andThen_ok]
    rw [show (List.range' 0 [:32].size) = List.range' 0 32 from rfl, all_range a b ha hb]
    by_cases h : a = b
    · simp [h, Sem.run_pure]
    · simp [h, Sem.run_pure]
  · intro i hi s
    have hi' : i < 32 := by simp only [List.mem_range'_1] at hi; have : [:32].size = 32 := rfl; omega
    simp only [Sem.run_bind, part5 a ha i hi', part5 b hb i hi', eqin5, Result.andThen_ok]
    by_cases h : a.getD i 0 = b.getD i 0
    · simp only [h, decide_true, Bool.not_true, Bool.false_eq_true, if_false, if_true, Sem.run_pure]
    · simp only [h, decide_false, Bool.not_false, if_true, Bool.false_eq_true, if_false, Sem.run_pure]
theorem eq49 (a b : List Nat) (ha : a.length = 32) (hb : b.length = 32) (w : World) : (Op.equalIn 10000 49 (.agg (a.map u8v).toArray) (.agg (b.map u8v).toArray)).run Try.prog w = .ok (decide (a = b)) w := eq49g 9998 a b ha hb w
theorem ba_beq (a b : ByteArray) : (a == b) = true ↔ a = b := by
  rw [beq_toListBytes, beq_iff_eq, Lib.toList_data, Lib.toList_data]
  constructor
  · intro h
    cases a; cases b
    simpa using h
  · rintro rfl; rfl
theorem eqStr (d : Nat) (a b : ByteArray) (w : World) : (Op.equalIn (d + 1) 9 (.string a) (.string b)).run Try.prog w = .ok (a == b) w := by
  simp only [Op.equalIn, Sem.run_bind, run_underlying Try.underlying9, Result.andThen_ok, Sem.run_pure]
def itemEq (x y : It) : Bool := (x.name == y.name) && ((x.kind == y.kind) && decide (x.sum = y.sum))
theorem itemEq_iff {x y : It} : itemEq x y = true ↔ x = y := by
  obtain ⟨n, k, s⟩ := x
  obtain ⟨n', k', s'⟩ := y
  simp only [itemEq, Bool.and_eq_true, ba_beq, beq_iff_eq, decide_eq_true_eq, It.mk.injEq]
theorem part0 (x : It) (w : World) : (part 9 x.cells.toArray 0).run Try.prog w = .ok (.string x.name) w := by
  have hagg : (isAgg 9).run Try.prog w = .ok false w := by kernel_rfl
  simp [part, Sem.run_bind, hagg, It.cells]
theorem part1 (x : It) (w : World) : (part 3 x.cells.toArray 1).run Try.prog w = .ok (.int .i64 x.kind) w := by
  have hagg : (isAgg 3).run Try.prog w = .ok false w := by kernel_rfl
  simp [part, Sem.run_bind, hagg, It.cells]
theorem part2 (x : It) (h : x.sum.length = 32) (w : World) : (part 49 x.cells.toArray 2).run Try.prog w = .ok (.agg (x.sum.map u8v).toArray) w := by
  have hagg : (isAgg 49).run Try.prog w = .ok true w := by kernel_rfl
  simp [part, Sem.run_bind, hagg, It.cells]
  rw [List.take_of_length_le (by simp [h])]
theorem eqItem (x y : It) (hx : x.sum.length = 32) (hy : y.sum.length = 32) (w : World) : (Op.equalIn 10000 51 (.agg x.cells.toArray) (.agg y.cells.toArray)).run Try.prog w = .ok (itemEq x y) w := by
  rw [run_equalIn_struct w 9999 51 _ _ (by simp only [Program.fieldsOf, Try.underlying51]) (by kernel_rfl)]
  simp only [Program.fieldsOf, Try.underlying51, Op.eqFields, Sem.run_bind, Sem.run_ite]
  have e1 : (Op.equalIn 9999 9 (.string x.name) (.string y.name)).run Try.prog w = .ok (x.name == y.name) w := eqStr 9998 _ _ w
  have e2 : (Op.equalIn 9999 3 (.int .i64 x.kind) (.int .i64 y.kind)).run Try.prog w = .ok (x.kind == y.kind) w := run_equalIn_int w 9998 3 .i64 _ _ _ Try.underlying3
  have e3 := eq49g 9997 x.sum y.sum hx hy w
  simp only [part0, part1, part2 x hx, part2 y hy, Result.andThen_ok, e1, e2, e3, Sem.run_pure]
  unfold itemEq
  cases x.name == y.name <;> cases x.kind == y.kind <;> cases decide (x.sum = y.sum) <;> simp
end Go.Proofs.Ytbccjomnfclkdaa
