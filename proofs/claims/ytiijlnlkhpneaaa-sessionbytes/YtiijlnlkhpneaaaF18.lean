/-
  Plain facts for the reference's Record; its append.
-/
import Derived.OwnWalk
import Derived.Laws.CopyOwn
import Derived.Laws.Tables
import Derived.Deep.RegionLaw
import Derived.Deep.DrawnRows
import Derived.Test.YtiijlnlkhpneaaaF00
import Derived.Test.YtiijlnlkhpneaaaF01
import Derived.Test.YtiijlnlkhpneaaaF02
import Derived.Test.YtiijlnlkhpneaaaF03
import Derived.Test.YtiijlnlkhpneaaaF04
import Derived.Test.YtiijlnlkhpneaaaF05
import Derived.Test.YtiijlnlkhpneaaaF06
import Derived.Test.YtiijlnlkhpneaaaF07
import Derived.Test.YtiijlnlkhpneaaaF08
import Derived.Test.YtiijlnlkhpneaaaF09
import Derived.Test.YtiijlnlkhpneaaaF10
import Derived.Test.YtiijlnlkhpneaaaF11
import Derived.Test.YtiijlnlkhpneaaaF12
import Derived.Test.YtiijlnlkhpneaaaF13
import Derived.Test.YtiijlnlkhpneaaaF16
import Derived.Test.YtiijlnlkhpneaaaF17
namespace Go.Proofs.Ytiijlnlkhpneaaa.Se
open Go.RowKit
open Nd (Row wp_world post_Row grownBy_setCell below_of_grown grownBy_trans grown_of_below grownBy_refl)
theorem put_end {n : Seat} {Y : List Seat} (h : ∀ y ∈ Y, y.client < n.client) : putC n Y = Y ++ [n] := by
  unfold putC
  rw [List.filter_eq_self.2 (fun y hy => by have := h y hy; simpa using this), List.filter_eq_nil_iff.2 (fun y hy => by have := h y hy; simp; omega)]
theorem put_parts {n : Seat} {Y : List Seat} (h : ∀ y ∈ Y, y.client < n.client) : Y.filter (fun s => decide (s.client < n.client)) = Y ∧ Y.filter (fun s => decide (n.client < s.client)) = [] :=
  ⟨List.filter_eq_self.2 (fun y hy => by have := h y hy; simpa using this), List.filter_eq_nil_iff.2 (fun y hy => by have := h y hy; simp; omega)⟩
theorem put_at {n x : Seat} {Y : List Seat} (h : ∀ y ∈ Y, y.client < n.client) (hx : x.client = n.client) : putC n (Y ++ [x]) = Y ++ [n] := by
  obtain ⟨h1, h2⟩ := put_parts h
  unfold putC
  rw [List.filter_append, List.filter_append, h1, h2]
  simp [hx]
theorem put_over {n x : Seat} {Y : List Seat} (h : ∀ y ∈ Y, y.client < n.client) (hx : n.client < x.client) : putC n (Y ++ [x]) = Y ++ [n] ++ [x] := by
  obtain ⟨h1, h3⟩ := put_parts h
  unfold putC
  rw [List.filter_append, List.filter_append, h1, h3]
  have h2 : ¬ x.client < n.client := by omega
  simp [hx, h2]
theorem put_more {n x : Seat} {Y : List Seat} (hx : n.client < x.client) : putC n (Y ++ [x]) = putC n Y ++ [x] := by
  unfold putC
  have h2 : ¬ x.client < n.client := by omega
  rw [List.filter_append, List.filter_append]
  simp [hx, h2]
theorem take_snoc {X : List Seat} {k : Nat} {x : Seat} (h : X[k]? = some x) : X.take (k + 1) = X.take k ++ [x] := by
  rw [List.take_add_one, h]
  rfl
theorem putC_len (n : Seat) (Y : List Seat) : (putC n Y).length ≤ Y.length + 1 + Y.length := by
  unfold putC
  rw [List.length_append, List.length_cons]
  have h1 := List.length_filter_le (fun s => decide (s.client < n.client)) Y
  have h2 := List.length_filter_le (fun s => decide (n.client < s.client)) Y
  omega
/-- between two rounds of the first loop -/
def Ins (w : World) (n : Seat) (X : List Seat) (k : Nat) (put : Bool) (v : Value) (W : World) : Prop :=
  Below w.heap.size w W ∧ ((put = false ∧ SO W w.heap.size v (X.take k) ∧ ∀ y ∈ X.take k, y.client < n.client) ∨ (put = true ∧ SO W w.heap.size v (putC n (X.take k)) ∧ ∃ j x, X[j]? = some x ∧ j < k ∧ n.client ≤ x.client))
/-- between two rounds of the search -/
def Srch (X : List Seat) (q : Nat) (v : Value) : Prop := (v = .int .i64 (-1) ∧ oldS (X.take q) = noSeat) ∨ (∃ (k : Nat) (s : Seat), v = .int .i64 (k : Int) ∧ k < q ∧ X[k]? = some s ∧ s.kept = true ∧ oldS (X.take q) = s)
theorem pick_off {f x : Seat} (h : x.kept = false) : pickS f x = f := by
  unfold pickS
  rw [if_neg (by rw [h]; simp)]
theorem pick_first {x : Seat} (h : x.kept = true) : pickS noSeat x = x := by
  unfold pickS
  rw [if_pos ⟨h, .inl rfl⟩]
theorem pick_less {f x : Seat} (h : x.kept = true) (hl : x.at_ < f.at_) : pickS f x = x := by
  unfold pickS
  rw [if_pos ⟨h, .inr hl⟩]
theorem pick_more {f x : Seat} (hf : f.kept = true) (hl : ¬ x.at_ < f.at_) : pickS f x = f := by
  unfold pickS
  rw [if_neg (by rw [hf]; simp; omega)]
/-- what the search finds -/
theorem srch_end {T : List Seat} (hr : Right T) {room : Int} (h0 : 0 ≤ room) (hb : room < (sumR T : Int)) {v : Value} (h : Srch (T.filter seated) (T.filter seated).length v) : ∃ (k i : Nat) (s : Seat), v = .int .i64 (k : Int) ∧ k < (T.filter seated).length ∧ (T.filter seated)[k]? = some s ∧ (T.set i (hush s)).filter seated = (T.filter seated).set k (hush s) ∧ Right (T.set i (hush s)) ∧ keptN (T.set i (hush s)) + 1 = keptN T ∧ mkR room T = mkR room (T.set i (hush s)) := by
  obtain ⟨i, s, h1, h2, h3, h4, h5, h6, h7⟩ := mk_step hr h0 hb
  have ho : oldS (T.filter seated) = oldS T := fold_seated T 0 noSeat hr.from
  obtain ⟨i', s', a1, a2, a3, a4, a5, a6⟩ := old_at hr ⟨s, List.mem_of_getElem? h1, h2⟩
  unfold Srch at h
  rw [List.take_length] at h
  rcases h with ⟨_, h⟩ | ⟨k, t, hv, hkl, hk, hkp, h⟩
  · rw [ho, a3] at h
    rw [h] at a2
    cases a2
  · rw [ho, a3] at h
    subst h
    have hT : T.set i (hush s) = T.set i' (hush s') := h4.symm.trans a6
    rw [hT] at h5 h6 h7
    exact ⟨k, i', s', hv, hkl, hk, hush_both hr a1 hk, h5, h6, h7⟩
end Go.Proofs.Ytiijlnlkhpneaaa.Se
