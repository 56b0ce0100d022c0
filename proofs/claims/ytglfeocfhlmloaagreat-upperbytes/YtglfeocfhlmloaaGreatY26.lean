/-
  Lists of files in memory; a row of files of the call's own, and what is put behind it.
-/
import Derived.Laws.CopyOwn
import Derived.Deep.RegionLaw
import Derived.Deep.DrawnRows
import Derived.Laws.Tables
import Derived.Test.YtglfeocfhlmloaaGreatY00
import Derived.Test.YtglfeocfhlmloaaGreatY01
import Derived.Test.YtglfeocfhlmloaaGreatY02
import Derived.Test.YtglfeocfhlmloaaGreatY03
import Derived.Test.YtglfeocfhlmloaaGreatY04
import Derived.Test.YtglfeocfhlmloaaGreatY05
import Derived.Test.YtglfeocfhlmloaaGreatY06
import Derived.Test.YtglfeocfhlmloaaGreatY07
import Derived.Test.YtglfeocfhlmloaaGreatY08
import Derived.Test.YtglfeocfhlmloaaGreatY09
import Derived.Test.YtglfeocfhlmloaaGreatY11
import Derived.Test.YtglfeocfhlmloaaGreatY12
import Derived.Test.YtglfeocfhlmloaaGreatY13
import Derived.Test.YtglfeocfhlmloaaGreatY14
import Derived.Test.YtglfeocfhlmloaaGreatY15
import Derived.Test.YtglfeocfhlmloaaGreatY16
import Derived.Test.YtglfeocfhlmloaaGreatY17
import Derived.Test.YtglfeocfhlmloaaGreatY18
import Derived.Test.YtglfeocfhlmloaaGreatY19
import Derived.Test.YtglfeocfhlmloaaGreatY20
import Derived.Test.YtglfeocfhlmloaaGreatY21
import Derived.Test.YtglfeocfhlmloaaGreatY22
import Derived.Test.YtglfeocfhlmloaaGreatY23
namespace Go.Proofs.YtglfeocfhlmloaaGreat.Up
open Go.RowKit
/-- a file -/
structure Fil where
  path : ByteArray
  kind : Int
  opq : Bool
  data : ByteArray
def Fil.cells (f : Fil) : List Value := [.string f.path, .int .i64 f.kind, .bool f.opq, .string f.data]
def Fil.val (f : Fil) : Value := .agg #[.string f.path, .int .i64 f.kind, .bool f.opq, .string f.data]
def fcells (fs : List Fil) : List Value := fs.flatMap Fil.cells
theorem fcells_len (fs : List Fil) : (fcells fs).length = fs.length * 4 := by
  induction fs with
  | nil => rfl
  | cons f r ih =>
    unfold fcells at ih ⊢
    rw [List.flatMap_cons, List.length_append, ih, List.length_cons]
    simp [Fil.cells]
    omega
theorem fcells_one (fs : List Fil) : ∀ u ∈ fcells fs, u.oneCell' = true := by
  intro u hu
  obtain ⟨f, _, h⟩ := List.mem_flatMap.1 hu
  simp [Fil.cells] at h
  rcases h with rfl | rfl | rfl | rfl <;> rfl
theorem fcells_at {fs : List Fil} {i : Nat} {f : Fil} (h : fs[i]? = some f) (y : Nat) (u : Value) (hy : f.cells[y]? = some u) : (fcells fs)[i * 4 + y]? = some u := by
  have h1 := Nd.flatten_get (k := 4) (xs := fs.map Fil.cells) (fun us hus => by obtain ⟨g, _, rfl⟩ := List.mem_map.1 hus; rfl) i f.cells (by rw [List.getElem?_map, h]; rfl) y u hy
  rw [List.flatMap_def.symm] at h1
  exact h1
/-- a value that reads as files -/
def Fls (w : World) (v : Value) (fs : List Fil) : Prop := ∃ p cap b o, v = .slice p fs.length cap ∧ fs.length ≤ cap ∧ cap ≤ 9223372036854775807 ∧ (fs ≠ [] → p = some ⟨b, o, none⟩ ∧ b < w.heap.size) ∧ (∀ j u, (fcells fs)[j]? = some u → w.cell? ⟨b, o + j, none⟩ = some u) ∧ (p = none → fs = [] ∧ cap = 0)
theorem Fls.below {w w' : World} {v : Value} {fs : List Fil} (h : Fls w v fs) (hb : Below w.heap.size w w') : Fls w' v fs := by
  obtain ⟨p, cap, b, o, h1, h2, h3, h4, h5, h6⟩ := h
  refine ⟨p, cap, b, o, h1, h2, h3, fun hn => ⟨(h4 hn).1, Nat.lt_of_lt_of_le (h4 hn).2 hb.size⟩, fun j u hj => ?_, h6⟩
  have hne : fs ≠ [] := by rintro rfl; simp [fcells] at hj
  rw [hb.cell (p := ⟨b, o + j, none⟩) (h4 hne).2]
  exact h5 j u hj
theorem Fls.form {w : World} {v : Value} {fs : List Fil} (h : Fls w v fs) : ∃ p cap, v = .slice p fs.length cap := by
  obtain ⟨p, cap, _, _, h1, _⟩ := h
  exact ⟨p, cap, h1⟩
/-- a row of files of the call's own -/
def FO (w : World) (B : Nat) (v : Value) (fs : List Fil) : Prop := w.ownsRow B 42 4 v fs.length (fcells fs)
theorem FO.below {w w' : World} {B : Nat} {v : Value} {fs : List Fil} (h : FO w B v fs) (hb : Below w.heap.size w w') : FO w' B v fs := Nd.own_belowK h hb
theorem FO.fls {w : World} {B : Nat} {v : Value} {fs : List Fil} (h : FO w B v fs) : Fls w v fs := by
  obtain ⟨_, ⟨rfl, h0⟩ | ⟨g, cap, cur, rfl, hB, hh, hn, hm, hs, ht⟩⟩ := h
  · obtain rfl := List.length_eq_zero_iff.1 h0
    exact ⟨none, 0, 0, 0, rfl, by simp, by omega, fun h => absurd rfl h, fun j u h => by simp [fcells] at h, fun _ => ⟨rfl, rfl⟩⟩
  · have hlt : g < w.heap.size := (Array.getElem?_eq_some_iff.1 hh).1
    refine ⟨_, cap, g, 0, rfl, hn, by unfold maxLen at hm; omega, fun _ => ⟨rfl, hlt⟩, fun j u hj => ?_, fun e => by cases e⟩
    have hjl : j < fs.length * 4 := by rw [← fcells_len]; exact (List.getElem?_eq_some_iff.1 hj).1
    have ht2 : (cur.toList.take (fs.length * 4))[j]? = (fcells fs)[j]? := by rw [ht]
    rw [List.getElem?_take, if_pos hjl, hj, Array.getElem?_toList] at ht2
    rw [Nat.zero_add, cell_of_row w g j _ _ (0, 0) hh, ht2]
theorem info81h : ∃ i z, Hid (Tryz.prog.info? 42 = some i) ∧ Hid (i.size = 4) ∧ Hid (i.bytes = 48) ∧ Hid (i.zero = some z) ∧ Hid (z.cells.size = 4) := by
  have h : (Tryz.prog.info? 42).map (fun i => (i.size, i.bytes, i.zero.map (·.cells.size))) = some (4, 48, some 4) := by kernel_rfl
  cases hi : Tryz.prog.info? 42 with
  | none => rw [hi] at h; cases h
  | some i =>
    rw [hi] at h
    simp only [Option.map_some, Option.some.injEq, Prod.mk.injEq] at h
    obtain ⟨h1, h2, h3⟩ := h
    cases hz : i.zero with
    | none => rw [hz] at h3; cases h3
    | some z => rw [hz] at h3; exact ⟨i, z, rfl, h1, h2, hz, Option.some.inj h3⟩
/-- files put behind a row of the call's own -/
theorem wpList_app81 {ops : Array Oper} {rest : List Oper} {o : Oper} {a : Act} {w : World} {Q : Exit → Act → World → Prop} (B : Nat) (hgd : o.guard = none) (s x : Operand) (ho : o.op = .call { callee := .builtin .append, args := #[s, x], argTypes := #[50, 50] })
    (v : Value) (xs ys : List Fil) (hs : a.eval s = v) (hown : FO w B v xs) (sv : Value) (hx : a.eval x = sv) (hsv : Fls w sv ys) (hlen : xs.length + ys.length ≤ 1000000) (hB : B ≤ w.heap.size)
    (h : ∀ v' w', FO w' B v' (xs ++ ys) → w.grownBy w' v.ownBlock → wpList Tryz.prog ops Q rest (a.put o.dst v') w') : wpList Tryz.prog ops Q (o :: rest) a w := by
  obtain ⟨p, cap, b, of, rfl, h1, h2, h3, h4, h5⟩ := hsv
  obtain ⟨i, z, hi, hz1, hz2, hz3, hz4⟩ := info81h
  rcases p with _ | ad
  · obtain ⟨rfl, rfl⟩ := h5 rfl
    refine wpList_append_own_none hgd s x 50 ho B 42 i 4 Tryz.underlying50 hi.out v xs.length (fcells xs) hs hown hx ?_
    exact h v w (by simpa using hown) ⟨rfl, rfl, rfl, Nat.le_refl _, fun _ _ _ => rfl⟩
  · refine wpList_append_own w hgd s x 50 ho B 42 i z 4 48 Tryz.underlying50 hi.out hz3.out hz1.out hz2.out hz4.out (by decide) v xs.length (fcells xs) hs hown ad ys.length cap (fcells ys) hx (fcells_len ys) (fun j u hj => ?_) (fcells_one ys) (by unfold maxLen; omega) (by omega) hB ?_
    · have hne : ys ≠ [] := by rintro rfl; simp [fcells] at hj
      obtain rfl := Option.some.inj (h3 hne).1
      rw [Addr.add_mid]
      exact h4 j u hj
    · intro v' w' h6 h7 _
      refine h v' w' ?_ h7
      unfold FO
      rw [List.length_append, show fcells (xs ++ ys) = fcells xs ++ fcells ys by simp [fcells]]
      exact h6
theorem size81 (w : World) : (sizeOf 42).run Tryz.prog w = .ok 4 w := by kernel_rfl
theorem slice40_to (p : Option Addr) (L C n : Nat) (h1 : n ≤ C) (w : World) : (Instr.slice 50 (.slice p L C) none (some (.int .i64 (n : Int))) none).run Tryz.prog w = .ok (.slice p n C) w := by
  have ht : Tryz.prog.underlying 50 = some (.slice (Tryz.prog.elem 50)) := by kernel_rfl
  have he : Tryz.prog.elem 50 = 42 := by kernel_rfl
  rw [run_slice_h w 50 p L C ht .i64 (n : Int) (by omega) (by omega), he, size81]
  rcases p with _ | ⟨b, o, s⟩ <;> simp [sliced, Addr.add]
theorem slice40_from (p : Option Addr) (b o L C n : Nat) (h1 : n ≤ L) (h2 : L ≤ C) (hp : 0 < L → p = some ⟨b, o, none⟩) : ∃ q, (n < L → q = some ⟨b, o + n * 4, none⟩) ∧ (q = none → p = none) ∧ ∀ w, (Instr.slice 50 (.slice p L C) (some (.int .i64 (n : Int))) none none).run Tryz.prog w = .ok (.slice q (L - n) (C - n)) w := by
  have ht : Tryz.prog.underlying 50 = some (.slice (Tryz.prog.elem 50)) := by kernel_rfl
  have he : Tryz.prog.elem 50 = 42 := by kernel_rfl
  rcases p with _ | ⟨b', o', s'⟩
  · refine ⟨none, (fun h => by have h3 := hp (by omega); cases h3), fun _ => rfl, fun w => ?_⟩
    rw [run_slice_l w 50 none L C ht .i64 (n : Int) (by omega) (by omega), he, size81]
    simp [sliced]
  · refine ⟨some (if C = n then ⟨b', o', s'⟩ else (⟨b', o', s'⟩ : Addr).add (n * 4)), fun h => ?_, (fun e => by cases e), fun w => ?_⟩
    · have h3 := Option.some.inj (hp (by omega))
      rw [if_neg (by omega), h3, Addr.add_mid]
    · rw [run_slice_l w 50 _ L C ht .i64 (n : Int) (by omega) (by omega), he, size81]
      simp [sliced]
      split <;> rfl
theorem Fls.first {w : World} {p : Option Addr} {n cap : Nat} {fs : List Fil} (h : Fls w (.slice p n cap) fs) (k : Nat) (hk : k ≤ fs.length) : n = fs.length ∧ k ≤ cap ∧ Fls w (.slice p k cap) (fs.take k) := by
  obtain ⟨p', cap', b, o, h1, h2, h3, h4, h5, h6⟩ := h
  simp only [Value.slice.injEq] at h1
  obtain ⟨rfl, rfl, rfl⟩ := h1
  refine ⟨rfl, by omega, p, cap, b, o, by rw [List.length_take, Nat.min_eq_left hk], by rw [List.length_take]; omega, h3, fun hne => h4 (by rintro rfl; simp at hne), fun j u hj => h5 j u ?_, fun e => ⟨by rw [(h6 e).1]; simp, (h6 e).2⟩⟩
  have e : fcells fs = fcells (fs.take k) ++ fcells (fs.drop k) := by
    unfold fcells
    rw [← List.flatMap_append, List.take_append_drop]
  rw [e, List.getElem?_append_left (List.getElem?_eq_some_iff.1 hj).1]
  exact hj
theorem Fls.rest {w : World} {p : Option Addr} {n cap : Nat} {fs : List Fil} (h : Fls w (.slice p n cap) fs) (k : Nat) (hk : k ≤ fs.length) : ∃ q, (∀ W, (Instr.slice 50 (.slice p n cap) (some (.int .i64 (k : Int))) none none).run Tryz.prog W = .ok (.slice q (fs.length - k) (cap - k)) W) ∧ Fls w (.slice q (fs.length - k) (cap - k)) (fs.drop k) := by
  obtain ⟨p', cap', b, o, h1, h2, h3, h4, h5, h6⟩ := h
  simp only [Value.slice.injEq] at h1
  obtain ⟨rfl, rfl, rfl⟩ := h1
  obtain ⟨q, h7, h8, h9⟩ := slice40_from p b o fs.length cap k hk h2 (fun h0 => (h4 (by rintro rfl; simp at h0)).1)
  refine ⟨q, h9, q, cap - k, b, o + k * 4, by rw [List.length_drop], by rw [List.length_drop]; omega, by omega, fun hne => ?_, fun j u hj => ?_, fun e => ?_⟩
  · have hlt : k < fs.length := by
      rcases Nat.lt_or_ge k fs.length with h | h
      · exact h
      · exact absurd (List.drop_eq_nil_of_le h) hne
    exact ⟨h7 hlt, (h4 (by rintro rfl; simp at hlt)).2⟩
  · have e : fcells fs = fcells (fs.take k) ++ fcells (fs.drop k) := by
      unfold fcells
      rw [← List.flatMap_append, List.take_append_drop]
    have hl : (fcells (fs.take k)).length = k * 4 := by rw [fcells_len, List.length_take, Nat.min_eq_left hk]
    rw [Nat.add_assoc]
    refine h5 (k * 4 + j) u ?_
    rw [e, List.getElem?_append_right (by omega), hl, Nat.add_sub_cancel_left]
    exact hj
  · obtain ⟨rfl, rfl⟩ := h6 (h8 e)
    exact ⟨by simp, by omega⟩
end Go.Proofs.YtglfeocfhlmloaaGreat.Up
