/-
  What the reference's Put makes, by names alone. What the reference's Put makes is the order of what the program's makes.
-/
import Derived.Deep.CutRange
import Derived.Laws.CopyOwn
import Derived.Shelf.SlMaps.Clone
import Derived.Deep.RegionLaw
import Derived.Deep.DrawnRows
import Derived.Laws.Tables
import Derived.Test.YtglfeocfhlmloaaGreatY00
import Derived.Test.YtglfeocfhlmloaaGreatY01
import Derived.Test.YtglfeocfhlmloaaGreatY02
import Derived.Test.YtglfeocfhlmloaaGreatY03
import Derived.Test.YtglfeocfhlmloaaGreatY04
import Derived.Test.YtglfeocfhlmloaaGreatY05
import Derived.Test.YtglfeocfhlmloaaGreatY06
import Derived.Test.YtglfeocfhlmloaaGreatY07
import Derived.Test.YtglfeocfhlmloaaGreatY08
import Derived.Test.YtglfeocfhlmloaaGreatY09
import Derived.Test.YtglfeocfhlmloaaGreatY10
import Derived.Test.YtglfeocfhlmloaaGreatY11
import Derived.Test.YtglfeocfhlmloaaGreatY12
import Derived.Test.YtglfeocfhlmloaaGreatY13
import Derived.Test.YtglfeocfhlmloaaGreatY14
import Derived.Test.YtglfeocfhlmloaaGreatY15
import Derived.Test.YtglfeocfhlmloaaGreatY16
import Derived.Test.YtglfeocfhlmloaaGreatY17
import Derived.Test.YtglfeocfhlmloaaGreatY18
import Derived.Test.YtglfeocfhlmloaaGreatY19
import Derived.Test.YtglfeocfhlmloaaGreatY20
import Derived.Test.YtglfeocfhlmloaaGreatY21
import Derived.Test.YtglfeocfhlmloaaGreatY22
import Derived.Test.YtglfeocfhlmloaaGreatY23
import Derived.Test.YtglfeocfhlmloaaGreatY24
import Derived.Test.YtglfeocfhlmloaaGreatY25
import Derived.Test.YtglfeocfhlmloaaGreatY26
import Derived.Test.YtglfeocfhlmloaaGreatY27
import Derived.Test.YtglfeocfhlmloaaGreatY28
import Derived.Test.YtglfeocfhlmloaaGreatY29
import Derived.Test.YtglfeocfhlmloaaGreatY30
import Derived.Test.YtglfeocfhlmloaaGreatY31
import Derived.Test.YtglfeocfhlmloaaGreatY32
import Derived.Test.YtglfeocfhlmloaaGreatY33
import Derived.Test.YtglfeocfhlmloaaGreatY34
import Derived.Test.YtglfeocfhlmloaaGreatY35
import Derived.Test.YtglfeocfhlmloaaGreatY36
import Derived.Test.YtglfeocfhlmloaaGreatY37
import Derived.Test.YtglfeocfhlmloaaGreatY38
import Derived.Test.YtglfeocfhlmloaaGreatY39
import Derived.Test.YtglfeocfhlmloaaGreatY40
import Derived.Test.YtglfeocfhlmloaaGreatY41
import Derived.Test.YtglfeocfhlmloaaGreatY42
namespace Go.Proofs.YtglfeocfhlmloaaGreat.Up
open Go.RowKit
open Vp (Str B bl Val cmpL parseS showS withinS IsPath checkS)
open Nd (Row wp_world post_Row post_Row2 grownBy_setCell below_of_grown)
/-- an inode where its path belongs -/
def insE : List Ent → Ent → List Ent
  | [], e => [e]
  | g :: r, e => if cmpL g.names e.names < 0 then g :: insE r e else e :: g :: r
def putO (es : List Ent) (p : ByteArray) (k : Int) (q : Bool) (d : ByteArray) : List Ent :=
  if putEA es p k q d = 0 then (if (entAt es (nmsOf p)).isSome = true then putA es ⟨nmsOf p, k, q, d⟩ else insE es ⟨nmsOf p, k, q, d⟩) else es
theorem insE_at : ∀ (fs : List Ent) (f : Ent) (k : Nat), k ≤ fs.length → (∀ (i : Nat) g, i < k → fs[i]? = some g → cmpL g.names f.names < 0) → (∀ g, fs[k]? = some g → ¬ cmpL g.names f.names < 0) → insE fs f = fs.take k ++ [f] ++ fs.drop k
  | [], f, k, hk, _, _ => by
    obtain rfl : k = 0 := by simpa using hk
    rfl
  | g :: r, f, 0, _, _, h => by
    have h1 := h g rfl
    simp [insE, h1]
  | g :: r, f, k + 1, hk, h1, h2 => by
    have h3 := h1 0 g (by omega) rfl
    have h4 := insE_at r f k (by simpa using hk) (fun i x hi hx => h1 (i + 1) x (by omega) (by simpa using hx)) (fun x hx => h2 x (by simpa using hx))
    simp [insE, h3, h4]
theorem putA_set {es : List Ent} (hnd : (es.map (·.names)).Nodup) {i : Nat} {g e : Ent} (hi : es[i]? = some g) (hn : g.names = e.names) : putA es e = es.set i e := by
  induction es generalizing i with
  | nil => simp at hi
  | cons a r ih =>
    cases i with
    | zero =>
      obtain rfl : a = g := by simpa using hi
      simp [putA, hn]
    | succ i =>
      have hi2 : r[i]? = some g := by simpa using hi
      have hne : ¬ a.names = e.names := fun x => (List.nodup_cons.1 hnd).1 (List.mem_map.2 ⟨g, List.mem_of_getElem? hi2, hn.trans x.symm⟩)
      simp only [putA]
      rw [if_neg hne, ih (List.nodup_cons.1 hnd).2 hi2]
      rfl
/-- what lies above an inode is there -/
theorem tree_prefix {A : List Ent} (h : TreeA A) (n : List Str) (hn : n ≠ []) : ∀ (k : Nat) (e : Ent) (s : List Str), s.length = k → e ∈ A → e.names = n ++ s → (entAt A n).isSome = true
  | 0, e, s, hs, he, hen => by
    obtain rfl := List.length_eq_zero_iff.1 hs
    rw [List.append_nil] at hen
    rw [← hen, at_mem h.nd he]
    rfl
  | k + 1, e, s, hs, he, hen => by
    have hsn : s ≠ [] := by rintro rfl; simp at hs
    have hd : e.names.dropLast = n ++ s.dropLast := by rw [hen, List.dropLast_append_of_ne_nil hsn]
    rcases dir_zero.1 (h.dir e he) with h1 | ⟨d0, h1, _⟩
    · rw [hd] at h1
      exact absurd (List.append_eq_nil_iff.1 h1).1 hn
    · obtain ⟨h3, h4⟩ := at_some h1
      exact tree_prefix h n hn k d0 s.dropLast (by rw [List.length_dropLast, hs]; rfl) h3 (by rw [h4, hd])
theorem has_some {A : List Ent} (h : TreeA A) {n : List Str} (hn : n ≠ []) (hh : hasA A n = true) : (entAt A n).isSome = true := by
  unfold hasA at hh
  obtain ⟨e, he⟩ := List.exists_mem_of_length_pos (of_decide_eq_true hh)
  obtain ⟨h1, h2⟩ := List.mem_filter.1 he
  unfold belowE at h2
  simp only [Bool.and_eq_true] at h2
  obtain ⟨s, hs⟩ := within_iff.1 h2.2
  exact tree_prefix h n hn _ e s rfl h1 hs
theorem form_kind {k : Int} {q : Bool} {d : ByteArray} (h : k < 1 ∨ 3 < k) : formE k q d = 100 := by
  have e : kindE k q d = 100 := by
    unfold kindE
    rw [if_neg (by omega), if_neg (by omega), if_neg (by omega)]
  unfold formE
  rw [e]
  rfl
/-- data or a flag that a kind may not have -/
def badF (k : Int) (q : Bool) (d : ByteArray) : Bool := decide ((d ≠ ⟨#[]⟩ ∧ k ≠ 1) ∨ (q = true ∧ k ≠ 2))
theorem kind_bad {k : Int} {q : Bool} {d : ByteArray} (h1 : 1 ≤ k) (h3 : k ≤ 3) : kindE k q d = if badF k q d then 1 else 0 := by
  unfold kindE badF
  rcases (show k = 1 ∨ k = 2 ∨ k = 3 by omega) with rfl | rfl | rfl <;> by_cases hd : d = ⟨#[]⟩ <;> cases q <;> simp [hd]
theorem form_bad {k : Int} {q : Bool} {d : ByteArray} (h1 : 1 ≤ k) (h3 : k ≤ 3) (hb : badF k q d = true) : formE k q d = 1 := by
  unfold formE
  rw [kind_bad h1 h3, hb]
  rfl
theorem form_big {k : Int} {q : Bool} {d : ByteArray} (h1 : 1 ≤ k) (h3 : k ≤ 3) (hb : badF k q d = false) : formE k q d = if 1024 < d.size then 134 else 0 := by
  unfold formE
  rw [kind_bad h1 h3, hb]
  rfl
theorem putEA_form {A : List Ent} {p : ByteArray} {k : Int} {q : Bool} {d : ByteArray} (h1 : errOf p = 0) (h2 : nmsOf p ≠ []) (h3 : formE k q d ≠ 0) : putEA A p k q d = formE k q d := by
  unfold putEA
  rw [if_neg (by simp [h1]), if_neg h2, if_pos h3]
theorem putEA_place {A : List Ent} {p : ByteArray} {k : Int} {q : Bool} {d : ByteArray} (h1 : errOf p = 0) (h2 : nmsOf p ≠ []) (h3 : formE k q d = 0) : putEA A p k q d = placeA A (nmsOf p) k := by
  unfold putEA
  rw [if_neg (by simp [h1]), if_neg h2, if_neg (by simp [h3])]
theorem place_dir {A : List Ent} {n : List Str} {k : Int} (h : dirA A n.dropLast ≠ 0) : placeA A n k = dirA A n.dropLast := by
  unfold placeA
  rw [if_pos h]
theorem place_has {A : List Ent} (hT : TreeA A) {n : List Str} (hn : n ≠ []) {k : Int} (h : dirA A n.dropLast = 0) (hk : k ≠ 2) (hh : hasA A n = true) : placeA A n k = 130 := by
  unfold placeA
  rw [if_neg (by simp [h]), if_pos (has_some hT hn hh), if_neg hk, if_pos hh]
theorem place_new {A : List Ent} {n : List Str} {k : Int} (h : dirA A n.dropLast = 0) (hn : entAt A n = none) : placeA A n k = if 1024 ≤ A.length then 8 else 0 := by
  unfold placeA
  rw [if_neg (by simp [h]), hn]
  rfl
theorem place_old {A : List Ent} {n : List Str} {k : Int} {e : Ent} (h : dirA A n.dropLast = 0) (hh : k = 2 ∨ hasA A n = false) (hn : entAt A n = some e) : placeA A n k = 0 := by
  unfold placeA
  rw [if_neg (by simp [h]), hn]
  rcases hh with hh | hh
  · simp [hh]
  · simp [hh]
/-- what the reference's Put answers and leaves -/
def PutP (w : World) (r : Nat) (N Z : Int) (es : List Ent) (p : ByteArray) (k : Int) (q : Bool) (d : ByteArray) (e : Ending) (w' : World) : Prop := e = .returned (.int .i64 (putEA es p k q d)) ∧ RU w' r N Z (putO es p k q d) ∧ w.grownBy w' (some r)
theorem PutP.no {w w' : World} {r : Nat} {N Z : Int} {es : List Ent} {p : ByteArray} {k : Int} {q : Bool} {d : ByteArray} {c : Int} (hE : putEA es p k q d = c) (hc : c ≠ 0) (h : RU w r N Z es) (hb : Below w.heap.size w w') : PutP w r N Z es p k q d (.returned (.int .i64 c)) w' := by
  refine ⟨by rw [hE], ?_, (grown_of_below hb).but r⟩
  unfold putO
  rw [if_neg (by rw [hE]; exact hc)]
  exact h.below hb
theorem fcells_append (a b : List Fil) : fcells (a ++ b) = fcells a ++ fcells b := by simp [fcells]
theorem fcells_set {fs : List Fil} {i : Nat} (f : Fil) (hi : i < fs.length) : fcells (fs.set i f) = splice (fcells fs) (i * 4) f.cells := by
  have e1 : fs.set i f = fs.take i ++ [f] ++ fs.drop (i + 1) := by
    rw [List.set_eq_take_append_cons_drop, if_pos hi]
    simp
  have e2 : fs = fs.take i ++ [fs[i]] ++ fs.drop (i + 1) := by
    rw [← List.take_succ_eq_append_getElem hi, List.take_append_drop]
  have hl : (fcells (fs.take i)).length = i * 4 := by rw [fcells_len, List.length_take, Nat.min_eq_left (by omega)]
  have hs : ∀ g : Fil, fcells [g] = g.cells := fun g => by simp [fcells]
  rw [e1]
  conv => rhs; rw [e2]
  rw [fcells_append, fcells_append, fcells_append, fcells_append, hs, hs]
  unfold splice
  have h4 : ∀ g : Fil, g.cells.length = 4 := fun g => rfl
  have e3 : (fcells (fs.take i) ++ fs[i].cells ++ fcells (fs.drop (i + 1))).take (i * 4) = fcells (fs.take i) := by rw [List.append_assoc, List.take_left' hl]
  have e4 : (fcells (fs.take i) ++ fs[i].cells ++ fcells (fs.drop (i + 1))).drop (i * 4 + f.cells.length) = fcells (fs.drop (i + 1)) := List.drop_left' (by rw [List.length_append, hl, h4, h4])
  rw [e3, e4, List.append_assoc]
theorem take_splice {α : Type} (L new : List α) (o m : Nat) (h1 : o + new.length ≤ m) (h2 : m ≤ L.length) : (splice L o new).take m = splice (L.take m) o new := by
  unfold splice
  rw [List.take_append, List.take_append, List.length_take, Nat.min_eq_left (show o ≤ L.length by omega), List.take_take, List.take_take, Nat.min_eq_right (show o ≤ m by omega), Nat.min_eq_left (show o ≤ m by omega), List.take_of_length_le (show new.length ≤ m - o by omega), List.drop_take, show m - o - new.length = m - (o + new.length) by omega]
theorem FO.set {W : World} {B i g n cap : Nat} {fs : List Fil} (f : Fil) (h : FO W B (.slice (some ⟨g, 0, none⟩) n cap) fs) (hi : i < fs.length) : ∃ vs, Row W g vs 42 ∧ i * 4 + 4 ≤ vs.length ∧ ∀ W', Row W' g (splice vs (i * 4) f.cells) 42 → FO W' B (.slice (some ⟨g, 0, none⟩) n cap) (fs.set i f) := by
  obtain ⟨h1, ⟨h2, _⟩ | ⟨g', cap', cur, hv, hB, hh, hn, hm, hs, ht⟩⟩ := h
  · cases h2
  · simp only [Value.slice.injEq, Option.some.injEq, Addr.mk.injEq] at hv
    obtain ⟨⟨rfl, -⟩, rfl, rfl⟩ := hv
    have hc : fs.length * 4 ≤ cur.size := by rw [hs]; exact Nat.mul_le_mul_right 4 hn
    refine ⟨cur.toList, ?_, by simp; omega, fun W' hr => ?_⟩
    · unfold Row
      exact hh
    · unfold FO
      rw [List.length_set, fcells_set f hi]
      refine ⟨?_, .inr ⟨g, cap, (splice cur.toList (i * 4) f.cells).toArray, rfl, hB, hr, hn, hm, ?_, ?_⟩⟩
      · rw [← fcells_set f hi]; exact fcells_len _ |>.trans (by rw [List.length_set])
      · rw [← hs]
        unfold splice
        simp [Fil.cells]
        omega
      · rw [← ht]
        exact take_splice _ _ _ _ (by simp [Fil.cells]; omega) (by simp; omega)
end Go.Proofs.YtglfeocfhlmloaaGreat.Up
namespace Go.Proofs.YtglfeocfhlmloaaGreat.Up
open Vp (Str B bl Val cmpL parseS showS withinS IsPath checkS)
theorem at_perm {A es : List Ent} (hp : es.Perm A) (hnd : (A.map (·.names)).Nodup) (n : List Str) : entAt es n = entAt A n := by
  have hnd2 : (es.map (·.names)).Nodup := (hp.map _).nodup_iff.2 hnd
  cases h : entAt A n with
  | none =>
    rw [at_none] at h ⊢
    exact fun hm => h ((hp.map _).mem_iff.1 hm)
  | some e =>
    obtain ⟨h1, rfl⟩ := at_some h
    exact at_mem hnd2 (hp.mem_iff.2 h1)
theorem putEA_perm {A es : List Ent} (hp : es.Perm A) (hnd : (A.map (·.names)).Nodup) (p : ByteArray) (k : Int) (q : Bool) (d : ByteArray) : putEA es p k q d = putEA A p k q d := by
  unfold putEA placeA dirA hasA
  simp only [at_perm hp hnd, hp.length_eq, (hp.filter _).length_eq]
theorem putA_perm {A es : List Ent} (hp : es.Perm A) (hnd : (A.map (·.names)).Nodup) (e : Ent) (hs : (entAt A e.names).isSome = true) : (putA es e).Perm (putA A e) := by
  have key : ∀ (X : List Ent), (X.map (·.names)).Nodup → (entAt X e.names).isSome = true → (putA X e).Perm (e :: X.filter (fun x => !decide (x.names = e.names))) := by
    intro X
    induction X with
    | nil => intro _ h; cases h
    | cons a r ih =>
      intro hn h
      obtain ⟨h1, h2⟩ := List.nodup_cons.1 hn
      by_cases ha : a.names = e.names
      · have hr : r.filter (fun x => !decide (x.names = e.names)) = r := by
          refine List.filter_eq_self.2 fun x hx => ?_
          have : x.names ≠ e.names := fun hh => h1 (List.mem_map.2 ⟨x, hx, hh.trans ha.symm⟩)
          simp [this]
        simp only [putA]
        rw [if_pos ha, List.filter_cons, if_neg (by simp [ha]), hr]
      · simp only [putA]
        rw [if_neg ha, List.filter_cons, if_pos (by simp [ha])]
        have h3 : (entAt r e.names).isSome = true := by
          unfold entAt at h ⊢
          rw [List.find?_cons, decide_eq_false ha] at h
          exact h
        exact ((ih h2 h3).cons a).trans (List.Perm.swap _ _ _)
  have hnd2 : (es.map (·.names)).Nodup := (hp.map _).nodup_iff.2 hnd
  refine (key es hnd2 (by rw [at_perm hp hnd]; exact hs)).trans (List.Perm.trans ?_ (key A hnd hs).symm)
  exact (hp.filter _).cons e
theorem insE_perm (es : List Ent) (e : Ent) : (insE es e).Perm (e :: es) := by
  induction es with
  | nil => exact List.Perm.refl _
  | cons a r ih =>
    simp only [insE]
    split
    · exact (ih.cons a).trans (List.Perm.swap _ _ _)
    · exact List.Perm.refl _
theorem cmp_flip {a b : List Str} (h : cmpL a b < 0) : ¬ cmpL b a < 0 := by
  have t := Vp.cmpL_is.turn a b
  omega
theorem cmp_on {x a e : List Str} (h1 : cmpL x e < 0) (h2 : ¬ cmpL a e < 0) : cmpL x a < 0 := by
  have t := Vp.cmpL_is.turn a e
  by_cases h0 : cmpL a e = 0
  · rw [(Vp.cmpL_is.zero _ _).1 h0]
    exact h1
  · exact Vp.cmpL_is.trans _ _ _ h1 (by omega)
theorem insE_sorted {es : List Ent} {e : Ent} (h : es.Pairwise (fun s t => ¬ cmpL t.names s.names < 0)) : (insE es e).Pairwise (fun s t => ¬ cmpL t.names s.names < 0) := by
  induction es with
  | nil => simp [insE]
  | cons a r ih =>
    obtain ⟨h1, h2⟩ := List.pairwise_cons.1 h
    simp only [insE]
    split
    · rename_i hlt
      refine List.pairwise_cons.2 ⟨fun x hx => ?_, ih h2⟩
      rcases List.mem_cons.1 ((insE_perm r e).mem_iff.1 hx) with rfl | hx
      · exact cmp_flip hlt
      · exact h1 x hx
    · rename_i hge
      refine List.pairwise_cons.2 ⟨fun x hx => ?_, h⟩
      rcases List.mem_cons.1 hx with rfl | hx
      · exact hge
      · intro hlt
        exact h1 x hx (cmp_on hlt hge)
theorem putA_sorted {es : List Ent} {e : Ent} (hs : (entAt es e.names).isSome = true) (h : es.Pairwise (fun s t => ¬ cmpL t.names s.names < 0)) : (putA es e).Pairwise (fun s t => ¬ cmpL t.names s.names < 0) := by
  have h1 := putA_names es e
  have hm : e.names ∈ es.map (·.names) := by
    refine Classical.byContradiction fun hh => ?_
    rw [at_none.2 hh] at hs
    cases hs
  rw [if_pos hm] at h1
  have h2 : (es.map (·.names)).Pairwise (fun s t => ¬ cmpL t s < 0) := by rw [List.pairwise_map]; exact h
  rw [← h1, List.pairwise_map] at h2
  exact h2
/-- the reference's Put keeps the order of what the program's Put makes -/
theorem ord_put {A es : List Ent} (hT : TreeA A) (ho : OrdA A es) (p : ByteArray) (k : Int) (q : Bool) (d : ByteArray) : OrdA (putU A p k q d) (putO es p k q d) := by
  unfold putU putO
  rw [putEA_perm ho.1 hT.nd, at_perm ho.1 hT.nd]
  split
  · split
    · rename_i hs
      exact ⟨putA_perm ho.1 hT.nd ⟨nmsOf p, k, q, d⟩ hs, putA_sorted (e := ⟨nmsOf p, k, q, d⟩) (by rw [at_perm ho.1 hT.nd]; exact hs) ho.2⟩
    · rename_i hs
      have hn : (⟨nmsOf p, k, q, d⟩ : Ent).names ∉ A.map (·.names) := at_none.1 (by simpa using hs)
      refine ⟨?_, insE_sorted ho.2⟩
      rw [putA_new hn]
      exact (insE_perm _ _).trans ((ho.1.cons _).trans (List.perm_append_singleton _ _).symm)
  · exact ho
theorem ord_drop {A es : List Ent} (ho : OrdA A es) (xs : List Str) : OrdA (A.filter (outE xs)) (es.filter (outE xs)) := ⟨ho.1.filter _, ho.2.filter _⟩
end Go.Proofs.YtglfeocfhlmloaaGreat.Up
