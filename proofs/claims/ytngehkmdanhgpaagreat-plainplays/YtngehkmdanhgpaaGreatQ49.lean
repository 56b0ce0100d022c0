/-
  The reference's rename, all of it. New of both. Plain facts. What the reference tells and leaves is what the program tells and leaves: kind by kind. Plain facts.
-/
import Derived.Laws.CopyOwn
import Derived.Deep.RegionLaw
import Derived.Deep.DrawnRows
import Derived.Deep.CutRange
import Derived.Lib.SlBytesConst
import Derived.Lib.AppendZeros
import Derived.Laws.Tables
import Derived.Test.YtngehkmdanhgpaaGreatQ00
import Derived.Test.YtngehkmdanhgpaaGreatQ01
import Derived.Test.YtngehkmdanhgpaaGreatQ02
import Derived.Test.YtngehkmdanhgpaaGreatQ03
import Derived.Test.YtngehkmdanhgpaaGreatQ04
import Derived.Test.YtngehkmdanhgpaaGreatQ05
import Derived.Test.YtngehkmdanhgpaaGreatQ06
import Derived.Test.YtngehkmdanhgpaaGreatQ07
import Derived.Test.YtngehkmdanhgpaaGreatQ08
import Derived.Test.YtngehkmdanhgpaaGreatQ09
import Derived.Test.YtngehkmdanhgpaaGreatQ10
import Derived.Test.YtngehkmdanhgpaaGreatQ11
import Derived.Test.YtngehkmdanhgpaaGreatQ12
import Derived.Test.YtngehkmdanhgpaaGreatQ13
import Derived.Test.YtngehkmdanhgpaaGreatQ14
import Derived.Test.YtngehkmdanhgpaaGreatQ15
import Derived.Test.YtngehkmdanhgpaaGreatQ16
import Derived.Test.YtngehkmdanhgpaaGreatQ17
import Derived.Test.YtngehkmdanhgpaaGreatQ18
import Derived.Test.YtngehkmdanhgpaaGreatQ19
import Derived.Test.YtngehkmdanhgpaaGreatQ20
import Derived.Test.YtngehkmdanhgpaaGreatQ21
import Derived.Test.YtngehkmdanhgpaaGreatQ22
import Derived.Test.YtngehkmdanhgpaaGreatQ23
import Derived.Test.YtngehkmdanhgpaaGreatQ24
import Derived.Test.YtngehkmdanhgpaaGreatQ25
import Derived.Test.YtngehkmdanhgpaaGreatQ26
import Derived.Test.YtngehkmdanhgpaaGreatQ27
import Derived.Test.YtngehkmdanhgpaaGreatQ28
import Derived.Test.YtngehkmdanhgpaaGreatQ29
import Derived.Test.YtngehkmdanhgpaaGreatQ30
import Derived.Test.YtngehkmdanhgpaaGreatQ31
import Derived.Test.YtngehkmdanhgpaaGreatQ32
import Derived.Test.YtngehkmdanhgpaaGreatQ33
import Derived.Test.YtngehkmdanhgpaaGreatQ34
import Derived.Test.YtngehkmdanhgpaaGreatQ35
import Derived.Test.YtngehkmdanhgpaaGreatQ36
import Derived.Test.YtngehkmdanhgpaaGreatQ37
import Derived.Test.YtngehkmdanhgpaaGreatQ38
import Derived.Test.YtngehkmdanhgpaaGreatQ39
import Derived.Test.YtngehkmdanhgpaaGreatQ40
import Derived.Test.YtngehkmdanhgpaaGreatQ45
import Derived.Test.YtngehkmdanhgpaaGreatQ46
import Derived.Test.YtngehkmdanhgpaaGreatQ47
import Derived.Test.YtngehkmdanhgpaaGreatQ48
namespace Go.Proofs.YtngehkmdanhgpaaGreat.Pl
open Go.RowKit
open Vp (Str B bl Val cmpL parseS showS splitS withinS IsPath sv)
theorem RmP.any {w w' : World} {r : Nat} {es es1 es2 : List Ent} {c : Int} {e : Ending} (hc : c ≠ 0) (h : RmP w r es es1 c e w') : RmP w r es es2 c e w' := by
  obtain ⟨h1, h2, h3⟩ := h
  rw [if_neg hc] at h2
  exact ⟨h1, by rw [if_neg hc]; exact h2, h3⟩
theorem look_at {es : List Ent} {xs : List Str} (h0 : xs ≠ []) {X : Ent} (h : lookR es xs = (X, 0)) : entAt es xs = some X := by
  obtain ⟨ps, hps⟩ : ∃ ps, (inits xs).drop 1 = ps ++ [xs] := by
    unfold inits
    rw [List.range_succ, List.map_append, List.map_cons, List.map_nil, List.take_length]
    obtain ⟨n, hn⟩ : ∃ n, xs.length = n + 1 := ⟨xs.length - 1, by have := List.length_pos_iff.2 h0; omega⟩
    rw [hn, List.range_succ_eq_map, List.map_cons, List.cons_append, List.drop_succ_cons, List.drop_zero]
    exact ⟨_, rfl⟩
  unfold lookR at h
  rw [hps] at h
  exact goA_at es ps rootE X xs h
theorem rrename_any {w : World} {r : Nat} {es : List Ent} (h : RF w r es) (hg : GoodL es) (hnd : (es.map (·.names)).Nodup) (hn : es.length ≤ 40000) {pv qv : Value} {ps qs : List Str} (hp : Val w pv ps) (hq : Val w qv qs) (gp : Gp ps) (gq : Gp qs) (k a z : Int) (p t d : ByteArray) :
    Calls Tryz.prog 40 #[.pointer (some ⟨r, 0, none⟩), .agg #[.int .i64 k, .string p, .string t, .string d, .int .i64 a, .int .i64 z], pv, qv] w fun e w' => RmP w r es (if ps = qs then es else rnL es ps qs (lookR es ps).1) (rnR es ps qs) e w' := by
  by_cases c1 : ps = []
  · have e1 : rnR es ps qs = 132 := by unfold rnR; rw [if_pos (.inl c1)]
    rw [e1]
    exact (rn_l1 h hg hnd hn hp hq gp gq k a z p t d c1).mono fun _ _ x => x.any (by decide)
  by_cases c2 : qs = []
  · have e1 : rnR es ps qs = 132 := by unfold rnR; rw [if_pos (.inr c2)]
    rw [e1]
    exact (rn_l2 h hg hnd hn hp hq gp gq k a z p t d c1 c2).mono fun _ _ x => x.any (by decide)
  have e0 : ¬ (ps = [] ∨ qs = []) := fun x => x.elim c1 c2
  obtain ⟨⟨X, kk⟩, hX⟩ : ∃ L, lookR es ps = L := ⟨_, rfl⟩
  by_cases c3 : kk = 0
  rotate_left
  · have e1 : rnR es ps qs = kk := by unfold rnR; rw [if_neg e0, hX, if_pos c3]
    rw [e1]
    exact (rn_l3 h hg hnd hn hp hq gp gq k a z p t d c1 c2 X kk hX c3).mono fun _ _ x => x.any c3
  subst c3
  by_cases c4 : dirR es qs = 0
  rotate_left
  · have e1 : rnR es ps qs = dirR es qs := by unfold rnR; rw [if_neg e0, hX, if_neg (by simp), if_pos c4]
    rw [e1]
    exact (rn_l4 h hg hnd hn hp hq gp gq k a z p t d c1 c2 X hX _ rfl c4).mono fun _ _ x => x.any c4
  by_cases c5 : ps = qs
  · have e1 : rnR es ps qs = 0 := by unfold rnR; rw [if_neg e0, hX, if_neg (by simp), if_neg (by simp [c4]), if_pos c5]
    rw [e1, if_pos c5]
    exact rn_l5 h hg hnd hn hp hq gp gq k a z p t d c1 c2 X hX c4 c5
  rw [if_neg c5, hX]
  by_cases c6 : withinS qs ps = true
  · have e1 : rnR es ps qs = 131 := by unfold rnR; rw [if_neg e0, hX, if_neg (by simp), if_neg (by simp [c4]), if_neg c5, if_pos c6]
    rw [e1]
    exact (rn_l6 h hg hnd hn hp hq gp gq k a z p t d c1 c2 X hX c4 c5 c6).mono fun _ _ x => x.any (by decide)
  have c6' : withinS qs ps = false := by simpa using c6
  have hxn : X.names = ps := (at_names (look_at c1 hX)).1
  have e1 : rnR es ps qs = if covR es X.dir qs ≠ 0 then covR es X.dir qs else if (X :: es.filter (belowE ps)).any (deepE ps qs) = true then 42 else 0 := by
    unfold rnR; rw [if_neg e0, hX, if_neg (by simp), if_neg (by simp [c4]), if_neg c5, if_neg c6]
  cases hO : entAt es qs with
  | none =>
    have e2 : covR es X.dir qs = 0 := by unfold covR; rw [hO]
    rw [e1, e2, if_neg (by decide)]
    exact rn_none h hg hnd hn hp hq gp gq k a z p t d c1 c2 X hX hxn c4 c5 c6' hO
  | some O =>
    cases hxd : X.dir with
    | false =>
      cases hod : O.dir with
      | true =>
        have e2 : covR es X.dir qs = 71 := by unfold covR; rw [hO, hxd]; simp [hod]
        rw [e1, e2, if_pos (by decide)]
        exact (rn_l7 h hg hnd hn hp hq gp gq k a z p t d c1 c2 X hX c4 c5 c6' O hO hxd hod).mono fun _ _ x => x.any (by decide)
      | false =>
        have e2 : covR es X.dir qs = 0 := by unfold covR; rw [hO, hxd]; simp [hod]
        rw [e1, e2, if_neg (by decide)]
        exact rn_file h hg hnd hn hp hq gp gq k a z p t d c1 c2 X hX hxn c4 c5 c6' O hO hxd hod
    | true =>
      cases hod : O.dir with
      | false =>
        have e2 : covR es X.dir qs = 70 := by unfold covR; rw [hO, hxd]; simp [hod]
        rw [e1, e2, if_pos (by decide)]
        exact (rn_l8 h hg hnd hn hp hq gp gq k a z p t d c1 c2 X hX c4 c5 c6' O hO hxd hod).mono fun _ _ x => x.any (by decide)
      | true =>
        by_cases hbl : 0 < (es.filter (belowE qs)).length
        · have e2 : covR es X.dir qs = 130 := by unfold covR; rw [hO, hxd]; simp [hod, hbl]
          rw [e1, e2, if_pos (by decide)]
          exact (rn_l9 h hg hnd hn hp hq gp gq k a z p t d c1 c2 X hX c4 c5 c6' O hO hxd hod hbl).mono fun _ _ x => x.any (by decide)
        · have e2 : covR es X.dir qs = 0 := by unfold covR; rw [hO, hxd]; simp [hod, hbl]
          rw [e1, e2, if_neg (by decide)]
          exact rn_dir h hg hnd hn hp hq gp gq k a z p t d c1 c2 X hX hxn c4 c5 c6' O hO hxd hod hbl
end Go.Proofs.YtngehkmdanhgpaaGreat.Pl
namespace Go.Proofs.YtngehkmdanhgpaaGreat.Pl
open Go.RowKit
open Vp (Str B bl Val cmpL parseS showS splitS withinS IsPath)
open Rf (Fil Fls sortF insF ChkA G1 G2 G3 G4 G5 G6 AllTo)
theorem parse_no8 (s : Str) : (parseS s).2 ≠ 8 := by
  unfold parseS
  repeat' split
  all_goals simp
theorem err_same (f : Fil) : f.err = errOf f.path := rfl
theorem nmsL_same (fs : List Fil) : Rf.nmsL fs = (fs.map entOf).map (·.names) := by
  unfold Rf.nmsL
  rw [List.map_map]
  rfl
theorem all_to {P : Fil → Prop} {fs : List Fil} (h : AllTo P fs fs.length) {f : Fil} (hf : f ∈ fs) : P f := by
  obtain ⟨i, hi⟩ := List.getElem?_of_mem hf
  exact h i f (List.getElem?_eq_some_iff.1 hi).1 hi
theorem of_all {P : Fil → Prop} {fs : List Fil} (h : ∀ f ∈ fs, P f) : AllTo P fs fs.length := fun _ f _ hi => h f (List.mem_of_getElem? hi)
theorem g1_first {fs : List Fil} (h : G1 fs) : firstErr fs = 0 := firstErr_none fun _ hf => all_to h hf
theorem bytes_nil {x : ByteArray} : x.size = 0 ↔ x = ⟨#[]⟩ := by
  constructor
  · intro h
    apply ByteArray.ext
    exact Array.eq_empty_of_size_eq_zero h
  · rintro rfl
    rfl
theorem argP_iff (f : Fil) : argP f = true ↔ f.dir = true ∧ f.data ≠ ⟨#[]⟩ := by
  unfold argP
  rw [Bool.and_eq_true, Bool.not_eq_true', decide_eq_false_iff_not, bytes_nil]
theorem g2_any {fs : List Fil} (h : G2 fs) : fs.any argP = false := by
  rw [List.any_eq_false]
  exact fun f hf hc => all_to h hf ((argP_iff f).1 hc)
theorem ng2_any {fs : List Fil} (h : ¬ G2 fs) : fs.any argP = true := by
  cases hc : fs.any argP with
  | true => rfl
  | false =>
    rw [List.any_eq_false] at hc
    exact absurd (of_all fun f hf h2 => hc f hf ((argP_iff f).2 h2)) h
theorem g3_any {fs : List Fil} (h : G3 fs) : fs.any bigP = false := by
  rw [List.any_eq_false]
  intro f hf hc
  have := all_to h hf
  unfold bigP at hc
  have := of_decide_eq_true hc
  omega
theorem ng3_any {fs : List Fil} (h : ¬ G3 fs) : fs.any bigP = true := by
  cases hc : fs.any bigP with
  | true => rfl
  | false =>
    rw [List.any_eq_false] at hc
    refine absurd (of_all fun f hf => ?_) h
    have := hc f hf
    unfold bigP at this
    rw [decide_eq_true_eq] at this
    omega
theorem there_nodup (ps : List (List Str)) : ∀ j, j ≤ ps.length → (Rf.There ps j ↔ ([] :: ps.take j).Nodup)
  | 0, _ => by simp [Rf.There]
  | j + 1, hj => by
    have ih := there_nodup ps j (by omega)
    obtain ⟨x, hx⟩ : ∃ x, ps[j]? = some x := ⟨_, List.getElem?_eq_getElem (by omega)⟩
    have hT : Rf.There ps (j + 1) ↔ Rf.There ps j ∧ x ≠ [] ∧ x ∉ ps.take j := by
      constructor
      · intro h
        exact ⟨fun i y hi hy => h i y (by omega) hy, h j x (by omega) hx⟩
      · rintro ⟨h1, h2⟩ i y hi hy
        by_cases e : i = j
        · subst e
          rw [hx] at hy
          obtain rfl := Option.some.inj hy
          exact h2
        · exact h1 i y (by omega) hy
    rw [hT, ih, List.take_add_one, hx, Option.toList_some, ← List.cons_append]
    rw [List.nodup_append]
    constructor
    · rintro ⟨h1, h2, h3⟩
      refine ⟨h1, by simp, fun a ha b hb e => ?_⟩
      obtain rfl : b = x := by simpa using hb
      subst e
      rcases List.mem_cons.1 ha with h4 | h4
      · exact h2 h4
      · exact h3 h4
    · rintro ⟨h1, _, h3⟩
      exact ⟨h1, fun e => h3 [] (by simp) x (by simp) e.symm, fun hm => h3 x (by simp [hm]) x (by simp) rfl⟩
theorem g4_nodup (fs : List Fil) : G4 fs ↔ ((newA fs).map (·.names)).Nodup := by
  have h := there_nodup (Rf.nmsL fs) (Rf.nmsL fs).length (Nat.le_refl _)
  rw [List.take_length] at h
  have h1 : (Rf.nmsL fs).length = fs.length := by unfold Rf.nmsL; simp
  rw [h1] at h
  unfold G4 newA
  rw [h, List.map_cons, nmsL_same]
  rfl
theorem first_at {x : List Str} : ∀ (ps : List (List Str)), x ∈ ps → ∃ k : Nat, ps[k]? = some x ∧ ∀ j : Nat, j < k → ps[j]? ≠ some x
  | [], h => by simp at h
  | y :: r, h => by
    by_cases e : y = x
    · exact ⟨0, by simp [e], fun j hj => by omega⟩
    · obtain ⟨k, h1, h2⟩ := first_at r ((List.mem_cons.1 h).resolve_left (fun z => e z.symm))
      refine ⟨k + 1, by simpa using h1, fun j hj => ?_⟩
      cases j with
      | zero => simpa using e
      | succ j => simpa using h2 j (by omega)
theorem noneA_iff {fs : List Fil} (e : Ent) : noneA (newA fs) e = true ↔ ¬ (e.names.dropLast = [] ∨ e.names.dropLast ∈ Rf.nmsL fs) := by
  unfold noneA
  rw [Bool.not_eq_true', nmsL_same]
  constructor
  · intro h hc
    have h1 : entAt (newA fs) e.names.dropLast = none := by simpa using h
    rw [at_noneP] at h1
    unfold newA at h1
    rw [List.map_cons, List.mem_cons, not_or] at h1
    rcases hc with hc | hc
    · exact h1.1 (hc.trans rfl)
    · exact h1.2 hc
  · intro h
    rw [not_or] at h
    have h1 : entAt (newA fs) e.names.dropLast = none := by
      rw [at_noneP]
      unfold newA
      rw [List.map_cons, List.mem_cons, not_or]
      exact ⟨fun x => h.1 (x.trans rfl), h.2⟩
    rw [h1]
    rfl
theorem g5_any {fs : List Fil} (h : G5 fs) : (fs.map entOf).any (noneA (newA fs)) = false := by
  rw [List.any_eq_false]
  intro e he hc
  obtain ⟨i, hi⟩ := List.getElem?_of_mem he
  have hl := (List.getElem?_eq_some_iff.1 hi).1
  rw [List.length_map] at hl
  exact (noneA_iff e).1 hc (h i e.names hl (by rw [nmsL_same, List.getElem?_map, hi]; rfl))
theorem ng5_any {fs : List Fil} (h : ¬ G5 fs) : (fs.map entOf).any (noneA (newA fs)) = true := by
  cases hc : (fs.map entOf).any (noneA (newA fs)) with
  | true => rfl
  | false =>
    rw [List.any_eq_false] at hc
    refine absurd (fun i x hi hx => ?_) h
    rw [nmsL_same, List.getElem?_map] at hx
    cases he : (fs.map entOf)[i]? with
    | none => rw [he] at hx; cases hx
    | some e =>
      rw [he] at hx
      obtain rfl := Option.some.inj hx
      have := hc e (List.mem_of_getElem? he)
      rw [noneA_iff] at this
      exact Classical.byContradiction this
theorem fileA_iff {fs : List Fil} (h4 : G4 fs) (h5 : G5 fs) {e : Ent} (he : e ∈ fs.map entOf) : fileA (newA fs) e = true ↔ Rf.Flat1 fs e.names := by
  have hA := (g4_nodup fs).1 h4
  have hmem : e.names.dropLast = [] ∨ e.names.dropLast ∈ Rf.nmsL fs := by
    obtain ⟨i, hi⟩ := List.getElem?_of_mem he
    have hl := (List.getElem?_eq_some_iff.1 hi).1
    rw [List.length_map] at hl
    exact h5 i e.names hl (by rw [nmsL_same, List.getElem?_map, hi]; rfl)
  have hroot : entAt (newA fs) [] = some rootE := at_mem hA (e := rootE) (by unfold newA; simp)
  have hat : ∀ f ∈ fs, entAt (newA fs) f.nms = some (entOf f) := fun f hf => at_mem hA (e := entOf f) (by unfold newA; exact List.mem_cons_of_mem _ (List.mem_map.2 ⟨f, hf, rfl⟩))
  unfold fileA
  rw [Bool.not_eq_true']
  constructor
  · intro h
    have h0 : e.names.dropLast ≠ [] := by
      intro e0
      rw [e0, hroot] at h
      cases h
    refine ⟨h0, ?_⟩
    have hm := hmem.resolve_left h0
    obtain ⟨k, f, hk, hf, hp⟩ : ∃ (k : Nat) (f : Fil), Rf.IsPlace (Rf.nmsL fs) e.names.dropLast (k : Int) ∧ fs[k]? = some f ∧ f.nms = e.names.dropLast := by
      obtain ⟨k, hk, hmin⟩ := first_at _ hm
      have hl := (List.getElem?_eq_some_iff.1 hk).1
      unfold Rf.nmsL at hl
      rw [List.length_map] at hl
      refine ⟨k, fs[k]'hl, .inr ⟨k, rfl, hk, hmin⟩, List.getElem?_eq_getElem hl, ?_⟩
      unfold Rf.nmsL at hk
      rw [List.getElem?_map, List.getElem?_eq_getElem hl] at hk
      exact Option.some.inj hk
    refine ⟨k, f, hk, hf, ?_⟩
    have h3 := hat f (List.mem_of_getElem? hf)
    rw [hp] at h3
    rw [h3] at h
    exact h
  · rintro ⟨h0, k, f, hk, hf, hd⟩
    have hp : f.nms = e.names.dropLast := by
      rcases hk with ⟨hk, _⟩ | ⟨i, hi, h2, _⟩
      · omega
      · obtain rfl : k = i := by omega
        unfold Rf.nmsL at h2
        rw [List.getElem?_map, hf] at h2
        exact Option.some.inj h2
    have h3 := hat f (List.mem_of_getElem? hf)
    rw [hp] at h3
    rw [h3]
    exact hd
theorem flat_iff {fs : List Fil} (h4 : G4 fs) (h5 : G5 fs) : (fs.map entOf).any (fileA (newA fs)) = true ↔ Rf.FlatTo fs fs.length := by
  rw [List.any_eq_true]
  constructor
  · rintro ⟨e, he, hf⟩
    obtain ⟨i, hi⟩ := List.getElem?_of_mem he
    have hl := (List.getElem?_eq_some_iff.1 hi).1
    rw [List.length_map] at hl
    exact ⟨i, e.names, hl, by rw [nmsL_same, List.getElem?_map, hi]; rfl, (fileA_iff h4 h5 he).1 hf⟩
  · rintro ⟨i, x, hi, hx, hF⟩
    rw [nmsL_same, List.getElem?_map] at hx
    cases he : (fs.map entOf)[i]? with
    | none => rw [he] at hx; cases hx
    | some e =>
      rw [he] at hx
      obtain rfl := Option.some.inj hx
      exact ⟨e, List.mem_of_getElem? he, (fileA_iff h4 h5 (List.mem_of_getElem? he)).2 hF⟩
theorem new_data {fs : List Fil} (h1 : G1 fs) (h : dataE fs ≠ 0) : newE fs = dataE fs := by
  unfold newE
  rw [if_neg (by rw [g1_first h1]; decide), if_pos h]
theorem new_nd {fs : List Fil} (h1 : G1 fs) (h2 : G2 fs) (h3 : G3 fs) : newE fs = if ¬ ((newA fs).map (·.names)).Nodup then 5 else dirsA (newA fs) (fs.map entOf) := by
  have hd : dataE fs = 0 := by
    unfold dataE
    rw [g2_any h2, g3_any h3]
    rfl
  unfold newE
  rw [if_neg (by rw [g1_first h1]; decide), if_neg (by rw [hd]; decide)]
theorem new_fine {fs : List Fil} (h1 : G1 fs) (h2 : G2 fs) (h3 : G3 fs) (h4 : G4 fs) (h5 : G5 fs) (h6 : G6 fs) : newE fs = 0 := by
  rw [new_nd h1 h2 h3, if_neg (not_not_intro ((g4_nodup fs).1 h4))]
  unfold dirsA
  rw [g5_any h5]
  cases hc : (fs.map entOf).any (fileA (newA fs)) with
  | true => exact absurd ((flat_iff h4 h5).1 hc) h6
  | false => rfl
/-- what is wrong with a list is the same -/
theorem chk_new {fs : List Fil} {k : Int} (h : ChkA fs k) : newE fs = if k = 8 then 0 else k := by
  cases h with
  | path h =>
    obtain ⟨i, f, hi, he, h0, hb⟩ := h
    have h1 := firstErr_at hi (by rw [← err_same, he]; exact h0) (fun j f' hj hf' => hb j f' hj hf')
    rw [← err_same, he] at h1
    have h8 : k ≠ 8 := by rw [← he]; exact parse_no8 _
    unfold newE
    rw [if_pos (by rw [h1]; exact h0), if_neg h8, h1]
  | arg h1 h2 =>
    have hd : dataE fs = 1 := by unfold dataE; rw [ng2_any h2]; rfl
    rw [new_data h1 (by rw [hd]; decide), hd]
    rfl
  | big h1 h2 h3 =>
    have hd : dataE fs = 134 := by unfold dataE; rw [g2_any h2, ng3_any h3]; rfl
    rw [new_data h1 (by rw [hd]; decide), hd]
    rfl
  | there h1 h2 h3 h4 =>
    rw [new_nd h1 h2 h3, if_pos (fun x => h4 ((g4_nodup fs).2 x))]
    rfl
  | lack h1 h2 h3 h4 h5 =>
    rw [new_nd h1 h2 h3, if_neg (not_not_intro ((g4_nodup fs).1 h4))]
    unfold dirsA
    rw [ng5_any h5]
    rfl
  | flat h1 h2 h3 h4 h5 h6 =>
    rw [new_nd h1 h2 h3, if_neg (not_not_intro ((g4_nodup fs).1 h4))]
    unfold dirsA
    rw [g5_any h5, (flat_iff h4 h5).2 (Classical.byContradiction h6)]
    rfl
  | many h1 h2 h3 h4 h5 h6 _ => exact new_fine h1 h2 h3 h4 h5 h6
theorem good_new {fs : List Fil} (h : Rf.Good fs) : newE fs = 0 := new_fine h.g1 h.g2 h.g3 h.g4 h.g5 h.g6
theorem sort_fil : ∀ (ms : List Fil) (es : List Ent), (∀ g ∈ es, Gp g.names) → ms.foldl (fun acc f => insF acc f.clean) (es.map Ent.fil) = (insAll es (ms.map entOf)).map Ent.fil
  | [], _, _ => rfl
  | f :: ms, es, h => by
    have h1 := ins_fil es (entOf f) h (gp_parse _)
    have h2 : (entOf f).fil = f.clean := rfl
    rw [h2] at h1
    rw [List.foldl_cons, h1]
    exact sort_fil ms (insE es (entOf f)) (fun g hg => by
      rcases List.mem_cons.1 ((insE_perm es (entOf f)).mem_iff.1 hg) with rfl | hg
      · exact gp_parse _
      · exact h g hg)
theorem new_ref {fs : List Fil} (h : newE fs = 0) : sortF fs = (insAll [] (fs.map entOf)).map Ent.fil ∧ Ref (newA fs) (insAll [] (fs.map entOf)) := by
  refine ⟨sort_fil fs [] (by simp), ?_, insAll_sorted _ _ List.Pairwise.nil⟩
  have hnd : ((newA fs).map (·.names)).Nodup := by
    unfold newE at h
    split at h
    · rename_i h1; exact absurd h h1
    split at h
    · rename_i h1; exact absurd h h1
    split at h
    · cases h
    · rename_i h1; exact Classical.byContradiction h1
  refine (insAll_perm _ _).trans ?_
  rw [List.append_nil]
  unfold newA at hnd ⊢
  rw [List.map_cons, List.nodup_cons] at hnd
  have h1 : belowE [] rootE = false := by decide
  rw [List.filter_cons, h1]
  refine List.Perm.of_eq (List.filter_eq_self.2 fun e he => ?_).symm
  rw [below_root, decide_eq_true_eq]
  exact fun e2 => hnd.1 (List.mem_map.2 ⟨e, he, e2⟩)
end Go.Proofs.YtngehkmdanhgpaaGreat.Pl
namespace Go.Proofs.YtngehkmdanhgpaaGreat.Pl
open Go.RowKit
open Vp (Str B bl Val cmpL parseS showS splitS withinS IsPath)
open Nd (checkS)
theorem tells_7 {A A' : List Ent} {a z : Int} {p t d : ByteArray} {R : RA} (hc : checkS ⟨7, p, t, d, a, z⟩ = 0) (h : Tells A 7 a z p t d R A') : R = RA.err (rnE A (nmsOf p) (nmsOf t)) ∧ Moved A (nmsOf p) (nmsOf t) A' := by
  unfold Tells at h
  rw [if_neg (not_not_intro hc), if_pos rfl] at h
  exact h
theorem tells_9 {A A' : List Ent} {a z : Int} {p t d : ByteArray} {R : RA} (hc : checkS ⟨9, p, t, d, a, z⟩ = 0) (h : Tells A 9 a z p t d R A') : Listed A (nmsOf p) R ∧ A' = A := by
  unfold Tells at h
  rw [if_neg (not_not_intro hc), if_neg (by decide), if_pos rfl] at h
  exact h
theorem tells_det {A A' : List Ent} {k a z : Int} {p t d : ByteArray} {R : RA} (hc : checkS ⟨k, p, t, d, a, z⟩ = 0) (h7 : k ≠ 7) (h9 : k ≠ 9) (h : Tells A k a z p t d R A') : R = (detT A k a z p d).1 ∧ A' = (detT A k a z p d).2 := by
  unfold Tells at h
  rw [if_neg (not_not_intro hc), if_neg h7, if_neg h9] at h
  exact h
theorem tells_err {A A' : List Ent} {k a z : Int} {p t d : ByteArray} {R : RA} (hc : checkS ⟨k, p, t, d, a, z⟩ ≠ 0) (h : Tells A k a z p t d R A') : R = RA.err (checkS ⟨k, p, t, d, a, z⟩) ∧ A' = A := by
  unfold Tells at h
  rw [if_pos hc] at h
  exact h
theorem addA_no {A : List Ent} {n : List Str} {d : Bool} {c : Int} (h : addE A n = c) (hc : c ≠ 0) : addA A n d = A := by
  unfold addA
  rw [if_neg (by rw [h]; exact hc)]
theorem add_nil {A : List Ent} : addE A [] = 5 := by
  unfold addE
  rw [if_pos rfl]
theorem add_dir {A es : List Ent} (h : Ref A es) (hT : Tree A) (hA : (A.map (·.names)).Nodup) {n : List Str} (h0 : n ≠ []) {kk : Int} (hD : dirR es n = kk) (hk : kk ≠ 0) : addE A n = kk := by
  rw [dir_ref h hT hA] at hD
  unfold addE
  rw [if_neg h0, hD, if_pos hk]
theorem add_at {A es : List Ent} (h : Ref A es) (hT : Tree A) (hA : (A.map (·.names)).Nodup) {n : List Str} (h0 : n ≠ []) (hD : dirR es n = 0) : addE A n = if (entAt es n).isSome then 5 else 0 := by
  rw [dir_ref h hT hA] at hD
  unfold addE
  rw [if_neg h0, hD, if_neg (by decide), h.at_ hA h0]
theorem zeros_succ (n : Nat) : zerosB (n + 1) = zerosB n ++ ⟨#[0]⟩ := by
  apply ByteArray.ext
  unfold zerosB
  rw [repeatL_zero, repeatL_zero, List.replicate_succ', ByteArray.data_append]
  apply Array.toList_inj.1
  rw [Array.toList_append]
theorem tr_cut (x : ByteArray) : ∀ z, trQ x z = trD x z
  | 0 => by
    unfold trQ trD
    apply ByteArray.ext
    simp [zerosB, repeatL_zero]
  | z + 1 => by
    have ih := tr_cut x z
    unfold trQ
    rw [ih]
    unfold trD
    by_cases h : z < x.size
    · rw [if_pos h, Nat.min_eq_left (by omega), Nat.min_eq_left (by omega), Nat.sub_self, Nat.sub_self]
      apply ByteArray.ext
      simp [zerosB, repeatL_zero]
    · rw [if_neg h, Nat.min_eq_right (by omega), Nat.min_eq_right (by omega), show z + 1 - x.size = z - x.size + 1 by omega, zeros_succ]
      apply ByteArray.ext
      simp
theorem wr_some {A es : List Ent} (h : Ref A es) (hT : Tree A) (hA : (A.map (·.names)).Nodup) {xs : List Str} (_hx : xs ≠ []) {i : Nat} {x : Ent} (hi : es[i]? = some x) (hn : x.names = xs) : findA A xs = (x, 0) := by
  have h1 := h.mem.1 (List.mem_of_getElem? hi)
  have h2 := at_mem hA h1.1
  rw [hn] at h2
  exact hT.find h2
theorem rn_ref {A es : List Ent} (h : Ref A es) (hT : Tree A) (hA : (A.map (·.names)).Nodup) {p q : List Str} (gq : Gp q) : rnR es p q = rnE A p q := by
  unfold rnR rnE
  by_cases c0 : p = [] ∨ q = []
  · have : endsE A p q = 132 := by unfold endsE; rw [if_pos c0]
    rw [if_pos c0, this, if_pos (by decide)]
  rw [if_neg c0]
  have c1 : p ≠ [] := fun e => c0 (.inl e)
  have c2 : q ≠ [] := fun e => c0 (.inr e)
  have hE : endsE A p q = if (findA A p).2 ≠ 0 then (findA A p).2 else (findDA A q.dropLast).2 := by unfold endsE; rw [if_neg c0]
  rw [look_ref h hT hA c1, dir_ref h hT hA, hE]
  by_cases c3 : (findA A p).2 = 0
  rotate_left
  · simp only [if_pos c3]
  simp only [if_neg (not_not_intro c3)]
  by_cases c4 : (findDA A q.dropLast).2 = 0
  rotate_left
  · simp only [if_pos c4]
  simp only [if_neg (not_not_intro c4)]
  by_cases c5 : p = q
  · rw [if_pos c5, if_pos c5]
  rw [if_neg c5, if_neg c5]
  unfold mvE
  by_cases c6 : withinS q p = true
  · rw [if_pos c6, if_pos c6]
  rw [if_neg c6, if_neg c6]
  have hx := findA_at c3
  have hcv : covR es (findA A p).1.dir q = cvE A p q := by
    unfold covR cvE
    rw [h.at_ hA c2, hx]
    cases hO : entAt A q with
    | none => rfl
    | some O =>
      simp only [Option.map_some, Option.getD_some]
      unfold covE
      rw [(filt_ref h q).length_eq]
      cases hxd : (findA A p).1.dir with
      | true => simp
      | false =>
        cases hod : O.dir with
        | true => simp
        | false =>
          have hq := hT.find hO
          simp [file_below hT hA hq hod]
  rw [hcv]
  have hdp : ((findA A p).1 :: es.filter (belowE p)).any (deepE p q) = (A.filter (belowE p)).any (deepE p q) := by
    rw [List.any_cons]
    have h1 : deepE p q (findA A p).1 = false := by
      unfold deepE
      rw [(at_names hx).1, decide_eq_false_iff_not]
      have := gq.2
      omega
    rw [h1, Bool.false_or]
    exact (filt_ref h p).any_eq
  rw [hdp]
end Go.Proofs.YtngehkmdanhgpaaGreat.Pl
