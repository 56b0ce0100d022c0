/-
  What the reference leaves is the order of what the program leaves. Plain facts. Few, fits. A file system that New makes is a tree; what stays. New, stat and list of what is there, told in full. Plain facts for PlainTree: the kids of all that is listed, told together; the order; sums. A value that reads as operations; fits of a script. Stat and list of what is listed.
-/
import Derived.Laws.CopyOwn
import Derived.Deep.RegionLaw
import Derived.Deep.DrawnRows
import Derived.Deep.CutRange
import Derived.Lib.SlBytesConst
import Derived.Lib.AppendZeros
import Derived.Laws.Tables
import Derived.Test.YtngehkmdanhgpaaGreatQ00
import Derived.Test.YtngehkmdanhgpaaGreatQ01
import Derived.Test.YtngehkmdanhgpaaGreatQ02
import Derived.Test.YtngehkmdanhgpaaGreatQ03
import Derived.Test.YtngehkmdanhgpaaGreatQ04
import Derived.Test.YtngehkmdanhgpaaGreatQ05
import Derived.Test.YtngehkmdanhgpaaGreatQ06
import Derived.Test.YtngehkmdanhgpaaGreatQ07
import Derived.Test.YtngehkmdanhgpaaGreatQ08
import Derived.Test.YtngehkmdanhgpaaGreatQ09
import Derived.Test.YtngehkmdanhgpaaGreatQ10
import Derived.Test.YtngehkmdanhgpaaGreatQ11
import Derived.Test.YtngehkmdanhgpaaGreatQ12
import Derived.Test.YtngehkmdanhgpaaGreatQ13
import Derived.Test.YtngehkmdanhgpaaGreatQ14
import Derived.Test.YtngehkmdanhgpaaGreatQ15
import Derived.Test.YtngehkmdanhgpaaGreatQ16
import Derived.Test.YtngehkmdanhgpaaGreatQ17
import Derived.Test.YtngehkmdanhgpaaGreatQ18
import Derived.Test.YtngehkmdanhgpaaGreatQ19
import Derived.Test.YtngehkmdanhgpaaGreatQ20
import Derived.Test.YtngehkmdanhgpaaGreatQ21
import Derived.Test.YtngehkmdanhgpaaGreatQ22
import Derived.Test.YtngehkmdanhgpaaGreatQ23
import Derived.Test.YtngehkmdanhgpaaGreatQ24
import Derived.Test.YtngehkmdanhgpaaGreatQ25
import Derived.Test.YtngehkmdanhgpaaGreatQ26
import Derived.Test.YtngehkmdanhgpaaGreatQ27
import Derived.Test.YtngehkmdanhgpaaGreatQ28
import Derived.Test.YtngehkmdanhgpaaGreatQ29
import Derived.Test.YtngehkmdanhgpaaGreatQ30
import Derived.Test.YtngehkmdanhgpaaGreatQ31
import Derived.Test.YtngehkmdanhgpaaGreatQ32
import Derived.Test.YtngehkmdanhgpaaGreatQ33
import Derived.Test.YtngehkmdanhgpaaGreatQ34
import Derived.Test.YtngehkmdanhgpaaGreatQ35
import Derived.Test.YtngehkmdanhgpaaGreatQ36
import Derived.Test.YtngehkmdanhgpaaGreatQ37
import Derived.Test.YtngehkmdanhgpaaGreatQ38
namespace Go.Proofs.YtngehkmdanhgpaaGreat.Pl
open Go.RowKit
open Vp (Str B bl Val cmpL parseS showS splitS withinS IsPath)
/-- a path where it belongs -/
def insE : List Ent → Ent → List Ent
  | [], e => [e]
  | g :: r, e => if cmpL g.names e.names < 0 then g :: insE r e else e :: g :: r
theorem insE_perm (es : List Ent) (e : Ent) : (insE es e).Perm (e :: es) := by
  induction es with
  | nil => exact List.Perm.refl _
  | cons a r ih =>
    simp only [insE]
    split
    · exact (ih.cons a).trans (List.Perm.swap _ _ _)
    · exact List.Perm.refl _
theorem cmp_flip {a b : List Str} (h : cmpL a b < 0) : ¬ cmpL b a < 0 := by
  have t := Vp.cmpL_is.turn a b
  omega
theorem cmp_on {x a e : List Str} (h1 : cmpL x e < 0) (h2 : ¬ cmpL a e < 0) : cmpL x a < 0 := by
  have t := Vp.cmpL_is.turn a e
  by_cases h0 : cmpL a e = 0
  · rw [(Vp.cmpL_is.zero _ _).1 h0]
    exact h1
  · exact Vp.cmpL_is.trans _ _ _ h1 (by omega)
theorem insE_sorted {es : List Ent} {e : Ent} (h : es.Pairwise (fun s t => ¬ cmpL t.names s.names < 0)) : (insE es e).Pairwise (fun s t => ¬ cmpL t.names s.names < 0) := by
  induction es with
  | nil => simp [insE]
  | cons a r ih =>
    obtain ⟨h1, h2⟩ := List.pairwise_cons.1 h
    simp only [insE]
    split
    · rename_i hlt
      refine List.pairwise_cons.2 ⟨fun x hx => ?_, ih h2⟩
      rcases List.mem_cons.1 ((insE_perm r e).mem_iff.1 hx) with rfl | hx
      · exact cmp_flip hlt
      · exact h1 x hx
    · rename_i hge
      refine List.pairwise_cons.2 ⟨fun x hx => ?_, h⟩
      rcases List.mem_cons.1 hx with rfl | hx
      · exact hge
      · intro hlt
        exact h1 x hx (cmp_on hlt hge)
theorem ahead_fil {g e : Ent} (hg : Gp g.names) (he : Gp e.names) : Rf.ahead g.fil e.fil ↔ cmpL g.names e.names < 0 := by
  show cmpL (Rf.nmsOf (B (showS g.names))) (Rf.nmsOf (B (showS e.names))) < 0 ↔ _
  rw [nms_showR hg, nms_showR he]
theorem ins_fil : ∀ (es : List Ent) (e : Ent), (∀ g ∈ es, Gp g.names) → Gp e.names → Rf.insF (es.map Ent.fil) e.fil = (insE es e).map Ent.fil
  | [], _, _, _ => rfl
  | g :: r, e, hg, he => by
    have ih := ins_fil r e (fun x hx => hg x (by simp [hx])) he
    have h1 := ahead_fil (hg g (by simp)) he
    simp only [List.map_cons, Rf.insF, insE]
    by_cases h : cmpL g.names e.names < 0
    · rw [if_pos h, if_pos (h1.2 h), ih]
      rfl
    · rw [if_neg h, if_neg (fun x => h (h1.1 x))]
      rfl
/-- several, each where it belongs -/
def insAll (es ms : List Ent) : List Ent := ms.foldl insE es
theorem insAll_perm : ∀ (ms es : List Ent), (insAll es ms).Perm (ms ++ es)
  | [], _ => List.Perm.refl _
  | m :: ms, es => (insAll_perm ms (insE es m)).trans (((insE_perm es m).append_left ms).trans List.perm_middle)
theorem insAll_sorted : ∀ (ms es : List Ent), es.Pairwise (fun s t => ¬ cmpL t.names s.names < 0) → (insAll es ms).Pairwise (fun s t => ¬ cmpL t.names s.names < 0)
  | [], _, h => h
  | _ :: ms, _, h => insAll_sorted ms _ (insE_sorted h)
theorem putA_new : ∀ (A : List Ent) (e : Ent), e.names ∉ A.map (·.names) → putA A e = A ++ [e]
  | [], _, _ => rfl
  | a :: r, e, h => by
    simp only [List.map_cons, List.mem_cons, not_or] at h
    simp only [putA]
    rw [if_neg (fun x => h.1 x.symm), putA_new r e h.2]
    rfl
theorem ref_new {A es : List Ent} (h : Ref A es) {e : Ent} (hn : e.names ≠ []) (hx : entAt A e.names = none) : Ref (putA A e) (insE es e) := by
  refine ⟨?_, insE_sorted h.ord⟩
  rw [putA_new _ _ (at_noneP.1 hx), List.filter_append]
  have h1 : List.filter (belowE []) [e] = [e] := by
    rw [List.filter_cons, below_root, if_pos (decide_eq_true hn)]
    rfl
  rw [h1]
  exact (insE_perm _ _).trans ((h.perm.cons _).trans (List.perm_append_singleton _ _).symm)
theorem ref_add {A es : List Ent} (h : Ref A es) (xs : List Str) (d : Bool) (h0 : addE A xs = 0) : Ref (addA A xs d) (insE es ⟨xs, d, ⟨#[]⟩⟩) := by
  unfold addA
  rw [if_pos h0]
  unfold addE at h0
  split at h0
  · cases h0
  rename_i h1
  split at h0
  · rename_i h2
    exact absurd h0 h2
  split at h0
  · cases h0
  rename_i h3
  exact ref_new h h1 (by simpa using h3)
theorem putA_key : ∀ (A : List Ent) (e : Ent), (A.map (·.names)).Nodup → (entAt A e.names).isSome = true → (putA A e).Perm (e :: A.filter (fun x => decide (x.names ≠ e.names)))
  | [], _, _, h => by cases h
  | a :: r, e, hn, h => by
    obtain ⟨h1, h2⟩ := List.nodup_cons.1 hn
    by_cases ha : a.names = e.names
    · have hr : r.filter (fun x => decide (x.names ≠ e.names)) = r := by
        refine List.filter_eq_self.2 fun x hx => ?_
        have : x.names ≠ e.names := fun hh => h1 (List.mem_map.2 ⟨x, hx, hh.trans ha.symm⟩)
        simp [this]
      simp only [putA]
      rw [if_pos ha, List.filter_cons, if_neg (by simp [ha]), hr]
    · simp only [putA]
      rw [if_neg ha, List.filter_cons, if_pos (by simp [ha])]
      have h3 : (entAt r e.names).isSome = true := by
        unfold entAt at h ⊢
        rw [List.find?_cons, decide_eq_false ha] at h
        exact h
      exact ((putA_key r e h2 h3).cons a).trans (List.Perm.swap _ _ _)
theorem putA_set : ∀ (es : List Ent) (i : Nat) (g e : Ent), (es.map (·.names)).Nodup → es[i]? = some g → g.names = e.names → putA es e = es.set i e
  | [], _, _, _, _, h, _ => by simp at h
  | a :: r, 0, g, e, _, h, hn => by
    obtain rfl : a = g := by simpa using h
    simp [putA, hn]
  | a :: r, i + 1, g, e, hd, h, hn => by
    have h2 : r[i]? = some g := by simpa using h
    have hne : ¬ a.names = e.names := fun x => (List.nodup_cons.1 hd).1 (List.mem_map.2 ⟨g, List.mem_of_getElem? h2, hn.trans x.symm⟩)
    simp only [putA]
    rw [if_neg hne, putA_set r i g e (List.nodup_cons.1 hd).2 h2 hn]
    rfl
theorem ref_set {A es : List Ent} (h : Ref A es) (hA : (A.map (·.names)).Nodup) {i : Nat} {x e : Ent} (hi : es[i]? = some x) (hn : x.names = e.names) : Ref (putA A e) (es.set i e) := by
  have hm := h.mem.1 (List.mem_of_getElem? hi)
  have hax := at_mem hA hm.1
  have hex := at_mem (h.nodup hA) (List.mem_of_getElem? hi)
  have h1 := putA_key A e hA (by rw [← hn, hax]; rfl)
  have h2 := putA_key es e (h.nodup hA) (by rw [← hn, hex]; rfl)
  rw [putA_set es i x e (h.nodup hA) hi hn] at h2
  have hb : belowE [] e = true := by
    rw [below_root, ← hn]
    exact decide_eq_true hm.2
  refine ⟨?_, ?_⟩
  · refine h2.trans (List.Perm.trans ?_ (h1.filter _).symm)
    rw [List.filter_cons, if_pos hb, List.filter_filter, show (fun a => belowE [] a && decide (a.names ≠ e.names)) = (fun a => decide (a.names ≠ e.names) && belowE [] a) from funext fun a => Bool.and_comm _ _, ← List.filter_filter]
    exact (h.perm.filter _).cons _
  · have h3 : (es.set i e).map (·.names) = es.map (·.names) := by
      rw [List.map_set, ← hn]
      apply List.ext_getElem?
      intro j
      rw [List.getElem?_set]
      split
      · rename_i hj
        subst hj
        rw [List.getElem?_map, hi]
        have := (List.getElem?_eq_some_iff.1 hi).1
        simp [this]
      · rfl
    have h4 : (es.map (·.names)).Pairwise (fun s t => ¬ cmpL t s < 0) := by rw [List.pairwise_map]; exact h.ord
    rw [← h3, List.pairwise_map] at h4
    exact h4
theorem ref_cut {A es : List Ent} (h : Ref A es) {xs : List Str} (hb : ∀ s, s ≠ [] → entAt A (xs ++ s) = none) (hA : (A.map (·.names)).Nodup) : Ref (cutA A xs) (es.filter (outE xs)) := by
  have h1 : es.filter (outE xs) = es.filter (fun s => decide (s.names ≠ xs)) := by
    refine List.filter_congr fun e he => ?_
    have hm := (h.mem.1 he).1
    unfold outE
    by_cases hx : e.names = xs
    · have : withinS e.names xs = true := within_iff.2 ⟨[], by rw [hx, List.append_nil]⟩
      rw [this, decide_eq_false (not_not_intro hx)]
      rfl
    · have : withinS e.names xs = false := by
        cases hw : withinS e.names xs with
        | false => rfl
        | true =>
          obtain ⟨s, hs⟩ := within_iff.1 hw
          by_cases h0 : s = []
          · rw [h0, List.append_nil] at hs
            exact absurd hs hx
          · have h2 := at_mem hA hm
            rw [hs, hb s h0] at h2
            cases h2
      rw [this]
      simp [hx]
  refine ⟨?_, h.ord.sublist List.filter_sublist⟩
  rw [h1]
  unfold cutA
  rw [List.filter_filter, show (fun a => belowE [] a && decide (a.names ≠ xs)) = (fun a => decide (a.names ≠ xs) && belowE [] a) from funext fun a => Bool.and_comm _ _, ← List.filter_filter]
  exact h.perm.filter _
/-- what is moved, where it goes -/
def mvR (p q : List Str) (e : Ent) : Ent := renE (q ++ e.names.drop p.length) e
/-- what a rename leaves in the reference's list -/
def rnL (es : List Ent) (p q : List Str) (x : Ent) : List Ent := insAll ((es.filter (outE p)).filter (outE q)) ((x :: es.filter (belowE p)).map (mvR p q))
theorem mem_nd {A : List Ent} (hA : (A.map (·.names)).Nodup) (e : Ent) : e ∈ A ↔ entAt A e.names = some e := ⟨at_mem hA, fun h => (at_names h).2⟩
theorem nd_of {A : List Ent} (hA : (A.map (·.names)).Nodup) : A.Nodup := List.Pairwise.of_map _ (fun _ _ h1 h2 => h1 (h2 ▸ rfl)) hA
theorem ref_moved {A A' es : List Ent} {p q : List Str} {x : Ent} (h : Ref A es) (hT : Tree A) (hA : (A.map (·.names)).Nodup) (hr : rnE A p q = 0) (hpq : p ≠ q) (hx : entAt A p = some x) (hm : Moved A p q A') : Ref A' (rnL es p q x) := by
  obtain ⟨y, fs, hy, hp, rfl⟩ := hm.2 ⟨hr, hpq⟩
  rw [hx] at hy
  obtain rfl := Option.some.inj hy
  obtain ⟨hp0, hq0, -, -, hw0⟩ := rn_ok hr
  have hqs := rn_free hT hr hpq
  have hw := hw0 hpq
  have hwp : withinS p q = false := by
    cases hcc : withinS p q with
    | false => rfl
    | true =>
      obtain ⟨s, hs⟩ := within_iff.1 hcc
      by_cases h0 : s = []
      · rw [h0, List.append_nil] at hs
        exact absurd hs hpq
      · rw [hs, hqs s h0] at hx
        cases hx
  obtain ⟨a1, a2, a3⟩ := at_moved2 hA hx hp ⟨hwp, hw⟩ hqs
  have hA' : ((movesA p q (fs ++ [x]) A).map (·.names)).Nodup := nodup_moves _ _ hA
  have hxn := (at_names hx).1
  have hsrc : ∀ f, f ∈ x :: es.filter (belowE p) ↔ f ∈ A ∧ withinS f.names p = true := by
    intro f
    rw [List.mem_cons, List.mem_filter, h.mem]
    constructor
    · rintro (rfl | ⟨⟨h1, _⟩, h3⟩)
      · exact ⟨(at_names hx).2, within_iff.2 ⟨[], by rw [hxn, List.append_nil]⟩⟩
      · unfold belowE at h3
        simp only [Bool.and_eq_true] at h3
        exact ⟨h1, h3.2⟩
    · rintro ⟨h1, h2⟩
      obtain ⟨s, hs⟩ := within_iff.1 h2
      by_cases h0 : s = []
      · rw [h0, List.append_nil] at hs
        have h3 := at_mem hA h1
        rw [hs, hx] at h3
        exact .inl (Option.some.inj h3).symm
      · refine .inr ⟨⟨h1, fun e => ?_⟩, below_iff.2 ⟨s, h0, hs⟩⟩
        rw [hs] at e
        exact h0 (List.append_eq_nil_iff.1 e).2
  have hnames : ∀ f s, f.names = p ++ s → (mvR p q f).names = q ++ s := by
    intro f s hs
    show q ++ f.names.drop p.length = _
    rw [hs, List.drop_left]
  have hsn : ((x :: es.filter (belowE p)).map (·.names)).Nodup := by
    rw [List.map_cons, List.nodup_cons]
    refine ⟨fun hmem => ?_, nodup_sub List.filter_sublist (h.nodup hA)⟩
    obtain ⟨f, hf, hfn⟩ := List.mem_map.1 hmem
    have h3 := (List.mem_filter.1 hf).2
    unfold belowE at h3
    simp only [Bool.and_eq_true, decide_eq_true_eq] at h3
    have h4 := h3.1
    rw [hfn, hxn] at h4
    omega
  have hM : (((x :: es.filter (belowE p)).map (mvR p q)).map (·.names)).Nodup := by
    rw [List.map_map]
    unfold List.Nodup at hsn ⊢
    rw [List.pairwise_map] at hsn ⊢
    refine hsn.imp_of_mem fun {a b} ha hb hab e => hab ?_
    obtain ⟨s, hs⟩ := within_iff.1 ((hsrc a).1 ha).2
    obtain ⟨t, ht⟩ := within_iff.1 ((hsrc b).1 hb).2
    have e2 : (mvR p q a).names = (mvR p q b).names := e
    rw [hnames a s hs, hnames b t ht] at e2
    rw [hs, ht, List.append_cancel_left e2]
  have hbase : (((es.filter (outE p)).filter (outE q)).map (·.names)).Nodup := nodup_sub (List.filter_sublist.trans List.filter_sublist) (h.nodup hA)
  have hMq : ∀ n ∈ ((x :: es.filter (belowE p)).map (mvR p q)).map (·.names), withinS n q = true := by
    intro n hn
    obtain ⟨e, he, rfl⟩ := List.mem_map.1 hn
    obtain ⟨f, hf, rfl⟩ := List.mem_map.1 he
    exact within_iff.2 ⟨_, rfl⟩
  have hall : ((((x :: es.filter (belowE p)).map (mvR p q)) ++ ((es.filter (outE p)).filter (outE q))).map (·.names)).Nodup := by
    rw [List.map_append, List.nodup_append]
    refine ⟨hM, hbase, fun a ha b hb e => ?_⟩
    subst e
    obtain ⟨e, he, rfl⟩ := List.mem_map.1 hb
    have h3 := (List.mem_filter.1 he).2
    unfold outE at h3
    rw [hMq _ ha] at h3
    cases h3
  refine ⟨?_, insAll_sorted _ _ (h.ord.sublist (List.filter_sublist.trans List.filter_sublist))⟩
  refine (insAll_perm _ _).trans ((List.perm_ext_iff_of_nodup (nd_of hall) (nd_of (nodup_sub List.filter_sublist hA'))).2 fun e => ?_)
  rw [List.mem_append]
  simp only [List.mem_filter, below_root, decide_eq_true_eq, h.mem]
  rw [mem_nd hA']
  unfold outE
  cases h1 : withinS e.names q with
  | true =>
    obtain ⟨s, hs⟩ := within_iff.1 h1
    rw [hs, a1]
    have hne : q ++ s ≠ [] := fun e => hq0 (List.append_eq_nil_iff.1 e).1
    constructor
    · rintro (hm1 | hm1)
      · obtain ⟨f, hf, rfl⟩ := List.mem_map.1 hm1
        obtain ⟨hfA, hfw⟩ := (hsrc f).1 hf
        obtain ⟨t, ht⟩ := within_iff.1 hfw
        have h3 := hnames f t ht
        rw [hs] at h3
        have h4 := List.append_cancel_left h3
        subst h4
        have h5 := at_mem hA hfA
        rw [ht] at h5
        refine ⟨?_, hne⟩
        rw [h5, Option.map_some]
        congr 1
        show _ = renE (q ++ f.names.drop p.length) f
        rw [ht, List.drop_left]
      · simp at hm1
    · rintro ⟨h3, _⟩
      cases hc : entAt A (p ++ s) with
      | none => rw [hc] at h3; cases h3
      | some f =>
        rw [hc, Option.map_some] at h3
        obtain ⟨h4, h5⟩ := at_names hc
        refine .inl (List.mem_map.2 ⟨f, (hsrc f).2 ⟨h5, within_iff.2 ⟨s, h4⟩⟩, ?_⟩)
        rw [← Option.some.inj h3]
        show renE (q ++ f.names.drop p.length) f = _
        rw [h4, List.drop_left]
  | false =>
    have hnM : e ∉ (x :: es.filter (belowE p)).map (mvR p q) := fun hc => by
      have := hMq _ (List.mem_map.2 ⟨e, hc, rfl⟩)
      rw [h1] at this
      cases this
    cases h2 : withinS e.names p with
    | true =>
      obtain ⟨s, hs⟩ := within_iff.1 h2
      have h3 := a2 s
      rw [← hs] at h3
      rw [h3]
      exact ⟨fun k => k.elim (fun k => absurd k hnM) (fun k => by simp at k), fun k => by cases k.1⟩
    | false =>
      rw [a3 e.names h2 h1]
      constructor
      · rintro (hm1 | ⟨⟨⟨hm1, hm2⟩, _⟩, _⟩)
        · exact absurd hm1 hnM
        · exact ⟨at_mem hA hm1, hm2⟩
      · rintro ⟨h3, h4⟩
        exact .inr ⟨⟨⟨(at_names h3).2, h4⟩, rfl⟩, rfl⟩
end Go.Proofs.YtngehkmdanhgpaaGreat.Pl
namespace Go.Proofs.YtngehkmdanhgpaaGreat.Pl
open Go.RowKit
open Vp (Str B bl Val cmpL parseS showS splitS withinS IsPath)
open Nd (Row wp_world post_Row post_Row2 grownBy_setCell below_of_grown Opn checkS numsOk namedS pathsS)
open Rf (Fil Fls)
set_option maxHeartbeats 2000000 in
set_option maxRecDepth 100000 in
theorem few_any (w : World) (v : Value) (fs : List Fil) (h : Fls w v fs) (lb : Nat) (hc : w.cell? ⟨lb, 0, none⟩ = some v) :
    Calls Tryz.prog 22 #[.slice (some ⟨lb, 0, none⟩) 1 1] w fun e w' => (∃ t, e = .returned (.bool t)) ∧ w' = w := by
  obtain ⟨p, cap, b, o, rfl, h1, h2, h3, h4', _⟩ := h
  have h4 := Rf.Fls.range h4'
  have HC : Hid (∀ (j : Nat), j < fs.length → ∃ s : ByteArray, p = some ⟨b, o, none⟩ ∧ w.cell? ⟨b, o + j * 3 + 2, none⟩ = some (.string s)) := hid_in (fun j hj => by
    refine ⟨fs[j].data, (h3 (by intro e; rw [e] at hj; simp at hj)).1, ?_⟩
    exact h4 j fs[j] (List.getElem?_eq_getElem hj) 2 _ rfl)
  have HN : Hid (fs.length ≤ 9223372036854775807) := hid_in (by omega)
  generalize fs.length = N at *
  clear h1 h2 h3 h4
  go_enter Tryz.func22, Tryz.ntmps22
  go_wp2_with fail
  refine wp_loop_rounds 2 ?_
  rw [rounds_succ]
  go_upto_region 6 with fail
  go_loopw [5, 3] (fun vj vs W => W = w ∧ ∃ (j : Nat) (s : Int), j ≤ N ∧ vj = .int .i64 (j : Int) ∧ vs = .int .i64 s) (fun vj _ _ => N - (intOf vj).toNat)
  case atStart => exact ⟨rfl, 0, 0, by omega, rfl, rfl⟩
  case round =>
    obtain ⟨rfl, j, s, hj, rfl, rfl⟩ := hrel
    by_cases hlt : j < N
    · obtain ⟨str, rfl, hcell⟩ := HC.out j hlt
      have hN : (N : Int) ≤ 9223372036854775807 := by have := HN.out; omega
      have HJ := hid_in hj
      have HL := hid_in hlt
      have hlt2 : (j : Int) < (N : Int) := by omega
      clear hj hlt
      go_wp2
      go_roundw
      case rel =>
        exact ⟨trivial, j + 1, _, by have := HL.out; omega, by go_num, rfl⟩
      case measure => have := HL.out; simp [intOf]; omega
    · obtain rfl : j = N := by omega
      clear hj hlt
      go_wp2_with fail
      rw [rounds_succ]
      go_wp2
      go_ret
      exact ⟨⟨_, rfl⟩, rfl⟩
end Go.Proofs.YtngehkmdanhgpaaGreat.Pl
namespace Go.Proofs.YtngehkmdanhgpaaGreat.Pl
open Go.RowKit
open Vp (Str B bl Val cmpL parseS showS splitS withinS IsPath)
open Nd (Row wp_world post_Row post_Row2 grownBy_setCell below_of_grown Opn checkS numsOk namedS pathsS perr)
open Rf (Fil Fls fcells)
theorem tree_new {fs : List Fil} (h : newE fs = 0) : Tree (newA fs) := by
  unfold newE at h
  split at h
  · rename_i h1
    exact absurd h h1
  split at h
  · rename_i h1
    exact absurd h h1
  split at h
  · cases h
  rename_i _ _ hnd
  unfold dirsA at h
  split at h
  · cases h
  rename_i hn1
  split at h
  · cases h
  rename_i hn2
  refine ⟨⟨rootE, rfl, rfl⟩, fun n e he hne => ?_⟩
  obtain ⟨hn, hm⟩ := at_names he
  have hm2 : e ∈ fs.map entOf := by
    rcases List.mem_cons.1 hm with rfl | hm
    · exact absurd hn.symm hne
    · exact hm
  have k1 : noneA (newA fs) e = false := by
    cases hc : noneA (newA fs) e with
    | false => rfl
    | true => exact absurd (List.any_eq_true.2 ⟨e, hm2, hc⟩) hn1
  have k2 : fileA (newA fs) e = false := by
    cases hc : fileA (newA fs) e with
    | false => rfl
    | true => exact absurd (List.any_eq_true.2 ⟨e, hm2, hc⟩) hn2
  unfold noneA at k1
  unfold fileA at k2
  rw [hn] at k1 k2
  cases hd : entAt (newA fs) n.dropLast with
  | none => rw [hd] at k1; simp at k1
  | some d =>
    rw [hd] at k2
    exact ⟨d, rfl, by simpa using k2⟩
theorem fls_map {w W : World} {g m : Nat} {A : List Ent} (h : FsA w g m A) (hg : w.grownBy W (some m)) {v : Value} {fs : List Fil} (hf : Fls w v fs) : Fls W v fs := by
  obtain ⟨L, hL, _⟩ := h
  obtain ⟨p, cap, b, o, h1, h2, h3, h4, h5, h6⟩ := hf
  exact ⟨p, cap, b, o, h1, h2, h3, fun hn => ⟨(h4 hn).1, Nat.lt_of_lt_of_le (h4 hn).2 hg.size⟩, fun j u hj => cell_map hL.map hg (h5 j u hj), h6⟩
end Go.Proofs.YtngehkmdanhgpaaGreat.Pl
namespace Go.Proofs.YtngehkmdanhgpaaGreat.Pl
open Go.RowKit
open Vp (Str B bl Val cmpL parseS showS splitS withinS IsPath)
open Nd (Row wp_world post_Row post_Row2 grownBy_setCell below_of_grown Opn checkS numsOk namedS pathsS perr)
open Rf (Fil Fls fcells)
theorem small_new {fs : List Fil} (h : newE fs = 0) : Small (newA fs) := by
  unfold newE at h
  split at h
  · rename_i h1
    exact absurd h h1
  split at h
  · rename_i h1
    exact absurd h h1
  rename_i _ h1
  have h1 : dataE fs = 0 := Classical.byContradiction h1
  unfold dataE at h1
  split at h1
  · cases h1
  split at h1
  · cases h1
  rename_i hb
  intro e he
  rcases List.mem_cons.1 he with rfl | he
  · show (0 : Nat) ≤ _
    omega
  · obtain ⟨f, hf, rfl⟩ := List.mem_map.1 he
    show f.data.size ≤ _
    have : ¬ bigP f = true := fun hh => hb (List.any_eq_true.2 ⟨f, hf, hh⟩)
    unfold bigP at this
    simp at this
    omega
end Go.Proofs.YtngehkmdanhgpaaGreat.Pl
namespace Go.Proofs.YtngehkmdanhgpaaGreat.Pl
open Vp (Str B bl Val cmpL parseS showS splitS withinS IsPath)
open Rf (Fil Fls fcells)
open Nd (perr)
theorem order {A es : List Ent} (hA : (A.map (·.names)).Nodup) (hp : es.Perm (A.filter (belowE []))) (ho : es.Pairwise (fun s t => ¬ cmpL t.names s.names < 0)) {i : Nat} {a b : Ent} (ha : es[i]? = some a) (hb : es[i + 1]? = some b) : cmpL a.names b.names < 0 := by
  have hn : (es.map (·.names)).Nodup := by
    rw [(hp.map _).nodup_iff]
    exact List.Sublist.nodup (List.filter_sublist.map _) hA
  obtain ⟨hi, rfl⟩ := List.getElem?_eq_some_iff.1 ha
  obtain ⟨hj, rfl⟩ := List.getElem?_eq_some_iff.1 hb
  have h1 := List.pairwise_iff_getElem.1 ho i (i + 1) hi hj (by omega)
  have h2 := List.pairwise_iff_getElem.1 hn i (i + 1) (by simpa using hi) (by simpa using hj) (by omega)
  rw [List.getElem_map, List.getElem_map] at h2
  have t1 := Vp.cmpL_is.turn es[i].names es[i + 1].names
  have t2 := Vp.cmpL_is.three es[i].names es[i + 1].names
  have t3 : cmpL es[i].names es[i + 1].names ≠ 0 := fun e => h2 ((Vp.cmpL_is.zero _ _).1 e)
  omega
end Go.Proofs.YtngehkmdanhgpaaGreat.Pl
namespace Go.Proofs.YtngehkmdanhgpaaGreat.Pl
open Go.RowKit
open Vp (Str B bl Val cmpL parseS showS splitS withinS IsPath)
open Nd (Row wp_world post_Row post_Row2 grownBy_setCell below_of_grown Opn checkS numsOk namedS pathsS)
open Rf (Fil Fls)
/-- a value that reads as operations -/
def Ops (w : World) (v : Value) (os : List Opn) : Prop := ∃ p cap b o, v = .slice p os.length cap ∧ os.length ≤ cap ∧ cap ≤ 9223372036854775807 ∧ (os ≠ [] → p = some ⟨b, o, none⟩ ∧ b < w.heap.size) ∧ ∀ (i : Nat) x, os[i]? = some x → w.rangeAt b (o + i * 6) x.cells
theorem Ops.below {w w' : World} {v : Value} {os : List Opn} (h : Ops w v os) (hb : Below w.heap.size w w') : Ops w' v os := by
  obtain ⟨p, cap, b, o, h1, h2, h3, h4, h5⟩ := h
  refine ⟨p, cap, b, o, h1, h2, h3, fun hn => ⟨(h4 hn).1, Nat.lt_of_lt_of_le (h4 hn).2 hb.size⟩, fun i x hi j u hj => ?_⟩
  have hne : os ≠ [] := by rintro rfl; simp at hi
  rw [hb.cell (p := ⟨b, _, none⟩) (h4 hne).2]
  exact h5 i x hi j u hj
set_option maxHeartbeats 4000000 in
set_option maxRecDepth 100000 in
theorem fitsO_any (w : World) (v u : Value) (fs : List Fil) (os : List Opn) (h : Fls w v fs) (ho : Ops w u os) :
    Calls Tryz.prog 9 #[v, u] w fun e w' => (∃ t, e = .returned (.bool t) ∧ (t = true → fs.length ≤ 100)) ∧ Below w.heap.size w w' := by
  obtain ⟨p, cap, rfl⟩ := h.form
  have hb : Below w.heap.size w (w.alloc (.cells #[.slice p fs.length cap] 22)) := (Below.refl _ _).alloc (Nat.le_refl _) _
  have HFW := hid_in (few_any (w.alloc (.cells #[.slice p fs.length cap] 22)) (.slice p fs.length cap) fs (h.below hb) w.heap.size ((Row.new w [.slice p fs.length cap] 22).cell 0))
  have HB := hid_in hb
  obtain ⟨p2, cap2, b, o, rfl, h2, h3, h4, h5⟩ := ho.below hb
  have HC : Hid (∀ (j : Nat), j < os.length → ∃ x y z : ByteArray, p2 = some ⟨b, o, none⟩ ∧ (w.alloc (.cells #[.slice p fs.length cap] 22)).cell? ⟨b, o + j * 6 + 1, none⟩ = some (.string x) ∧ (w.alloc (.cells #[.slice p fs.length cap] 22)).cell? ⟨b, o + j * 6 + 2, none⟩ = some (.string y) ∧ (w.alloc (.cells #[.slice p fs.length cap] 22)).cell? ⟨b, o + j * 6 + 3, none⟩ = some (.string z)) := hid_in (fun j hj => by
    have hg := List.getElem?_eq_getElem hj
    exact ⟨os[j].path, os[j].dest, os[j].data, (h4 (by intro e; rw [e] at hj; simp at hj)).1, h5 j _ hg 1 _ rfl, h5 j _ hg 2 _ rfl, h5 j _ hg 3 _ rfl⟩)
  have HM : Hid (os.length ≤ 9223372036854775807) := hid_in (by omega)
  clear hb h ho h2 h3 h4 h5
  obtain ⟨w1, HW1⟩ : ∃ w1, Hid (w.alloc (.cells #[.slice p fs.length cap] 22) = w1) := ⟨_, hid_in rfl⟩
  generalize os.length = N at *
  by_cases hn : 100 < fs.length
  · have j1 : (100 : Int) < (fs.length : Int) := by omega
    go_enter Tryz.func9, Tryz.ntmps9
    go_wp2_with (first | (go_at_call 22; refine HFW.out.mono ?_; rintro e w2 ⟨⟨t, rfl⟩, rfl⟩; rcases t with _ | _))
    all_goals go_ret
    all_goals exact ⟨⟨_, rfl, fun h => by cases h⟩, HB.out⟩
  · have j1 : ¬ (100 : Int) < (fs.length : Int) := by omega
    have HN : Hid (fs.length ≤ 100) := hid_in (by omega)
    go_enter Tryz.func9, Tryz.ntmps9
    go_wp2_with (first | (go_at_call 22; refine HFW.out.mono ?_; rintro e w2 ⟨⟨t, rfl⟩, rfl⟩; rcases t with _ | _))
    · go_ret
      exact ⟨⟨_, rfl, fun h => by cases h⟩, HB.out⟩
    · rw [HW1.out] at HB HC ⊢
      go_loopw [6, 5] (fun vj vs W => (∃ m, W = w1.drewN m) ∧ ∃ (j : Nat) (s : Int), j ≤ N ∧ vj = .int .i64 (j : Int) ∧ vs = .int .i64 s) (fun vj _ _ => N - (intOf vj).toNat)
      case atStart => exact ⟨⟨0, rfl⟩, 0, 0, by omega, rfl, rfl⟩
      case round =>
        obtain ⟨⟨m, rfl⟩, j, s, hj, rfl, rfl⟩ := hrel
        by_cases hlt : j < N
        · obtain ⟨x, y, z, rfl, c1, c2, c3⟩ := HC.out j hlt
          have d1 : (w1.drewN m).drew.cell? ⟨b, o + j * 6 + 1, none⟩ = some (.string x) := c1
          have d2 : (w1.drewN m).drew.cell? ⟨b, o + j * 6 + 2, none⟩ = some (.string y) := c2
          have d3 : (w1.drewN m).drew.cell? ⟨b, o + j * 6 + 3, none⟩ = some (.string z) := c3
          have hN : (N : Int) ≤ 9223372036854775807 := by have := HM.out; omega
          have HL := hid_in hlt
          have hlt2 : (j : Int) < (N : Int) := by omega
          clear hj hlt
          go_upto_region 7 with fail
          go_region
          go_wp2
          go_roundw
          case rel => exact ⟨⟨m + 1, rfl⟩, j + 1, _, by have := HL.out; omega, by go_num, rfl⟩
          case measure => have := HL.out; simp [intOf]; omega
        · obtain rfl : j = N := by omega
          clear hj hlt
          go_wp2
          go_ret
          exact ⟨⟨_, rfl, fun _ => HN.out⟩, Nd.below_drewN HB.out m⟩
end Go.Proofs.YtngehkmdanhgpaaGreat.Pl
namespace Go.Proofs.YtngehkmdanhgpaaGreat.Pl
open Go.RowKit
open Vp (Str B bl Val cmpL parseS showS splitS withinS IsPath)
open Nd (Row wp_world post_Row post_Row2 grownBy_setCell below_of_grown Opn checkS numsOk namedS pathsS perr)
open Rf (Fil Fls fcells)
theorem FsA.gp {w : World} {g m : Nat} {A : List Ent} (h : FsA w g m A) : ∀ e ∈ A, Gp e.names := by
  obtain ⟨L, h1, rfl⟩ := h
  intro e he
  obtain ⟨s, hs, rfl⟩ := List.mem_map.1 he
  exact (h1.map.good s hs).2
theorem rshow_one {ns : List Str} (h : Gp ns) {u : Value} {W : World} (hv : Val W u ns) : Calls Tryz.prog 20 #[u] W fun x W' => x = .returned (.string (B (showS ns))) ∧ Below W.heap.size W W' := by
  refine (Vp.rshow_v hv (by have := h.lens; omega)).mono ?_
  rintro x W' ⟨rfl, m, rfl⟩
  exact ⟨rfl, Nd.below_drewN (Below.refl _ _) m⟩
theorem rcomp_one {xs ys : List Str} {u v : Value} {W : World} (hx : Val W u xs) (hy : Val W v ys) : Calls Tryz.prog 21 #[u, v] W fun x W' => x = .returned (.int .i64 (cmpL xs ys)) ∧ Below W.heap.size W W' := by
  refine (Vp.rcompare_v hx hy).mono ?_
  rintro x W' ⟨rfl, m, rfl⟩
  exact ⟨rfl, Nd.below_drewN (Below.refl _ _) m⟩
theorem fls_at {W : World} {b o n c : Nat} {fs : List Fil} (h : Fls W (.slice (some ⟨b, o, none⟩) n c) fs) {i : Nat} {f : Fil} (hi : fs[i]? = some f) : W.cell? ⟨b, o + i * 3, none⟩ = some (.string f.path) ∧ W.cell? ⟨b, o + i * 3 + 1, none⟩ = some (.bool f.dir) ∧ W.cell? ⟨b, o + i * 3 + 2, none⟩ = some (.string f.data) := by
  obtain ⟨p', cap, b', o', h1, h2, h3, h4, h5, h6⟩ := h
  simp only [Value.slice.injEq] at h1
  obtain ⟨rfl, rfl, rfl⟩ := h1
  have hne : fs ≠ [] := by rintro rfl; simp at hi
  obtain ⟨e1, _⟩ := h4 hne
  simp only [Option.some.injEq, Addr.mk.injEq] at e1
  obtain ⟨rfl, rfl, _⟩ := e1
  have k0 := h5 _ _ (Rf.fcells_at hi 0 _ rfl)
  have k1 := h5 _ _ (Rf.fcells_at hi 1 _ rfl)
  have k2 := h5 _ _ (Rf.fcells_at hi 2 _ rfl)
  exact ⟨k0, k1, k2⟩
end Go.Proofs.YtngehkmdanhgpaaGreat.Pl
