/-
  Inodes that are a tree: every call keeps them one. What is written is read back as it was.
-/
import Derived.Deep.CutRange
import Derived.Laws.CopyOwn
import Derived.Shelf.SlMaps.Clone
import Derived.Deep.RegionLaw
import Derived.Deep.DrawnRows
import Derived.Laws.Tables
import Derived.Test.YtglfeocfhlmloaaGreatY00
import Derived.Test.YtglfeocfhlmloaaGreatY01
import Derived.Test.YtglfeocfhlmloaaGreatY02
import Derived.Test.YtglfeocfhlmloaaGreatY03
import Derived.Test.YtglfeocfhlmloaaGreatY04
import Derived.Test.YtglfeocfhlmloaaGreatY05
import Derived.Test.YtglfeocfhlmloaaGreatY06
import Derived.Test.YtglfeocfhlmloaaGreatY07
import Derived.Test.YtglfeocfhlmloaaGreatY08
import Derived.Test.YtglfeocfhlmloaaGreatY09
import Derived.Test.YtglfeocfhlmloaaGreatY10
import Derived.Test.YtglfeocfhlmloaaGreatY11
import Derived.Test.YtglfeocfhlmloaaGreatY12
import Derived.Test.YtglfeocfhlmloaaGreatY13
import Derived.Test.YtglfeocfhlmloaaGreatY14
import Derived.Test.YtglfeocfhlmloaaGreatY15
import Derived.Test.YtglfeocfhlmloaaGreatY16
import Derived.Test.YtglfeocfhlmloaaGreatY17
import Derived.Test.YtglfeocfhlmloaaGreatY18
import Derived.Test.YtglfeocfhlmloaaGreatY19
import Derived.Test.YtglfeocfhlmloaaGreatY20
import Derived.Test.YtglfeocfhlmloaaGreatY21
import Derived.Test.YtglfeocfhlmloaaGreatY22
import Derived.Test.YtglfeocfhlmloaaGreatY23
import Derived.Test.YtglfeocfhlmloaaGreatY24
import Derived.Test.YtglfeocfhlmloaaGreatY25
import Derived.Test.YtglfeocfhlmloaaGreatY26
import Derived.Test.YtglfeocfhlmloaaGreatY27
import Derived.Test.YtglfeocfhlmloaaGreatY28
import Derived.Test.YtglfeocfhlmloaaGreatY29
import Derived.Test.YtglfeocfhlmloaaGreatY30
import Derived.Test.YtglfeocfhlmloaaGreatY31
import Derived.Test.YtglfeocfhlmloaaGreatY32
import Derived.Test.YtglfeocfhlmloaaGreatY33
import Derived.Test.YtglfeocfhlmloaaGreatY34
import Derived.Test.YtglfeocfhlmloaaGreatY35
import Derived.Test.YtglfeocfhlmloaaGreatY36
import Derived.Test.YtglfeocfhlmloaaGreatY37
namespace Go.Proofs.YtglfeocfhlmloaaGreat.Up
open Go.RowKit
open Vp (Str B bl Val cmpL parseS showS withinS IsPath checkS)
theorem at_put : ∀ (A : List Ent) (e : Ent) (n : List Str), entAt (putA A e) n = if n = e.names then some e else entAt A n
  | [], e, n => by
    simp only [putA, entAt, List.find?_cons, List.find?_nil]
    by_cases h : n = e.names
    · simp [h]
    · rw [if_neg h, decide_eq_false (fun x => h x.symm)]
  | t :: r, e, n => by
    have ih := at_put r e n
    unfold entAt at ih ⊢
    simp only [putA]
    by_cases h : t.names = e.names
    · rw [if_pos h, List.find?_cons, List.find?_cons, h]
      by_cases hn : n = e.names
      · simp [hn]
      · rw [if_neg hn, decide_eq_false (fun x => hn x.symm)]
    · rw [if_neg h, List.find?_cons, List.find?_cons]
      by_cases ht : t.names = n
      · have hn : ¬ n = e.names := fun x => h (ht.trans x)
        rw [if_neg hn, decide_eq_true ht]
      · rw [decide_eq_false ht]
        exact ih
theorem within_iff {n p : List Str} : withinS n p = true ↔ ∃ s, n = p ++ s := by
  unfold withinS
  rw [decide_eq_true_eq]
  constructor
  · rintro ⟨_, h⟩
    exact ⟨n.drop p.length, by
      conv => lhs; rw [← List.take_append_drop p.length n, h]⟩
  · rintro ⟨s, rfl⟩
    simp
theorem at_some {A : List Ent} {n : List Str} {e : Ent} (h : entAt A n = some e) : e ∈ A ∧ e.names = n :=
  ⟨List.mem_of_find?_eq_some h, by simpa using List.find?_some h⟩
theorem at_none {A : List Ent} {n : List Str} : entAt A n = none ↔ n ∉ A.map (·.names) := by
  unfold entAt
  rw [List.find?_eq_none]
  constructor
  · intro h hm
    obtain ⟨e, he, hn⟩ := List.mem_map.1 hm
    exact h e he (by simpa using hn)
  · intro h e he hn
    exact h (List.mem_map.2 ⟨e, he, by simpa using hn⟩)
theorem at_mem {A : List Ent} (nd : (A.map (·.names)).Nodup) {e : Ent} (h : e ∈ A) : entAt A e.names = some e := by
  induction A with
  | nil => cases h
  | cons a r ih =>
    unfold entAt
    rw [List.find?_cons]
    rcases List.mem_cons.1 h with rfl | h2
    · rw [decide_eq_true rfl]
    · have hne : a.names ≠ e.names := fun x => (List.nodup_cons.1 nd).1 (List.mem_map.2 ⟨e, h2, x.symm⟩)
      rw [decide_eq_false hne]
      exact ih (List.nodup_cons.1 nd).2 h2
theorem dir_zero {A : List Ent} {xs : List Str} : dirA A xs = 0 ↔ xs = [] ∨ ∃ d, entAt A xs = some d ∧ d.kind = 2 := by
  unfold dirA
  by_cases h : xs = []
  · simp [h]
  · rw [if_neg h]
    cases hd : entAt A xs with
    | none => simp [h]
    | some d => by_cases hk : d.kind = 2 <;> simp [h, hk]
/-- inodes that are a tree -/
structure TreeA (A : List Ent) : Prop where
  nd : (A.map (·.names)).Nodup
  good : ∀ e ∈ A, Gp e.names ∧ e.names ≠ [] ∧ formE e.kind e.opq e.data = 0
  dir : ∀ e ∈ A, dirA A e.names.dropLast = 0
  len : A.length ≤ 1024
theorem TreeA.nil : TreeA [] := ⟨by simp, fun e h => by simp at h, fun e h => by simp at h, by simp⟩
theorem putA_mem {A : List Ent} {e x : Ent} (h : x ∈ putA A e) : x = e ∨ x ∈ A := by
  induction A with
  | nil => left; simpa [putA] using h
  | cons a r ih =>
    simp only [putA] at h
    split at h
    · rcases List.mem_cons.1 h with h | h
      · exact .inl h
      · exact .inr (by simp [h])
    · rcases List.mem_cons.1 h with h | h
      · exact .inr (by simp [h])
      · rcases ih h with h | h
        · exact .inl h
        · exact .inr (by simp [h])
theorem putA_names (A : List Ent) (e : Ent) : (putA A e).map (·.names) = if e.names ∈ A.map (·.names) then A.map (·.names) else A.map (·.names) ++ [e.names] := by
  induction A with
  | nil => simp [putA]
  | cons a r ih =>
    simp only [putA]
    by_cases h : a.names = e.names
    · rw [if_pos h]
      simp [h]
    · rw [if_neg h, List.map_cons, ih]
      have h' : ¬ e.names = a.names := fun x => h x.symm
      by_cases hm : e.names ∈ r.map (·.names)
      · rw [if_pos hm, if_pos (by rw [List.map_cons]; exact List.mem_cons_of_mem _ hm), List.map_cons]
      · rw [if_neg hm, if_neg (by rw [List.map_cons, List.mem_cons]; exact fun x => x.elim h' hm)]
        simp
theorem putA_new {A : List Ent} {e : Ent} (h : e.names ∉ A.map (·.names)) : putA A e = A ++ [e] := by
  induction A with
  | nil => rfl
  | cons a r ih =>
    rw [List.map_cons, List.mem_cons] at h
    simp only [putA]
    rw [if_neg (fun x => h (.inl x.symm)), ih (fun x => h (.inr x))]
    rfl
theorem within_dl {n : List Str} (h : n ≠ []) : belowE n.dropLast ⟨n, 0, false, ⟨#[]⟩⟩ = true := by
  unfold belowE
  have h1 : n.dropLast.length < n.length := by
    have := List.length_pos_iff.2 h
    simp
    omega
  have h2 : withinS n n.dropLast = true := within_iff.2 ⟨[n.getLast h], (List.dropLast_concat_getLast h).symm⟩
  simp only [h2, Bool.and_true, decide_eq_true_eq]
  exact h1
theorem put_facts {A : List Ent} {p : ByteArray} {k : Int} {q : Bool} {d : ByteArray} (h : putEA A p k q d = 0) : errOf p = 0 ∧ nmsOf p ≠ [] ∧ formE k q d = 0 ∧ placeA A (nmsOf p) k = 0 := by
  unfold putEA at h
  split at h
  · rename_i h1; exact absurd h h1
  rename_i h1
  split at h
  · cases h
  rename_i h2
  split at h
  · rename_i h3; exact absurd h h3
  rename_i h3
  exact ⟨Classical.byContradiction h1, h2, Classical.byContradiction h3, h⟩
theorem place_facts {A : List Ent} {n : List Str} {k : Int} (h : placeA A n k = 0) : dirA A n.dropLast = 0 ∧ ((entAt A n).isSome = true → k = 2 ∨ hasA A n = false) ∧ (entAt A n = none → A.length < 1024) := by
  unfold placeA at h
  split at h
  · rename_i h1; exact absurd h h1
  rename_i h1
  refine ⟨Classical.byContradiction h1, fun hs => ?_, fun hs => ?_⟩
  · rw [if_pos hs] at h
    by_cases hk : k = 2
    · exact .inl hk
    · rw [if_neg hk] at h
      cases hh : hasA A n with
      | false => exact .inr rfl
      | true => rw [hh] at h; cases h
  · rw [hs] at h
    simp only [Option.isSome_none, Bool.false_eq_true, if_false] at h
    split at h
    · cases h
    · omega
theorem tree_put {A : List Ent} (h : TreeA A) (p : ByteArray) (k : Int) (q : Bool) (d : ByteArray) : TreeA (putU A p k q d) := by
  unfold putU
  split
  case isFalse => exact h
  rename_i h0
  obtain ⟨_, hne, hf, hp⟩ := put_facts h0
  obtain ⟨hd, hs, hl⟩ := place_facts hp
  have hg := gp_nms p
  generalize nmsOf p = n at *
  have hnm := putA_names A ⟨n, k, q, d⟩
  refine ⟨?_, fun e he => ?_, fun e he => ?_, ?_⟩
  · rw [hnm]
    split
    · exact h.nd
    · rename_i hm
      rw [List.nodup_append]
      exact ⟨h.nd, by simp, fun a ha b hb e => hm (by rw [List.mem_singleton.1 hb] at e; rw [← e]; exact ha)⟩
  · rcases putA_mem he with rfl | he
    · exact ⟨hg, hne, hf⟩
    · exact h.good e he
  · have hdd : dirA A e.names.dropLast = 0 := by
      rcases putA_mem he with rfl | he
      · exact hd
      · exact h.dir e he
    rcases dir_zero.1 hdd with h1 | ⟨d0, h1, h2⟩
    · exact dir_zero.2 (.inl h1)
    · refine dir_zero.2 (.inr ?_)
      rw [at_put]
      split
      · rename_i hx
        have hx : e.names.dropLast = n := hx
        refine ⟨_, rfl, ?_⟩
        show k = 2
        rcases putA_mem he with rfl | he
        · have : n.length = n.length - 1 := by
            conv => lhs; rw [← hx]
            simp
          have := List.length_pos_iff.2 hne
          omega
        · rw [hx] at h1
          rcases hs (by rw [h1]; rfl) with h3 | h3
          · exact h3
          · unfold hasA at h3
            rw [decide_eq_false_iff_not] at h3
            refine absurd (List.length_pos_of_mem (List.mem_filter.2 ⟨he, ?_⟩)) h3
            rw [← hx]
            exact within_dl (h.good e he).2.1
      · exact ⟨d0, h1, h2⟩
  · have h5 := congrArg List.length hnm
    rw [List.length_map] at h5
    rw [h5]
    split
    · rw [List.length_map]; exact h.len
    · rename_i hm
      have := hl (at_none.2 hm)
      simp
      omega
theorem tree_drop {A : List Ent} (h : TreeA A) (xs : List Str) : TreeA (A.filter (outE xs)) := by
  have hsub : (A.filter (outE xs)).Sublist A := List.filter_sublist
  have hnd := h.nd.sublist (hsub.map (·.names))
  refine ⟨hnd, fun e he => h.good e (List.mem_filter.1 he).1, fun e he => ?_, Nat.le_trans hsub.length_le h.len⟩
  obtain ⟨he1, he2⟩ := List.mem_filter.1 he
  rcases dir_zero.1 (h.dir e he1) with h1 | ⟨d0, h1, h2⟩
  · exact dir_zero.2 (.inl h1)
  · obtain ⟨h3, h4⟩ := at_some h1
    have h5 : outE xs d0 = true := by
      unfold outE at he2 ⊢
      cases hw : withinS d0.names xs with
      | false => rfl
      | true =>
        obtain ⟨s, hs⟩ := within_iff.1 hw
        have h6 : withinS e.names xs = true := within_iff.2 ⟨s ++ [e.names.getLast (h.good e he1).2.1], by
          rw [← List.append_assoc, ← hs, h4]
          exact (List.dropLast_concat_getLast (h.good e he1).2.1).symm⟩
        rw [h6] at he2
        cases he2
    refine dir_zero.2 (.inr ⟨d0, ?_, h2⟩)
    rw [← h4]
    exact at_mem hnd (List.mem_filter.2 ⟨h3, h5⟩)
theorem tree_loop : ∀ (k : Nat) (A : List Ent) (s : Nd.Sta), TreeA A → TreeA (readLoop k A s).1
  | 0, A, _, h => h
  | k + 1, A, s, h => by
    unfold readLoop
    split
    · exact h
    · exact tree_loop k _ _ (tree_put h _ _ _ _)
theorem tree_read {s : Nd.Sta} {N Z : Nat} {A : List Ent} (h : readU s = some (N, Z, A)) : TreeA A ∧ N ≤ 128 ∧ Z ≤ 8192 := by
  unfold readU at h
  split at h
  · rename_i h1
    split at h
    · obtain ⟨rfl, rfl, rfl⟩ : _ ∧ _ ∧ _ := by
        have := Option.some.inj h
        exact ⟨(Prod.mk.inj this).1, (Prod.mk.inj (Prod.mk.inj this).2).1, (Prod.mk.inj (Prod.mk.inj this).2).2⟩
      exact ⟨tree_loop _ _ _ .nil, h1.1, h1.2⟩
    · cases h
  · cases h
end Go.Proofs.YtglfeocfhlmloaaGreat.Up
namespace Go.Proofs.YtglfeocfhlmloaaGreat.Up
open Go.RowKit
open Vp (Str B bl Val cmpL parseS showS withinS IsPath checkS)
open Nd (Sta sNum sText sFlag str bytesS)
def Ent.fil (e : Ent) : Fil := ⟨B (showS e.names), e.kind, e.opq, e.data⟩
/-- the order -/
def OrdA (A es : List Ent) : Prop := es.Perm A ∧ es.Pairwise (fun s t => ¬ cmpL t.names s.names < 0)
theorem ordA_one {A es es' : List Ent} (h : (A.map (·.names)).Nodup) (a : OrdA A es) (b : OrdA A es') : es = es' := by
  have hpp : es.Perm es' := a.1.trans b.1.symm
  refine List.Perm.eq_of_pairwise (le := fun s t => ¬ cmpL t.names s.names < 0) (fun x y hx hy h1 h2 => ?_) a.2 b.2 hpp
  have hn : x.names = y.names := by
    have t1 := Vp.cmpL_is.turn x.names y.names
    have t2 := Vp.cmpL_is.three x.names y.names
    exact (Vp.cmpL_is.zero _ _).1 (by omega)
  have e1 := at_mem h (a.1.mem_iff.1 hx)
  have e2 := at_mem h (b.1.mem_iff.1 hy)
  rw [hn, e2] at e1
  exact (Option.some.inj e1).symm
theorem gp_size {n : List Str} (h : Gp n) : (B (showS n)).size ≤ 200 := by
  have h6 := Vp.show_len n
  have h7 := h.lens
  have h8 : (B (showS n)).size = (showS n).length := by simp [B, ByteArray.size]
  omega
/-- an inode whose fields may be -/
def OkF (f : Fil) : Prop := f.path.size ≤ 200 ∧ (0 ≤ f.kind ∧ f.kind ≤ 3) ∧ f.data.size ≤ 1024
theorem okF {A : List Ent} (h : TreeA A) {e : Ent} (he : e ∈ A) : OkF e.fil := by
  obtain ⟨h1, _, h3⟩ := h.good e he
  obtain ⟨k1, k2, k3⟩ := kind_ok h3
  exact ⟨gp_size h1, ⟨k2, k3⟩, k1⟩
theorem num_back (v : Nat) (r : List Nat) (h : v < 18446744073709551616) : sNum (Nd.Wire.num v ++ r, 0) = (v, (r, 0)) := by
  unfold sNum
  rw [if_pos rfl]
  exact Nd.rnum_num v r h
theorem text_back (m : Nat) (S : ByteArray) (r : List Nat) (h : S.size ≤ m) (hm : m ≤ 9223372036854775807) : sText m (Nd.Wire.num S.size ++ (bytesS S ++ r), 0) = (bytesS S, (r, 0)) := by
  unfold sText Nd.Wire.rtext
  rw [if_pos rfl]
  have e := Nd.rnum_num S.size (bytesS S ++ r) (by omega)
  simp only [e]
  rw [if_neg (by simp), if_neg (by simp; omega), if_neg (by simp [Nd.bytesS_length])]
  have hl := Nd.bytesS_length S
  simp [← hl]
theorem flag_back (q : Bool) (r : List Nat) : sFlag ((if q then 1 else 0) :: r, 0) = (q, (r, 0)) := by
  unfold sFlag Nd.Wire.rflag
  cases q <;> simp
theorem ino_back (f : Fil) (r : List Nat) (h : OkF f) : sIno (encI f ++ r, 0) = (f, (r, 0)) := by
  obtain ⟨h1, ⟨h2, h3⟩, h4⟩ := h
  unfold sIno encI
  simp only [List.append_assoc]
  rw [text_back 256 f.path _ (by omega) (by omega)]
  simp only
  rw [num_back _ _ (by omega)]
  simp only [List.singleton_append]
  rw [flag_back]
  simp only
  rw [text_back 1024 f.data _ h4 (by omega)]
  simp only [Nd.str_bytesS]
  obtain ⟨p, k, q, d⟩ := f
  simp only at *
  rw [show ((min k.toNat 4 : Nat) : Int) = k by omega]
theorem cmp_up {n : List Str} (h : n ≠ []) : cmpL n.dropLast n = -1 := by
  refine Vp.cmpL_less (i := n.dropLast.length) (y := n.getLast h) ?_ (Nat.le_refl _) ?_
  · rw [List.take_length]
    conv => rhs; rw [← List.dropLast_concat_getLast h]
    simp
  · conv => lhs; rw [← List.dropLast_concat_getLast h]
    simp
theorem nms_show {n : List Str} (h : Gp n) : errOf (B (showS n)) = 0 ∧ nmsOf (B (showS n)) = n := by
  unfold errOf nmsOf
  rw [Vp.bl_B, h.parse]
  exact ⟨rfl, rfl⟩
/-- a tree that is put in its order -/
theorem back_put {A pre r : List Ent} {e : Ent} (h : TreeA A) (ho : OrdA A (pre ++ e :: r)) : putEA pre e.fil.path e.fil.kind e.fil.opq e.fil.data = 0 ∧ putU pre e.fil.path e.fil.kind e.fil.opq e.fil.data = pre ++ [e] := by
  have hm : ∀ x ∈ pre ++ e :: r, x ∈ A := fun x hx => ho.1.mem_iff.1 hx
  have he := hm e (by simp)
  obtain ⟨hg, hne, hf⟩ := h.good e he
  have hnd : ((pre ++ e :: r).map (·.names)).Nodup := (ho.1.map _).nodup_iff.2 h.nd
  have hnd2 : (pre.map (·.names)).Nodup := hnd.sublist ((List.sublist_append_left pre (e :: r)).map _)
  have hnew : e.names ∉ pre.map (·.names) := fun hx => by
    rw [List.map_append, List.nodup_append] at hnd
    exact hnd.2.2 _ hx e.names (by simp) rfl
  obtain ⟨n1, n2⟩ := nms_show hg
  have hdir : dirA pre e.names.dropLast = 0 := by
    rcases dir_zero.1 (h.dir e he) with h1 | ⟨d0, h1, h2⟩
    · exact dir_zero.2 (.inl h1)
    · obtain ⟨h3, h4⟩ := at_some h1
      refine dir_zero.2 (.inr ⟨d0, ?_, h2⟩)
      have h5 : d0 ∈ pre ++ e :: r := ho.1.mem_iff.2 h3
      have hc := cmp_up hne
      rcases List.mem_append.1 h5 with h6 | h6
      · rw [← h4]
        exact at_mem hnd2 h6
      · exfalso
        have hp := (List.pairwise_append.1 ho.2).2.1
        rcases List.mem_cons.1 h6 with rfl | h7
        · have := congrArg List.length h4
          simp at this
          have := List.length_pos_iff.2 hne
          omega
        · have := (List.pairwise_cons.1 hp).1 d0 h7
          rw [h4] at this
          omega
  have hl : pre.length < 1024 := by
    have h5 := ho.1.length_eq
    have := h.len
    simp at h5
    omega
  have hE : putEA pre e.fil.path e.fil.kind e.fil.opq e.fil.data = 0 := by
    show putEA pre (B (showS e.names)) e.kind e.opq e.data = 0
    unfold putEA
    rw [n1, n2, if_neg (by simp), if_neg hne, if_neg (by simp [hf])]
    unfold placeA
    rw [hdir, at_none.2 hnew, if_neg (by simp), if_neg (by simp), if_neg (by omega)]
  refine ⟨hE, ?_⟩
  unfold putU
  rw [if_pos hE]
  show putA pre ⟨nmsOf (B (showS e.names)), e.kind, e.opq, e.data⟩ = _
  rw [n2]
  exact putA_new hnew
theorem back_loop {A : List Ent} (h : TreeA A) (rest : List Nat) : ∀ (suf pre : List Ent), OrdA A (pre ++ suf) → readLoop suf.length pre ((suf.map Ent.fil).flatMap encI ++ rest, 0) = (pre ++ suf, 0)
  | [], pre, _ => by simp [readLoop]
  | e :: r, pre, ho => by
    obtain ⟨h1, h2⟩ := back_put h ho
    simp only [List.length_cons, List.map_cons, List.flatMap_cons, List.append_assoc]
    unfold readLoop
    rw [ino_back e.fil _ (okF h (ho.1.mem_iff.1 (by simp)))]
    simp only
    rw [if_neg (by simp [h1]), h2, back_loop h rest r (pre ++ [e]) (by simpa using ho)]
    simp
theorem back_read {A es : List Ent} {N Z : Nat} (h : TreeA A) (ho : OrdA A es) (hN : N ≤ 128) (hZ : Z ≤ 8192) (rest : List Nat) : readU (encU N Z A.length (es.map Ent.fil) ++ rest, 0) = some (N, Z, es) := by
  have hl : A.length = es.length := ho.1.length_eq.symm
  have h1024 := h.len
  unfold encU
  simp only [List.append_assoc]
  unfold readU sCut
  rw [num_back N _ (by omega)]
  simp only
  rw [num_back Z _ (by omega)]
  simp only
  rw [num_back A.length _ (by omega)]
  simp only
  rw [show min N (128 + 1) = N by omega, show min Z (8192 + 1) = Z by omega, show min A.length (1024 + 1) = es.length by omega]
  rw [back_loop h rest es [] (by simpa using ho)]
  simp [hN, hZ]
theorem TreeA.perm {A es : List Ent} (h : TreeA A) (hp : es.Perm A) : TreeA es := by
  have hnd : (es.map (·.names)).Nodup := (hp.map _).nodup_iff.2 h.nd
  refine ⟨hnd, fun e he => h.good e (hp.mem_iff.1 he), fun e he => ?_, by rw [hp.length_eq]; exact h.len⟩
  rcases dir_zero.1 (h.dir e (hp.mem_iff.1 he)) with h1 | ⟨d0, h1, h2⟩
  · exact dir_zero.2 (.inl h1)
  · obtain ⟨h3, h4⟩ := at_some h1
    refine dir_zero.2 (.inr ⟨d0, ?_, h2⟩)
    rw [← h4]
    exact at_mem hnd (hp.mem_iff.2 h3)
end Go.Proofs.YtglfeocfhlmloaaGreat.Up
