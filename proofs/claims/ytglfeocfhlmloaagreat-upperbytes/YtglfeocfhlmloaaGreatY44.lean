/-
  What the reference's Decode takes is what the program's takes. Plain facts.
-/
import Derived.Deep.CutRange
import Derived.Laws.CopyOwn
import Derived.Shelf.SlMaps.Clone
import Derived.Deep.RegionLaw
import Derived.Deep.DrawnRows
import Derived.Laws.Tables
import Derived.Test.YtglfeocfhlmloaaGreatY00
import Derived.Test.YtglfeocfhlmloaaGreatY01
import Derived.Test.YtglfeocfhlmloaaGreatY02
import Derived.Test.YtglfeocfhlmloaaGreatY03
import Derived.Test.YtglfeocfhlmloaaGreatY04
import Derived.Test.YtglfeocfhlmloaaGreatY05
import Derived.Test.YtglfeocfhlmloaaGreatY06
import Derived.Test.YtglfeocfhlmloaaGreatY07
import Derived.Test.YtglfeocfhlmloaaGreatY08
import Derived.Test.YtglfeocfhlmloaaGreatY09
import Derived.Test.YtglfeocfhlmloaaGreatY10
import Derived.Test.YtglfeocfhlmloaaGreatY11
import Derived.Test.YtglfeocfhlmloaaGreatY12
import Derived.Test.YtglfeocfhlmloaaGreatY13
import Derived.Test.YtglfeocfhlmloaaGreatY14
import Derived.Test.YtglfeocfhlmloaaGreatY15
import Derived.Test.YtglfeocfhlmloaaGreatY16
import Derived.Test.YtglfeocfhlmloaaGreatY17
import Derived.Test.YtglfeocfhlmloaaGreatY18
import Derived.Test.YtglfeocfhlmloaaGreatY19
import Derived.Test.YtglfeocfhlmloaaGreatY20
import Derived.Test.YtglfeocfhlmloaaGreatY21
import Derived.Test.YtglfeocfhlmloaaGreatY22
import Derived.Test.YtglfeocfhlmloaaGreatY23
import Derived.Test.YtglfeocfhlmloaaGreatY24
import Derived.Test.YtglfeocfhlmloaaGreatY25
import Derived.Test.YtglfeocfhlmloaaGreatY26
import Derived.Test.YtglfeocfhlmloaaGreatY27
import Derived.Test.YtglfeocfhlmloaaGreatY28
import Derived.Test.YtglfeocfhlmloaaGreatY29
import Derived.Test.YtglfeocfhlmloaaGreatY30
import Derived.Test.YtglfeocfhlmloaaGreatY31
import Derived.Test.YtglfeocfhlmloaaGreatY32
import Derived.Test.YtglfeocfhlmloaaGreatY33
import Derived.Test.YtglfeocfhlmloaaGreatY34
import Derived.Test.YtglfeocfhlmloaaGreatY35
import Derived.Test.YtglfeocfhlmloaaGreatY36
import Derived.Test.YtglfeocfhlmloaaGreatY37
import Derived.Test.YtglfeocfhlmloaaGreatY38
import Derived.Test.YtglfeocfhlmloaaGreatY39
import Derived.Test.YtglfeocfhlmloaaGreatY40
import Derived.Test.YtglfeocfhlmloaaGreatY41
import Derived.Test.YtglfeocfhlmloaaGreatY42
import Derived.Test.YtglfeocfhlmloaaGreatY43
namespace Go.Proofs.YtglfeocfhlmloaaGreat.Up
open Go.RowKit
open Vp (Str B bl Val cmpL parseS showS withinS IsPath checkS)
open Nd (Sta sNum sText sFlag str bytesS)
/-- inodes are read and put, one behind the other, by the reference -/
def rdL : Nat → List Ent → Sta → Option (List Ent × Sta)
  | 0, es, t => some (es, t)
  | k + 1, es, t => if 3 < (sNum (sText 256 t).2).1 ∨ (sIno t).2.2 ≠ 0 ∨ putEA es (sIno t).1.path (sIno t).1.kind (sIno t).1.opq (sIno t).1.data ≠ 0 then none else rdL k (putO es (sIno t).1.path (sIno t).1.kind (sIno t).1.opq (sIno t).1.data) (sIno t).2
def rdE (bs : List Nat) (N Z : Nat) : Option (List Ent × Sta) → Option (Nat × Nat × List Ent)
  | none => none
  | some (es, t) => if t.2 ≠ 0 ∨ t.1.length ≠ 0 ∨ encA N Z es ≠ bs then none else some (N, Z, es)
def rdU (bs : List Nat) : Option (Nat × Nat × List Ent) :=
  if (sNum (sNum (sNum (bs, 0)).2).2).2.2 ≠ 0 ∨ 128 < (sNum (bs, 0)).1 ∨ 8192 < (sNum (sNum (bs, 0)).2).1 ∨ 1024 < (sNum (sNum (sNum (bs, 0)).2).2).1 then none
  else rdE bs (sNum (bs, 0)).1 (sNum (sNum (bs, 0)).2).1 (rdL (sNum (sNum (sNum (bs, 0)).2).2).1 [] (sNum (sNum (sNum (bs, 0)).2).2).2)
/-- inodes in their order, a tree -/
structure Srt (es : List Ent) : Prop where
  tree : TreeA es
  ord : OrdA es es
theorem Srt.nil : Srt [] := ⟨TreeA.nil, List.Perm.refl _, List.Pairwise.nil⟩
theorem Srt.put {es : List Ent} (h : Srt es) (p : ByteArray) (k : Int) (q : Bool) (d : ByteArray) : Srt (putO es p k q d) := by
  have h1 := ord_put h.tree h.ord p k q d
  exact ⟨(tree_put h.tree p k q d).perm h1.1, List.Perm.refl _, h1.2⟩
theorem rdL_ok : ∀ (k : Nat) {es es' : List Ent} {t t' : Sta}, Srt es → rdL k es t = some (es', t') → Srt es'
  | 0, es, es', t, t', h, e => by
    unfold rdL at e
    have h2 := Option.some.inj e
    obtain rfl := (Prod.mk.inj h2).1
    exact h
  | k + 1, es, es', t, t', h, e => by
    unfold rdL at e
    split at e
    · cases e
    · exact rdL_ok k (h.put _ _ _ _) e
theorem rdU_in {bs : List Nat} {N Z : Nat} {es : List Ent} (h : rdU bs = some (N, Z, es)) : readU (bs, 0) = some (N, Z, es) ∧ Srt es ∧ encA N Z es = bs ∧ N ≤ 128 ∧ Z ≤ 8192 := by
  unfold rdU at h
  split at h
  · cases h
  · rename_i h0
    cases hr : rdL (sNum (sNum (sNum (bs, 0)).2).2).1 [] (sNum (sNum (sNum (bs, 0)).2).2).2 with
    | none => rw [hr] at h; cases h
    | some q =>
      obtain ⟨es', t'⟩ := q
      rw [hr] at h
      unfold rdE at h
      simp only at h
      split at h
      · cases h
      · rename_i h1
        have h2 := Option.some.inj h
        obtain rfl := (Prod.mk.inj h2).1
        obtain rfl := (Prod.mk.inj (Prod.mk.inj h2).2).1
        obtain rfl := (Prod.mk.inj (Prod.mk.inj h2).2).2
        have hs := rdL_ok _ Srt.nil hr
        have he : encA (sNum (bs, 0)).1 (sNum (sNum (bs, 0)).2).1 es' = bs := by
          rcases Decidable.em (encA (sNum (bs, 0)).1 (sNum (sNum (bs, 0)).2).1 es' = bs) with h5 | h5
          · exact h5
          · exact absurd (.inr (.inr h5)) h1
        have hN : (sNum (bs, 0)).1 ≤ 128 := by omega
        have hZ : (sNum (sNum (bs, 0)).2).1 ≤ 8192 := by omega
        have hb := back_read hs.tree hs.ord hN hZ []
        rw [List.append_nil] at hb
        refine ⟨?_, hs, he, hN, hZ⟩
        have e2 : encU (sNum (bs, 0)).1 (sNum (sNum (bs, 0)).2).1 es'.length (es'.map Ent.fil) = bs := he
        rw [e2] at hb
        exact hb
theorem rd_loop {A : List Ent} (h : TreeA A) (rest : List Nat) : ∀ (suf pre : List Ent), OrdA A (pre ++ suf) → TreeA pre → rdL suf.length pre ((suf.map Ent.fil).flatMap encI ++ rest, 0) = some (pre ++ suf, (rest, 0))
  | [], pre, _, _ => by simp [rdL]
  | e :: suf, pre, ho, hp => by
    obtain ⟨b1, b2⟩ := back_put h ho
    have hmem : e ∈ A := ho.1.mem_iff.1 (by simp)
    have hok := okF h hmem
    have hib := ino_back e.fil ((suf.map Ent.fil).flatMap encI ++ rest) hok
    have hpw : (pre ++ [e]).Pairwise (fun s t => ¬ cmpL t.names s.names < 0) := by
      refine ho.2.sublist ?_
      exact List.Sublist.append (List.Sublist.refl _) (by simp)
    have hop : OrdA pre pre := ⟨List.Perm.refl _, hpw.sublist (by simp)⟩
    have ht2 := tree_put hp e.fil.path e.fil.kind e.fil.opq e.fil.data
    rw [b2] at ht2
    have ho2 := ord_put hp hop e.fil.path e.fil.kind e.fil.opq e.fil.data
    rw [b2] at ho2
    have hO : putO pre e.fil.path e.fil.kind e.fil.opq e.fil.data = pre ++ [e] := ordA_one ht2.nd ho2 ⟨List.Perm.refl _, hpw⟩
    rw [List.length_cons, List.map_cons, List.flatMap_cons, List.append_assoc]
    have hk : ¬ 3 < (sNum (sText 256 (encI e.fil ++ ((suf.map Ent.fil).flatMap encI ++ rest), 0)).2).1 := by
      have h1 : (sIno (encI e.fil ++ ((suf.map Ent.fil).flatMap encI ++ rest), 0)).1.kind = ((min (sNum (sText 256 (encI e.fil ++ ((suf.map Ent.fil).flatMap encI ++ rest), 0)).2).1 4 : Nat) : Int) := rfl
      rw [hib] at h1
      have h3 := hok.2.1.2
      simp only at h1
      omega
    have ho3 : OrdA A ((pre ++ [e]) ++ suf) := by
      rw [List.append_assoc]
      exact ho
    have ih := rd_loop h rest suf (pre ++ [e]) ho3 ht2
    unfold rdL
    rw [if_neg ?_]
    · rw [hib]
      simp only
      rw [hO, ih]
      simp
    · rintro (h1 | h1 | h1)
      · exact hk h1
      · rw [hib] at h1
        exact h1 rfl
      · rw [hib] at h1
        exact h1 b1
/-- a tree's bytes are taken by the reference -/
theorem rdU_enc {A es : List Ent} {N Z : Nat} (h : TreeA A) (ho : OrdA A es) (hN : N ≤ 128) (hZ : Z ≤ 8192) : rdU (encA N Z es) = some (N, Z, es) := by
  have hl : es.length ≤ 1024 := by have := ho.1.length_eq; have := h.len; omega
  have e : encA N Z es = Nd.Wire.num N ++ (Nd.Wire.num Z ++ (Nd.Wire.num es.length ++ ((es.map Ent.fil).flatMap encI ++ []))) := by
    simp [encA, encU]
  have h1 := rd_loop h [] es [] ho TreeA.nil
  unfold rdU
  rw [e]
  simp only [num_back N _ (by omega), num_back Z _ (by omega), num_back es.length _ (by omega)]
  rw [if_neg (by omega), h1]
  unfold rdE
  simp only [List.nil_append, List.length_nil]
  rw [if_neg]
  rintro (h2 | h2 | h2)
  · exact h2 rfl
  · exact h2 rfl
  · exact h2 e
end Go.Proofs.YtglfeocfhlmloaaGreat.Up
