/-
  A list that is sorted is one list; the operations of PlainBack, by what is there. What an operation tells and leaves, of what is there: one way alone. Plain facts, and Do by them. The walk of Node: the node that plain data mean.
-/
import Derived.Laws.CopyOwn
import Derived.Deep.RegionLaw
import Derived.Deep.DrawnRows
import Derived.Lib.SlBytesConst
import Derived.Lib.AppendZeros
import Derived.Laws.Tables
import Derived.Test.YtngehkmdanhgpaaGreatR00
import Derived.Test.YtngehkmdanhgpaaGreatR01
import Derived.Test.YtngehkmdanhgpaaGreatR02
import Derived.Test.YtngehkmdanhgpaaGreatR03
import Derived.Test.YtngehkmdanhgpaaGreatR04
import Derived.Test.YtngehkmdanhgpaaGreatR05
import Derived.Test.YtngehkmdanhgpaaGreatR06
import Derived.Test.YtngehkmdanhgpaaGreatR07
import Derived.Test.YtngehkmdanhgpaaGreatR08
import Derived.Test.YtngehkmdanhgpaaGreatR09
import Derived.Test.YtngehkmdanhgpaaGreatR10
import Derived.Test.YtngehkmdanhgpaaGreatR11
import Derived.Test.YtngehkmdanhgpaaGreatR12
import Derived.Test.YtngehkmdanhgpaaGreatR13
import Derived.Test.YtngehkmdanhgpaaGreatR14
import Derived.Test.YtngehkmdanhgpaaGreatR15
import Derived.Test.YtngehkmdanhgpaaGreatR16
import Derived.Test.YtngehkmdanhgpaaGreatR17
import Derived.Test.YtngehkmdanhgpaaGreatR18
import Derived.Test.YtngehkmdanhgpaaGreatR19
import Derived.Test.YtngehkmdanhgpaaGreatR20
import Derived.Test.YtngehkmdanhgpaaGreatR21
import Derived.Test.YtngehkmdanhgpaaGreatR22
import Derived.Test.YtngehkmdanhgpaaGreatR23
import Derived.Test.YtngehkmdanhgpaaGreatR24
import Derived.Test.YtngehkmdanhgpaaGreatR25
import Derived.Test.YtngehkmdanhgpaaGreatR26
import Derived.Test.YtngehkmdanhgpaaGreatR27
import Derived.Test.YtngehkmdanhgpaaGreatR28
import Derived.Test.YtngehkmdanhgpaaGreatR29
import Derived.Test.YtngehkmdanhgpaaGreatR30
import Derived.Test.YtngehkmdanhgpaaGreatR31
import Derived.Test.YtngehkmdanhgpaaGreatR32
import Derived.Test.YtngehkmdanhgpaaGreatR33
import Derived.Test.YtngehkmdanhgpaaGreatR34
import Derived.Test.YtngehkmdanhgpaaGreatR35
import Derived.Test.YtngehkmdanhgpaaGreatR36
import Derived.Test.YtngehkmdanhgpaaGreatR37
import Derived.Test.YtngehkmdanhgpaaGreatR38
import Derived.Test.YtngehkmdanhgpaaGreatR39
import Derived.Test.YtngehkmdanhgpaaGreatR40
import Derived.Test.YtngehkmdanhgpaaGreatR41
import Derived.Test.YtngehkmdanhgpaaGreatR42
import Derived.Test.YtngehkmdanhgpaaGreatR43
namespace Go.Proofs.YtngehkmdanhgpaaGreat.Pl
open Go.RowKit
open Vp (Str B bl Val cmpL parseS showS splitS withinS IsPath)
open Nd (Row wp_world post_Row post_Row2 grownBy_setCell below_of_grown Opn checkS numsOk namedS pathsS perr)
open Rf (Fil Fls)
/-- the files are what is there but the root, sorted -/
def Lists (A : List Ent) (fs : List Fil) : Prop := ∃ es : List Ent, fs = es.map (fun e => ⟨B (showS e.names), e.dir, e.data⟩) ∧ es.Perm (A.filter (belowE [])) ∧ es.Pairwise (fun s t => ¬ cmpL t.names s.names < 0)
theorem Lists.len {A : List Ent} {fs : List Fil} (h : Lists A fs) : fs.length = (A.filter (belowE [])).length := by
  obtain ⟨es, rfl, h1, _⟩ := h
  rw [List.length_map, h1.length_eq]
theorem Lists.one {A C : List Ent} {fs gs : List Fil} (hA : (A.map (·.names)).Nodup) (h : Lists A fs) (k : Lists C gs) (hp : C.Perm A) : gs = fs := by
  obtain ⟨es, rfl, h1, h2⟩ := h
  obtain ⟨cs, rfl, k1, k2⟩ := k
  have hpp : cs.Perm es := k1.trans ((hp.filter _).trans h1.symm)
  have hmem : ∀ e ∈ es, e ∈ A := fun e he => (List.mem_filter.1 (h1.mem_iff.1 he)).1
  have : cs = es := List.Perm.eq_of_pairwise (le := fun s t => ¬ cmpL t.names s.names < 0) (fun a b ha hb h1 h2 => by
    have hn : a.names = b.names := by
      have t1 := Vp.cmpL_is.turn a.names b.names
      have t2 := Vp.cmpL_is.three a.names b.names
      exact (Vp.cmpL_is.zero _ _).1 (by omega)
    have q1 := at_mem hA (hmem a (hpp.mem_iff.1 ha))
    have q2 := at_mem hA (hmem b hb)
    rw [hn] at q1
    exact Option.some.inj (q1.symm.trans q2)) k2 h2 hpp
  rw [this]
theorem FsA.one {w : World} {g m : Nat} {A : List Ent} (h : FsA w g m A) : (A.map (·.names)).Nodup ∧ ∀ e ∈ A, e.names.length ≤ 8 := by
  obtain ⟨L, h1, rfl⟩ := h
  refine ⟨?_, fun e he => ?_⟩
  · rw [List.map_map]
    exact h1.map.one
  · obtain ⟨s, hs, rfl⟩ := List.mem_map.1 he
    exact (h1.map.good s hs).2.2
theorem w_list {W : World} {g m : Nat} {A : List Ent} (h : FsA W g m A) (hn : A.length ≤ 100000) :
    Calls Tryz.prog 16 #[.pointer (some ⟨g, 0, none⟩)] W fun e W' => ∃ p c fs, e = .returned (.slice p fs.length c) ∧ Fls W' (.slice p fs.length c) fs ∧ Lists A fs ∧ FsA W' g m A ∧ Below W.heap.size W W' := by
  obtain ⟨L, h1, rfl⟩ := h
  refine (list_any h1 (by simpa using hn)).mono ?_
  rintro e W' ⟨v, sp, rfl, hf, hp, hs, hF, hb⟩
  obtain ⟨p, c, rfl⟩ := hf.form
  refine ⟨p, c, sp.map Spot.fil, rfl, hf, ⟨sp.map Spot.ent, ?_, ?_, ?_⟩, ⟨L, hF, rfl⟩, hb⟩
  · rw [List.map_map]
    refine List.map_congr_left fun s hs => ?_
    have hg := (h1.map.good s (List.mem_filter.1 (hp.mem_iff.1 hs)).1).1
    simp only [Function.comp, Spot.fil, Spot.ent]
    rw [hg]
  · rw [← belowB_ent]
    exact hp.map _
  · rw [List.pairwise_map]
    exact hs
end Go.Proofs.YtngehkmdanhgpaaGreat.Pl
namespace Go.Proofs.YtngehkmdanhgpaaGreat.Pl
open Go.RowKit
open Vp (Str B bl Val cmpL parseS showS splitS withinS IsPath)
open Nd (Row wp_world post_Row post_Row2 grownBy_setCell below_of_grown checkS)
/-- operations that go one way alone -/
def detT (A : List Ent) (k a z : Int) (p d : ByteArray) : RA × List Ent :=
  if k = 1 then (RA.err (addE A (nmsOf p)), addA A (nmsOf p) true)
  else if k = 2 then (RA.err (addE A (nmsOf p)), addA A (nmsOf p) false)
  else if k = 3 then (⟨wrE A (nmsOf p) a.toNat d, false, wrS A (nmsOf p) a.toNat d, ⟨#[]⟩, []⟩, wrA A (nmsOf p) a.toNat d)
  else if k = 4 then (⟨trE A (nmsOf p), false, trS A (nmsOf p) z.toNat, ⟨#[]⟩, []⟩, trA A (nmsOf p) z.toNat)
  else if k = 5 then (RA.err (ulE A (nmsOf p)), ulA A (nmsOf p))
  else if k = 6 then (RA.err (rmE A (nmsOf p)), rmA A (nmsOf p))
  else if k = 8 then (⟨rdE A (nmsOf p) a.toNat, false, rdS A (nmsOf p) a.toNat, rdB A (nmsOf p) a.toNat z.toNat, []⟩, A)
  else if k = 10 then (⟨stE A (nmsOf p), stD A (nmsOf p), stS A (nmsOf p), ⟨#[]⟩, []⟩, A)
  else (RA.err 0, A)
/-- what an operation tells and leaves -/
def Tells (A : List Ent) (k a z : Int) (p t d : ByteArray) (R : RA) (A' : List Ent) : Prop :=
  if checkS ⟨k, p, t, d, a, z⟩ ≠ 0 then R = RA.err (checkS ⟨k, p, t, d, a, z⟩) ∧ A' = A
  else if k = 7 then R = RA.err (rnE A (nmsOf p) (nmsOf t)) ∧ Moved A (nmsOf p) (nmsOf t) A'
  else if k = 9 then Listed A (nmsOf p) R ∧ A' = A
  else R = (detT A k a z p d).1 ∧ A' = (detT A k a z p d).2
def StepsT (w : World) (g m : Nat) (A : List Ent) (k a z : Int) (p t d : ByteArray) (e : Ending) (w' : World) : Prop := ∃ (R : RA) (v : Value) (A' : List Ent), e = .returned (.agg #[.int .i64 R.code, .bool R.dir, .int .i64 R.size, .string R.data, v]) ∧ Rf.Nm w' v R.names ∧ FsA w' g m A' ∧ Kept A A' ∧ w.grownBy w' (some m) ∧ Tells A k a z p t d R A'
theorem Did.stepsT {w : World} {g m : Nat} {R : RA} {A A' : List Ent} {k a z : Int} {p t d : ByteArray} {e : Ending} {w' : World} (h : Did w g m R A' e w') (k1 : Kept A A') (k2 : Tells A k a z p t d R A') : StepsT w g m A k a z p t d e w' := by
  obtain ⟨v, h1, h2, h3, h4⟩ := h
  exact ⟨R, v, A', h1, h2, h3, k1, h4, k2⟩
theorem stepT_any {W : World} {g m : Nat} {A : List Ent} (h : FsA W g m A) (hT : Tree A) (hS : Small A) (hn : A.length ≤ 100000) (k a z : Int) (p t d : ByteArray) (hp : p.size ≤ 9223372036854775807) (ht : t.size ≤ 9223372036854775807) :
    Calls Tryz.prog 14 #[.pointer (some ⟨g, 0, none⟩), .agg #[.int .i64 k, .string p, .string t, .string d, .int .i64 a, .int .i64 z]] W fun e W' => StepsT W g m A k a z p t d e W' := by
  obtain ⟨L, h1, rfl⟩ := h
  have hA : ((L.map Spot.ent).map (·.names)).Nodup := by rw [List.map_map]; exact h1.map.one
  have hn' : L.length ≤ 100000 := by simpa using hn
  by_cases hc : checkS ⟨k, p, t, d, a, z⟩ = 0
  · obtain ⟨c1, c2, c3, c4, c5, c6⟩ := check_ok hc
    have hk : k = 1 ∨ k = 2 ∨ k = 3 ∨ k = 4 ∨ k = 5 ∨ k = 6 ∨ k = 7 ∨ k = 8 ∨ k = 9 ∨ k = 10 ∨ k = 11 := by omega
    rcases hk with rfl | rfl | rfl | rfl | rfl | rfl | rfl | rfl | rfl | rfl | rfl
    · exact (do_mkdir h1 a z p t d hp ht hc).mono fun _ _ hd => hd.stepsT (kept_add hT hS _ _) (by unfold Tells; rw [if_neg (not_not_intro hc)]; exact ⟨rfl, rfl⟩)
    · exact (do_create h1 a z p t d hp ht hc).mono fun _ _ hd => hd.stepsT (kept_add hT hS _ _) (by unfold Tells; rw [if_neg (not_not_intro hc)]; exact ⟨rfl, rfl⟩)
    · obtain ⟨a', rfl⟩ := Int.eq_ofNat_of_zero_le (show 0 ≤ a by omega)
      exact (do_write h1 hS z a' p t d hp ht hc (by omega) c4).mono fun _ _ hd => hd.stepsT (kept_wr hT hS _ _ _) (by unfold Tells; rw [if_neg (not_not_intro hc)]; exact ⟨rfl, rfl⟩)
    · obtain ⟨z', rfl⟩ := Int.eq_ofNat_of_zero_le (show 0 ≤ z by omega)
      exact (do_trunc h1 hS a z' p t d hp ht hc (by omega)).mono fun _ _ hd => hd.stepsT (kept_tr hT hS _ _ (by omega)) (by unfold Tells; rw [if_neg (not_not_intro hc)]; exact ⟨rfl, rfl⟩)
    · exact (do_unlink h1 a z p t d hp ht hc).mono fun _ _ hd => hd.stepsT (kept_ul hT hS _) (by unfold Tells; rw [if_neg (not_not_intro hc)]; exact ⟨rfl, rfl⟩)
    · exact (do_rmdir h1 hn' a z p t d hp ht hc).mono fun _ _ hd => hd.stepsT (kept_rm hT hS _) (by unfold Tells; rw [if_neg (not_not_intro hc)]; exact ⟨rfl, rfl⟩)
    · exact (do_rename h1 hn' a z p t d hp ht hc).mono fun _ _ ⟨v, e1, e2, ⟨L', e3, e4⟩, e5⟩ => ⟨_, v, L'.map Spot.ent, e1, e2, ⟨L', e3, rfl⟩, kept_rn hT hS hA e4, e5, by unfold Tells; rw [if_neg (not_not_intro hc), if_pos rfl]; exact ⟨rfl, e4⟩⟩
    · obtain ⟨a', rfl⟩ := Int.eq_ofNat_of_zero_le (show 0 ≤ a by omega)
      obtain ⟨z', rfl⟩ := Int.eq_ofNat_of_zero_le (show 0 ≤ z by omega)
      exact (do_read h1 a' z' p t d hp ht hc (by omega) (by omega)).mono fun _ _ hd => hd.stepsT (kept_same hT hS) (by unfold Tells; rw [if_neg (not_not_intro hc)]; exact ⟨rfl, rfl⟩)
    · exact (do_list h1 hn' a z p t d hp ht hc).mono fun _ _ ⟨rc, rd, rs, rx, rn, v, e0, e1, e2, ⟨L', e3, e4⟩, e5⟩ => ⟨⟨rc, rd, rs, rx, rn⟩, v, L.map Spot.ent, e1, e2, ⟨L', e3, e4⟩, kept_same hT hS, e5, by unfold Tells; rw [if_neg (not_not_intro hc), if_neg (by decide), if_pos rfl]; exact ⟨e0, rfl⟩⟩
    · exact (do_stat h1 hn' a z p t d hp ht hc).mono fun _ _ hd => hd.stepsT (kept_same hT hS) (by unfold Tells; rw [if_neg (not_not_intro hc)]; exact ⟨rfl, rfl⟩)
    · exact (do_forget h1 a z p t d hp ht hc).mono fun _ _ hd => hd.stepsT (kept_same hT hS) (by unfold Tells; rw [if_neg (not_not_intro hc)]; exact ⟨rfl, rfl⟩)
  · exact (do_err h1 k a z p t d hp ht hc).mono fun _ _ hd => hd.stepsT (kept_same hT hS) (by unfold Tells; rw [if_pos hc]; exact ⟨rfl, rfl⟩)
/-- an error changes nothing, and is told alone -/
theorem det_err {A : List Ent} {k a z : Int} {p d : ByteArray} (h : (detT A k a z p d).1.code ≠ 0) : (detT A k a z p d).1 = RA.err (detT A k a z p d).1.code ∧ (detT A k a z p d).2 = A := by
  unfold detT at h ⊢
  by_cases k1 : k = 1
  · simp only [if_pos k1] at h ⊢
    exact ⟨rfl, if_neg h⟩
  simp only [if_neg k1] at h ⊢
  by_cases k2 : k = 2
  · simp only [if_pos k2] at h ⊢
    exact ⟨rfl, if_neg h⟩
  simp only [if_neg k2] at h ⊢
  by_cases k3 : k = 3
  · simp only [if_pos k3] at h ⊢
    refine ⟨?_, if_neg h⟩
    unfold wrS
    rw [if_neg h]
    rfl
  simp only [if_neg k3] at h ⊢
  by_cases k4 : k = 4
  · simp only [if_pos k4] at h ⊢
    refine ⟨?_, if_neg h⟩
    unfold trS
    rw [if_neg h]
    rfl
  simp only [if_neg k4] at h ⊢
  by_cases k5 : k = 5
  · simp only [if_pos k5] at h ⊢
    exact ⟨rfl, if_neg h⟩
  simp only [if_neg k5] at h ⊢
  by_cases k6 : k = 6
  · simp only [if_pos k6] at h ⊢
    exact ⟨rfl, if_neg h⟩
  simp only [if_neg k6] at h ⊢
  by_cases k8 : k = 8
  · simp only [if_pos k8] at h ⊢
    unfold rdS rdB
    rw [if_neg h, if_neg h]
    exact ⟨rfl, trivial⟩
  simp only [if_neg k8] at h ⊢
  by_cases k10 : k = 10
  · simp only [if_pos k10] at h ⊢
    unfold stD stS
    rw [if_neg h, if_neg h]
    exact ⟨rfl, trivial⟩
  simp only [if_neg k10] at h ⊢
  exact absurd rfl h
theorem Tells.err {A A' : List Ent} {k a z : Int} {p t d : ByteArray} {R : RA} (h : Tells A k a z p t d R A') (hc : R.code ≠ 0) : R = RA.err R.code ∧ A' = A := by
  unfold Tells at h
  split at h
  · obtain ⟨rfl, rfl⟩ := h
    exact ⟨rfl, rfl⟩
  split at h
  · obtain ⟨rfl, h2⟩ := h
    exact ⟨rfl, h2.1 (.inl hc)⟩
  split at h
  · obtain ⟨⟨h1, h2, h3⟩, rfl⟩ := h
    refine ⟨?_, rfl⟩
    rcases h3 with ⟨_, h4, h5, h6⟩ | ⟨h4, _⟩
    · obtain ⟨rc, rd, rs, rx, rn⟩ := R
      simp only at h2 h4 h5 h6
      subst h2 h4 h5 h6
      rfl
    · exact absurd (h1.trans h4) hc
  · obtain ⟨rfl, rfl⟩ := h
    exact det_err hc
/-- what only reads changes nothing -/
theorem Tells.reads {A A' : List Ent} {k a z : Int} {p t d : ByteArray} {R : RA} (h : Tells A k a z p t d R A') (hk : k = 8 ∨ k = 9 ∨ k = 10) : A' = A := by
  unfold Tells at h
  split at h
  · exact h.2
  rw [if_neg (by omega)] at h
  split at h
  · exact h.2
  · rename_i h9
    obtain ⟨_, rfl⟩ := h
    unfold detT
    rcases hk with rfl | rfl | rfl
    · rfl
    · exact absurd rfl h9
    · rfl
theorem rn_free {A : List Ent} {p q : List Str} (hT : Tree A) (h : rnE A p q = 0) (hpq : p ≠ q) : ∀ s, s ≠ [] → entAt A (q ++ s) = none := by
  cases hq : entAt A q with
  | none => exact fun s _ => hT.none hq _ s rfl
  | some o =>
    have hcv : cvE A p q = 0 := by
      have h1 := h
      unfold rnE at h1
      split at h1
      · rename_i h2
        exact absurd h1 h2
      (try rw [if_neg hpq] at h1)
      unfold mvE at h1
      split at h1
      · cases h1
      split at h1
      · rename_i h2
        exact absurd h1 h2
      · rename_i h2
        exact Classical.byContradiction h2
    unfold cvE at hcv
    rw [hq] at hcv
    simp only at hcv
    unfold covE at hcv
    split at hcv
    · cases hcv
    split at hcv
    · cases hcv
    split at hcv
    · cases hcv
    rename_i h3
    exact none_below h3
theorem moved_one {A C D : List Ent} {p q : List Str} (hT : Tree A) (hA : (A.map (·.names)).Nodup) (h : Moved A p q C) (k : Moved A p q D) : C.Perm D := by
  by_cases hc : rnE A p q = 0 ∧ p ≠ q
  · obtain ⟨x, es, hx, hp, rfl⟩ := h.2 hc
    obtain ⟨y, fs, hy, hq, rfl⟩ := k.2 hc
    rw [hx] at hy
    obtain rfl := Option.some.inj hy
    have hqs := rn_free hT hc.1 hc.2
    have hw := (rn_ok hc.1).2.2.2.2 hc.2
    have hwp : withinS p q = false := by
      cases hcc : withinS p q with
      | false => rfl
      | true =>
        obtain ⟨s, hs⟩ := within_iff.1 hcc
        by_cases h0 : s = []
        · rw [h0, List.append_nil] at hs
          exact absurd hs hc.2
        · rw [hs, hqs s h0] at hx
          cases hx
    obtain ⟨a1, a2, a3⟩ := at_moved2 hA hx hp ⟨hwp, hw⟩ hqs
    obtain ⟨b1, b2, b3⟩ := at_moved2 hA hx hq ⟨hwp, hw⟩ hqs
    refine perm_at (nodup_moves _ _ hA) (nodup_moves _ _ hA) (fun n => ?_)
    cases h1 : withinS n q with
    | true =>
      obtain ⟨s, rfl⟩ := within_iff.1 h1
      rw [a1, b1]
    | false =>
      cases h2 : withinS n p with
      | true =>
        obtain ⟨s, rfl⟩ := within_iff.1 h2
        rw [a2, b2]
      | false => rw [a3 n h2 h1, b3 n h2 h1]
  · have hn : rnE A p q ≠ 0 ∨ p = q := by
      by_cases h1 : rnE A p q = 0
      · exact .inr (Classical.byContradiction fun h2 => hc ⟨h1, h2⟩)
      · exact .inl h1
    rw [h.1 hn, k.1 hn]
theorem listed_one {A : List Ent} {xs : List Str} {R S : RA} (hA : (A.map (·.names)).Nodup) (h : Listed A xs R) (k : Listed A xs S) : R = S := by
  obtain ⟨rc, rd, rs, rx, rn⟩ := R
  obtain ⟨sc, sd, ss, sx, sn⟩ := S
  obtain ⟨h1, h2, h3⟩ := h
  obtain ⟨k1, k2, k3⟩ := k
  simp only at h1 h2 h3 k1 k2 k3
  subst h1 h2 k1 k2
  rcases h3 with ⟨h0, h4, h5, h6⟩ | ⟨h0, h4, h5, es, e1, e2, e3⟩
  · rcases k3 with ⟨_, k4, k5, k6⟩ | ⟨k0, _⟩
    · subst h4 h5 h6 k4 k5 k6
      rfl
    · exact absurd k0 h0
  · rcases k3 with ⟨k0, _⟩ | ⟨_, k4, k5, fs, f1, f2, f3⟩
    · exact absurd h0 k0
    · have hmem : ∀ e ∈ fs, e ∈ A := fun e he => by
        have := f1.mem_iff.1 he
        unfold kidsA at this
        exact (List.mem_filter.1 (List.mem_filter.1 this).1).1
      have hpp : es.Perm fs := e1.trans f1.symm
      have : es = fs := List.Perm.eq_of_pairwise (le := fun s t => ¬ cmpL t.names s.names < 0) (fun a b ha hb h1 h2 => by
        have hn : a.names = b.names := by
          have t1 := Vp.cmpL_is.turn a.names b.names
          have t2 := Vp.cmpL_is.three a.names b.names
          exact (Vp.cmpL_is.zero _ _).1 (by omega)
        have q1 := at_mem hA (hmem a (hpp.mem_iff.1 ha))
        have q2 := at_mem hA (hmem b hb)
        rw [hn] at q1
        exact Option.some.inj (q1.symm.trans q2)) e2 f2 hpp
      subst this
      subst h4 k4 e3 f3 h5 k5
      rfl
/-- one way alone -/
theorem Tells.one {A C D : List Ent} {k a z : Int} {p t d : ByteArray} {R S : RA} (hT : Tree A) (hA : (A.map (·.names)).Nodup) (h : Tells A k a z p t d R C) (g : Tells A k a z p t d S D) : R = S ∧ C.Perm D := by
  unfold Tells at h g
  split at h
  · rename_i hc
    rw [if_pos hc] at g
    obtain ⟨rfl, rfl⟩ := h
    obtain ⟨rfl, rfl⟩ := g
    exact ⟨rfl, List.Perm.refl _⟩
  rename_i hc
  rw [if_neg hc] at g
  split at h
  · rename_i h7
    rw [if_pos h7] at g
    obtain ⟨rfl, h2⟩ := h
    obtain ⟨rfl, g2⟩ := g
    exact ⟨rfl, moved_one hT hA h2 g2⟩
  rename_i h7
  rw [if_neg h7] at g
  split at h
  · rename_i h9
    rw [if_pos h9] at g
    obtain ⟨h1, rfl⟩ := h
    obtain ⟨g1, rfl⟩ := g
    exact ⟨listed_one hA h1 g1, List.Perm.refl _⟩
  rename_i h9
  rw [if_neg h9] at g
  obtain ⟨rfl, rfl⟩ := h
  obtain ⟨rfl, rfl⟩ := g
  exact ⟨rfl, List.Perm.refl _⟩
end Go.Proofs.YtngehkmdanhgpaaGreat.Pl
namespace Go.Proofs.YtngehkmdanhgpaaGreat.Nd
open Go.RowKit
/-- a slice of slices of bytes -/
def Bss (w : World) (v : Value) (ps : List (List Nat)) : Prop := ∃ p cap b o, v = .slice p ps.length cap ∧ ps.length ≤ cap ∧ cap ≤ 9223372036854775807 ∧ (ps ≠ [] → p = some ⟨b, o, none⟩ ∧ b < w.heap.size) ∧ ∀ (i : Nat) bs, ps[i]? = some bs → ∃ q c b' o', w.cell? ⟨b, o + i, none⟩ = some (.slice q bs.length c) ∧ Sl w q bs c b' o'
/-- a slice of texts -/
def Strs (w : World) (v : Value) (ns : List ByteArray) : Prop := ∃ p cap b o, v = .slice p ns.length cap ∧ ns.length ≤ cap ∧ cap ≤ 9223372036854775807 ∧ (ns ≠ [] → p = some ⟨b, o, none⟩ ∧ b < w.heap.size) ∧ ∀ (i : Nat) s, ns[i]? = some s → w.cell? ⟨b, o + i, none⟩ = some (.string s)
/-- a slice of numbers -/
def Ints (w : World) (v : Value) (ks : List Int) : Prop := ∃ p cap b o, v = .slice p ks.length cap ∧ ks.length ≤ cap ∧ cap ≤ 9223372036854775807 ∧ (ks ≠ [] → p = some ⟨b, o, none⟩ ∧ b < w.heap.size) ∧ ∀ (i : Nat) k, ks[i]? = some k → w.cell? ⟨b, o + i, none⟩ = some (.int .i64 k)
theorem Bss.lt {w : World} {v : Value} {ps : List (List Nat)} (h : Bss w v ps) : ∀ bs ∈ ps, ∀ x ∈ bs, x < 256 := by
  obtain ⟨p, cap, b, o, _, _, _, _, hat⟩ := h
  intro bs hbs
  obtain ⟨i, hi, rfl⟩ := List.getElem_of_mem hbs
  obtain ⟨q, c, b', o', _, hs⟩ := hat i _ (List.getElem?_eq_getElem hi)
  exact hs.lt
end Go.Proofs.YtngehkmdanhgpaaGreat.Nd
