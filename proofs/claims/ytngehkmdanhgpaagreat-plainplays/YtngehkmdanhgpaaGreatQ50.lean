/-
  The reference's Do tells and leaves what the program's does. Files that come in. Operations that come in. The walk of PlainRefused.
-/
import Derived.Deep.RegionLaw
import Derived.Deep.DrawnRows
import Derived.Lib.AppendZeros
import Derived.Laws.CopyOwn
import Derived.Deep.CutRange
import Derived.Lib.SlBytesConst
import Derived.Laws.Tables
import Derived.ProofKit
import Derived.OpenShut
import Derived.ShutString
import Derived.ChangeOld
import Derived.Deep.DeepHandedRow
import Derived.Deep.Slices
import Derived.SizedLaws
import Derived.Lib.LaidTab
import Derived.Test.YtngehkmdanhgpaaGreatQ00
import Derived.Test.YtngehkmdanhgpaaGreatQ01
import Derived.Test.YtngehkmdanhgpaaGreatQ02
import Derived.Test.YtngehkmdanhgpaaGreatQ03
import Derived.Test.YtngehkmdanhgpaaGreatQ04
import Derived.Test.YtngehkmdanhgpaaGreatQ05
import Derived.Test.YtngehkmdanhgpaaGreatQ06
import Derived.Test.YtngehkmdanhgpaaGreatQ07
import Derived.Test.YtngehkmdanhgpaaGreatQ08
import Derived.Test.YtngehkmdanhgpaaGreatQ09
import Derived.Test.YtngehkmdanhgpaaGreatQ10
import Derived.Test.YtngehkmdanhgpaaGreatQ11
import Derived.Test.YtngehkmdanhgpaaGreatQ12
import Derived.Test.YtngehkmdanhgpaaGreatQ13
import Derived.Test.YtngehkmdanhgpaaGreatQ14
import Derived.Test.YtngehkmdanhgpaaGreatQ15
import Derived.Test.YtngehkmdanhgpaaGreatQ16
import Derived.Test.YtngehkmdanhgpaaGreatQ17
import Derived.Test.YtngehkmdanhgpaaGreatQ18
import Derived.Test.YtngehkmdanhgpaaGreatQ19
import Derived.Test.YtngehkmdanhgpaaGreatQ20
import Derived.Test.YtngehkmdanhgpaaGreatQ21
import Derived.Test.YtngehkmdanhgpaaGreatQ22
import Derived.Test.YtngehkmdanhgpaaGreatQ23
import Derived.Test.YtngehkmdanhgpaaGreatQ24
import Derived.Test.YtngehkmdanhgpaaGreatQ25
import Derived.Test.YtngehkmdanhgpaaGreatQ26
import Derived.Test.YtngehkmdanhgpaaGreatQ27
import Derived.Test.YtngehkmdanhgpaaGreatQ28
import Derived.Test.YtngehkmdanhgpaaGreatQ29
import Derived.Test.YtngehkmdanhgpaaGreatQ30
import Derived.Test.YtngehkmdanhgpaaGreatQ31
import Derived.Test.YtngehkmdanhgpaaGreatQ32
import Derived.Test.YtngehkmdanhgpaaGreatQ33
import Derived.Test.YtngehkmdanhgpaaGreatQ34
import Derived.Test.YtngehkmdanhgpaaGreatQ35
import Derived.Test.YtngehkmdanhgpaaGreatQ36
import Derived.Test.YtngehkmdanhgpaaGreatQ37
import Derived.Test.YtngehkmdanhgpaaGreatQ38
import Derived.Test.YtngehkmdanhgpaaGreatQ39
import Derived.Test.YtngehkmdanhgpaaGreatQ40
import Derived.Test.YtngehkmdanhgpaaGreatQ41
import Derived.Test.YtngehkmdanhgpaaGreatQ42
import Derived.Test.YtngehkmdanhgpaaGreatQ43
import Derived.Test.YtngehkmdanhgpaaGreatQ44
import Derived.Test.YtngehkmdanhgpaaGreatQ45
import Derived.Test.YtngehkmdanhgpaaGreatQ46
import Derived.Test.YtngehkmdanhgpaaGreatQ47
import Derived.Test.YtngehkmdanhgpaaGreatQ48
import Derived.Test.YtngehkmdanhgpaaGreatQ49
namespace Go.Proofs.YtngehkmdanhgpaaGreat.Pl
open Go.RowKit
open Vp (Str B bl Val cmpL parseS showS splitS withinS IsPath)
open Nd (checkS Opn)
theorem Ref.good {A es : List Ent} (h : Ref A es) (hg : ∀ e ∈ A, Gp e.names) : GoodL es := fun e he => ⟨hg e (h.mem.1 he).1, (h.mem.1 he).2⟩
theorem Ref.small {A es : List Ent} (h : Ref A es) (hS : Small A) : Small es := fun e he => hS e (h.mem.1 he).1
theorem Ref.len {A es : List Ent} (h : Ref A es) : es.length ≤ A.length := by rw [h.perm.length_eq]; exact List.length_filter_le _ _
/-- what the reference must tell -/
def Must (A : List Ent) (k a z : Int) (p t d : ByteArray) (R : RA) (es' : List Ent) : Prop := ∀ R0 A', Tells A k a z p t d R0 A' → R = R0 ∧ Ref A' es'
theorem must_add {A es' : List Ent} {k a z : Int} {p t d : ByteArray} {R : RA} (dd : Bool) (hk : (k = 1 ∧ dd = true) ∨ (k = 2 ∧ dd = false)) (hc : checkS ⟨k, p, t, d, a, z⟩ = 0) (h1 : R = RA.err (addE A (nmsOf p))) (h2 : Ref (addA A (nmsOf p) dd) es') : Must A k a z p t d R es' := by
  intro R0 A' hT
  rcases hk with ⟨rfl, rfl⟩ | ⟨rfl, rfl⟩
  · obtain ⟨rfl, rfl⟩ := tells_det hc (by decide) (by decide) hT
    exact ⟨h1, h2⟩
  · obtain ⟨rfl, rfl⟩ := tells_det hc (by decide) (by decide) hT
    exact ⟨h1, h2⟩
theorem must_wr {A es : List Ent} {a z : Nat} {p t d : ByteArray} (hR : Ref A es) (hT : Tree A) (hA : (A.map (·.names)).Nodup) (hc : checkS ⟨3, p, t, d, a, z⟩ = 0) (h0 : wrC es (nmsOf p) 3 a d ≠ 0) : Must A 3 a z p t d (RA.err (wrC es (nmsOf p) 3 a d)) es := by
  intro R0 A' hTe
  obtain ⟨rfl, rfl⟩ := tells_det hc (by decide) (by decide) hTe
  have e1 : wrE A (nmsOf p) a d = wrC es (nmsOf p) 3 a d := (wr_ref hR hT hA _ _ _).symm
  have e2 : wrS A (nmsOf p) a d = 0 := by unfold wrS; rw [if_neg (by rw [e1]; exact h0)]
  have e3 : wrA A (nmsOf p) a d = A := by unfold wrA; rw [if_neg (by rw [e1]; exact h0)]
  show RA.err _ = (⟨wrE A (nmsOf p) a d, false, wrS A (nmsOf p) a d, ⟨#[]⟩, []⟩ : RA) ∧ Ref (wrA A (nmsOf p) a d) es
  rw [e1, e2, e3]
  exact ⟨rfl, hR⟩
theorem must_tr {A es : List Ent} {a z : Nat} {p t d : ByteArray} (hR : Ref A es) (hT : Tree A) (hA : (A.map (·.names)).Nodup) (hc : checkS ⟨4, p, t, d, a, z⟩ = 0) (h0 : wrC es (nmsOf p) 4 a d ≠ 0) : Must A 4 a z p t d (RA.err (wrC es (nmsOf p) 4 a d)) es := by
  intro R0 A' hTe
  obtain ⟨rfl, rfl⟩ := tells_det hc (by decide) (by decide) hTe
  have e1 : trE A (nmsOf p) = wrC es (nmsOf p) 4 a d := (tr_ref hR hT hA _ _ _).symm
  have e2 : trS A (nmsOf p) z = 0 := by unfold trS; rw [if_neg (by rw [e1]; exact h0)]
  have e3 : trA A (nmsOf p) z = A := by unfold trA; rw [if_neg (by rw [e1]; exact h0)]
  show RA.err _ = (⟨trE A (nmsOf p), false, trS A (nmsOf p) z, ⟨#[]⟩, []⟩ : RA) ∧ Ref (trA A (nmsOf p) z) es
  rw [e1, e2, e3]
  exact ⟨rfl, hR⟩
theorem file_at {A : List Ent} {xs : List Str} {x : Ent} (hf : findA A xs = (x, 0)) (h : (findFA A xs).2 = 0) : x.dir = false ∧ findFA A xs = (x, 0) := by
  unfold findFA at h ⊢
  rw [hf] at h ⊢
  cases hd : x.dir with
  | true => rw [hd] at h; simp at h
  | false => simp
theorem must_wrote {A es : List Ent} {a z i : Nat} {p t d : ByteArray} {x : Ent} (hR : Ref A es) (hT : Tree A) (hA : (A.map (·.names)).Nodup) (hc : checkS ⟨3, p, t, d, a, z⟩ = 0) (h0 : wrC es (nmsOf p) 3 a d = 0) (hi : es[i]? = some x) (hx : x.names = nmsOf p) : Must A 3 a z p t d ⟨0, false, ((wrQD es (nmsOf p) 3 a z d).size : Int), ⟨#[]⟩, []⟩ (es.set i ⟨nmsOf p, x.dir, wrQD es (nmsOf p) 3 a z d⟩) := by
  intro R0 A' hTe
  obtain ⟨rfl, rfl⟩ := tells_det hc (by decide) (by decide) hTe
  have hne : nmsOf p ≠ [] := by rw [← hx]; exact (hR.mem.1 (List.mem_of_getElem? hi)).2
  have hf := wr_some hR hT hA hne hi hx
  have e1 : wrE A (nmsOf p) a d = 0 := by rw [← wr_ref hR hT hA]; exact h0
  have e1' := e1
  unfold wrE at e1'
  split at e1'
  · rename_i h9; exact absurd e1' h9
  rename_i h8
  obtain ⟨hd, hff⟩ := file_at hf (Classical.byContradiction h8)
  have h7 : ¬ (findFA A (nmsOf p)).1.data.size < a := by
    intro hlt
    unfold wrE at e1
    rw [if_neg h8, if_pos hlt] at e1
    cases e1
  rw [hff] at h7
  simp only at h7
  have hQ : wrQD es (nmsOf p) 3 a z d = wrD (findFA A (nmsOf p)).1.data d a := by
    unfold wrQD
    rw [if_pos rfl, look_ref hR hT hA hne, hf, hff]
    exact wr_cut _ _ _ (Nat.le_of_not_lt h7)
  have e2 : wrS A (nmsOf p) a d = ((wrQD es (nmsOf p) 3 a z d).size : Int) := by unfold wrS; rw [if_pos e1, hQ]
  have e3 : wrA A (nmsOf p) a d = putA A ⟨nmsOf p, false, wrQD es (nmsOf p) 3 a z d⟩ := by unfold wrA; rw [if_pos e1, hQ]
  show _ = (⟨wrE A (nmsOf p) a d, false, wrS A (nmsOf p) a d, ⟨#[]⟩, []⟩ : RA) ∧ Ref (wrA A (nmsOf p) a d) _
  rw [e1, e2, e3, hd]
  exact ⟨rfl, ref_set hR hA hi hx⟩
theorem must_cutd {A es : List Ent} {a z i : Nat} {p t d : ByteArray} {x : Ent} (hR : Ref A es) (hT : Tree A) (hA : (A.map (·.names)).Nodup) (hc : checkS ⟨4, p, t, d, a, z⟩ = 0) (h0 : wrC es (nmsOf p) 4 a d = 0) (hi : es[i]? = some x) (hx : x.names = nmsOf p) : Must A 4 a z p t d ⟨0, false, ((wrQD es (nmsOf p) 4 a z d).size : Int), ⟨#[]⟩, []⟩ (es.set i ⟨nmsOf p, x.dir, wrQD es (nmsOf p) 4 a z d⟩) := by
  intro R0 A' hTe
  obtain ⟨rfl, rfl⟩ := tells_det hc (by decide) (by decide) hTe
  have hne : nmsOf p ≠ [] := by rw [← hx]; exact (hR.mem.1 (List.mem_of_getElem? hi)).2
  have hf := wr_some hR hT hA hne hi hx
  have e1 : trE A (nmsOf p) = 0 := by rw [← tr_ref hR hT hA]; exact h0
  obtain ⟨hd, hff⟩ := file_at hf e1
  have hQ : wrQD es (nmsOf p) 4 a z d = trD (findFA A (nmsOf p)).1.data z := by
    unfold wrQD
    rw [if_neg (by decide), look_ref hR hT hA hne, hf, hff]
    exact tr_cut _ _
  have e2 : trS A (nmsOf p) z = ((wrQD es (nmsOf p) 4 a z d).size : Int) := by unfold trS; rw [if_pos e1, hQ, trD_size]
  have e3 : trA A (nmsOf p) z = putA A ⟨nmsOf p, false, wrQD es (nmsOf p) 4 a z d⟩ := by unfold trA; rw [if_pos e1, hQ]
  show _ = (⟨trE A (nmsOf p), false, trS A (nmsOf p) z, ⟨#[]⟩, []⟩ : RA) ∧ Ref (trA A (nmsOf p) z) _
  rw [e1, e2, e3, hd]
  exact ⟨rfl, ref_set hR hA hi hx⟩
theorem must_ul {A es : List Ent} {a z : Int} {p t d : ByteArray} (hR : Ref A es) (hT : Tree A) (hA : (A.map (·.names)).Nodup) (hc : checkS ⟨5, p, t, d, a, z⟩ = 0) : Must A 5 a z p t d (RA.err (rmR es (nmsOf p) false)) (if rmR es (nmsOf p) false = 0 then es.filter (outE (nmsOf p)) else es) := by
  intro R0 A' hTe
  obtain ⟨rfl, rfl⟩ := tells_det hc (by decide) (by decide) hTe
  rw [ul_ref hR hT hA]
  refine ⟨rfl, ?_⟩
  show Ref (ulA A (nmsOf p)) _
  unfold ulA
  split
  · rename_i h0
    obtain ⟨f, h1, h2⟩ := findFA_at h0
    refine ref_cut hR (fun s hs => ?_) hA
    exact none_below (file_below hT hA (hT.find h1) h2) s hs
  · exact hR
theorem must_rm {A es : List Ent} {a z : Int} {p t d : ByteArray} (hR : Ref A es) (hT : Tree A) (hA : (A.map (·.names)).Nodup) (hc : checkS ⟨6, p, t, d, a, z⟩ = 0) : Must A 6 a z p t d (RA.err (rmR es (nmsOf p) true)) (if rmR es (nmsOf p) true = 0 then es.filter (outE (nmsOf p)) else es) := by
  intro R0 A' hTe
  obtain ⟨rfl, rfl⟩ := tells_det hc (by decide) (by decide) hTe
  rw [rm_ref hR hT hA]
  refine ⟨rfl, ?_⟩
  show Ref (rmA A (nmsOf p)) _
  unfold rmA
  split
  · rename_i h0
    unfold rmE at h0
    split at h0
    · cases h0
    split at h0
    · rename_i h9; exact absurd h0 h9
    split at h0
    · cases h0
    rename_i h1
    exact ref_cut hR (none_below h1) hA
  · exact hR
theorem must_rn {A es : List Ent} {a z : Int} {p t d : ByteArray} (hR : Ref A es) (hT : Tree A) (hA : (A.map (·.names)).Nodup) (hc : checkS ⟨7, p, t, d, a, z⟩ = 0) : Must A 7 a z p t d (RA.err (rnR es (nmsOf p) (nmsOf t))) (if rnR es (nmsOf p) (nmsOf t) = 0 then (if nmsOf p = nmsOf t then es else rnL es (nmsOf p) (nmsOf t) (lookR es (nmsOf p)).1) else es) := by
  intro R0 A' hTe
  obtain ⟨rfl, hm⟩ := tells_7 hc hTe
  rw [rn_ref hR hT hA (gp_nms t)]
  refine ⟨rfl, ?_⟩
  split
  · rename_i h0
    split
    · rename_i h1
      rw [hm.1 (.inr h1)]
      exact hR
    · rename_i h1
      obtain ⟨hp0, -, ⟨x, hx⟩, -⟩ := rn_ok h0
      rw [look_ref hR hT hA hp0, hT.find hx]
      exact ref_moved hR hT hA h0 h1 hx hm
  · rename_i h0
    rw [hm.1 (.inl h0)]
    exact hR
theorem must_ask {A es : List Ent} {k : Int} {a z : Nat} {p t d : ByteArray} (hR : Ref A es) (hT : Tree A) (hA : (A.map (·.names)).Nodup) (hk : k = 8 ∨ k = 9 ∨ k = 10) (hc : checkS ⟨k, p, t, d, a, z⟩ = 0) : Must A k a z p t d (askR es (nmsOf p) k a z) es := by
  intro R0 A' hTe
  rcases hk with rfl | rfl | rfl
  · obtain ⟨rfl, rfl⟩ := tells_det hc (by decide) (by decide) hTe
    rw [read_ref hR hT hA]
    exact ⟨rfl, hR⟩
  · obtain ⟨h1, rfl⟩ := tells_9 hc hTe
    exact ⟨listed_one hA (list_ref hR hT hA _ _ _) h1, hR⟩
  · obtain ⟨rfl, rfl⟩ := tells_det hc (by decide) (by decide) hTe
    rw [stat_ref hR hT hA]
    exact ⟨rfl, hR⟩
theorem RmP.rdo {w w' : World} {r : Nat} {es es1 : List Ent} {c : Int} {e : Ending} {P : RA → List Ent → Prop} (h : RmP w r es es1 c e w') (hP : P (RA.err c) (if c = 0 then es1 else es)) : RDo w r P e w' := by
  obtain ⟨rfl, h2, h3⟩ := h
  exact ⟨c, false, 0, ⟨#[]⟩, [], _, _, hP, rfl, nm_nil _, h2, h3⟩
theorem AskP.rdo {w w' : World} {r : Nat} {es : List Ent} {R : RA} {e : Ending} {P : RA → List Ent → Prop} (h : AskP w R e w') (hf : RF w r es) (hP : P R es) : RDo w r P e w' := by
  obtain ⟨v, rfl, h2, h3⟩ := h
  exact ⟨R.code, R.dir, R.size, R.data, R.names, es, v, hP, rfl, h2, hf.below h3, below_but r h3⟩
theorem rdo_ref {W : World} {r : Nat} {A es : List Ent} (h : RF W r es) (hR : Ref A es) (hT : Tree A) (hA : (A.map (·.names)).Nodup) (hAg : ∀ e ∈ A, Gp e.names) (hS : Small A) (hn : A.length ≤ 40000) (k a z : Int) (p t d : ByteArray) (hp : p.size ≤ 9223372036854775807) (ht : t.size ≤ 9223372036854775807) :
    Calls Tryz.prog 15 #[.pointer (some ⟨r, 0, none⟩), .agg #[.int .i64 k, .string p, .string t, .string d, .int .i64 a, .int .i64 z]] W fun e W' => RDo W r (Must A k a z p t d) e W' := by
  have hg := hR.good hAg
  have hnd := hR.nodup hA
  have hes := hR.small hS
  have hle : es.length ≤ 40000 := Nat.le_trans hR.len hn
  by_cases hc : checkS ⟨k, p, t, d, a, z⟩ = 0
  rotate_left
  · exact rdo_err h k a z p t d hp ht hc _ (fun R0 A' hTe => by
      obtain ⟨rfl, rfl⟩ := tells_err hc hTe
      exact ⟨rfl, hR⟩)
  obtain ⟨c1, c2, c3, c4, c5, c6⟩ := check_ok hc
  have hk : k = 1 ∨ k = 2 ∨ k = 3 ∨ k = 4 ∨ k = 5 ∨ k = 6 ∨ k = 7 ∨ k = 8 ∨ k = 9 ∨ k = 10 ∨ k = 11 := by omega
  rcases hk with rfl | rfl | rfl | rfl | rfl | rfl | rfl | rfl | rfl | rfl | rfl
  · by_cases d1 : nmsOf p = []
    · exact rdo_1a h a z p t d hp ht hg hnd hle hc _ d1 (must_add true (.inl ⟨rfl, rfl⟩) hc (by rw [d1, add_nil]) (by rw [addA_no (c := 5) (by rw [d1]; exact add_nil) (by decide)]; exact hR))
    by_cases d2 : dirR es (nmsOf p) = 0
    rotate_left
    · exact rdo_1b h a z p t d hp ht hg hnd hle hc _ d1 _ rfl d2 (must_add true (.inl ⟨rfl, rfl⟩) hc (by rw [add_dir hR hT hA d1 rfl d2]) (by rw [addA_no (add_dir hR hT hA d1 rfl d2) d2]; exact hR))
    have hE := add_at hR hT hA d1 d2
    cases hO : entAt es (nmsOf p) with
    | some O =>
      rw [hO] at hE
      have hE5 : addE A (nmsOf p) = 5 := hE
      exact rdo_1c h a z p t d hp ht hg hnd hle hc _ d1 d2 O hO (must_add true (.inl ⟨rfl, rfl⟩) hc (by rw [hE5]) (by rw [addA_no hE5 (by decide)]; exact hR))
    | none =>
      rw [hO] at hE
      have hE0 : addE A (nmsOf p) = 0 := hE
      exact rdo_1d h a z p t d hp ht hg hnd hle hc _ d1 d2 hO (must_add true (.inl ⟨rfl, rfl⟩) hc (by rw [hE0]) (ref_add hR _ _ hE0))
  · by_cases d1 : nmsOf p = []
    · exact rdo_2a h a z p t d hp ht hg hnd hle hc _ d1 (must_add false (.inr ⟨rfl, rfl⟩) hc (by rw [d1, add_nil]) (by rw [addA_no (c := 5) (by rw [d1]; exact add_nil) (by decide)]; exact hR))
    by_cases d2 : dirR es (nmsOf p) = 0
    rotate_left
    · exact rdo_2b h a z p t d hp ht hg hnd hle hc _ d1 _ rfl d2 (must_add false (.inr ⟨rfl, rfl⟩) hc (by rw [add_dir hR hT hA d1 rfl d2]) (by rw [addA_no (add_dir hR hT hA d1 rfl d2) d2]; exact hR))
    have hE := add_at hR hT hA d1 d2
    cases hO : entAt es (nmsOf p) with
    | some O =>
      rw [hO] at hE
      have hE5 : addE A (nmsOf p) = 5 := hE
      exact rdo_2c h a z p t d hp ht hg hnd hle hc _ d1 d2 O hO (must_add false (.inr ⟨rfl, rfl⟩) hc (by rw [hE5]) (by rw [addA_no hE5 (by decide)]; exact hR))
    | none =>
      rw [hO] at hE
      have hE0 : addE A (nmsOf p) = 0 := hE
      exact rdo_2d h a z p t d hp ht hg hnd hle hc _ d1 d2 hO (must_add false (.inr ⟨rfl, rfl⟩) hc (by rw [hE0]) (ref_add hR _ _ hE0))
  · obtain ⟨a', rfl⟩ := Int.eq_ofNat_of_zero_le (show 0 ≤ a by omega)
    obtain ⟨z', rfl⟩ := Int.eq_ofNat_of_zero_le (show 0 ≤ z by omega)
    refine rdo_3 h _ _ p t d hp ht hc _ (fun w nv hb hv => ?_)
    refine (rwrite_any (h.below hb) hg hnd (by omega) hes hv (gp_nms p) 3 (.inl rfl) a' z' (by omega) (by omega) p t d c4).mono ?_
    rintro e w' (⟨h0, rfl, h2, h3⟩ | ⟨h0, rfl, ⟨i, x, hi, hx, h2⟩, h3⟩)
    · exact ⟨_, false, 0, ⟨#[]⟩, [], es, _, must_wr hR hT hA hc h0, rfl, nm_nil _, h2, h3⟩
    · exact ⟨0, false, _, ⟨#[]⟩, [], _, _, must_wrote hR hT hA hc h0 hi hx, rfl, nm_nil _, h2, h3⟩
  · obtain ⟨a', rfl⟩ := Int.eq_ofNat_of_zero_le (show 0 ≤ a by omega)
    obtain ⟨z', rfl⟩ := Int.eq_ofNat_of_zero_le (show 0 ≤ z by omega)
    refine rdo_4 h _ _ p t d hp ht hc _ (fun w nv hb hv => ?_)
    refine (rwrite_any (h.below hb) hg hnd (by omega) hes hv (gp_nms p) 4 (.inr rfl) a' z' (by omega) (by omega) p t d c4).mono ?_
    rintro e w' (⟨h0, rfl, h2, h3⟩ | ⟨h0, rfl, ⟨i, x, hi, hx, h2⟩, h3⟩)
    · exact ⟨_, false, 0, ⟨#[]⟩, [], es, _, must_tr hR hT hA hc h0, rfl, nm_nil _, h2, h3⟩
    · exact ⟨0, false, _, ⟨#[]⟩, [], _, _, must_cutd hR hT hA hc h0 hi hx, rfl, nm_nil _, h2, h3⟩
  · refine rdo_5 h _ _ p t d hp ht hc _ (fun w nv hb hv => ?_)
    have h9 := rremove_any (h.below hb) hg hnd (by omega) hv (gp_nms p) false a z p t d
    simp only [Bool.false_eq_true, if_false] at h9
    exact h9.mono fun _ _ hh => hh.rdo (must_ul hR hT hA hc)
  · refine rdo_6 h _ _ p t d hp ht hc _ (fun w nv hb hv => ?_)
    have h9 := rremove_any (h.below hb) hg hnd (by omega) hv (gp_nms p) true a z p t d
    simp only [if_true] at h9
    exact h9.mono fun _ _ hh => hh.rdo (must_rm hR hT hA hc)
  · refine rdo_7 h _ _ p t d hp ht hc _ (fun w nv tv hb hv hv2 => ?_)
    exact (rrename_any (h.below hb) hg hnd hle hv hv2 (gp_nms p) (gp_nms t) 7 a z p t d).mono fun _ _ hh => hh.rdo (must_rn hR hT hA hc)
  · obtain ⟨a', rfl⟩ := Int.eq_ofNat_of_zero_le (show 0 ≤ a by omega)
    obtain ⟨z', rfl⟩ := Int.eq_ofNat_of_zero_le (show 0 ≤ z by omega)
    refine rdo_8 h _ _ p t d hp ht hc _ (fun w nv hb hv => ?_)
    exact (rask_any (h.below hb) hg hnd (by omega) hes hv (gp_nms p) 8 (.inl rfl) a' z' (by omega) (by omega) p t d).mono fun _ _ hh => hh.rdo (h.below hb) (must_ask hR hT hA (.inl rfl) hc)
  · obtain ⟨a', rfl⟩ := Int.eq_ofNat_of_zero_le (show 0 ≤ a by omega)
    obtain ⟨z', rfl⟩ := Int.eq_ofNat_of_zero_le (show 0 ≤ z by omega)
    refine rdo_9 h _ _ p t d hp ht hc _ (fun w nv hb hv => ?_)
    exact (rask_any (h.below hb) hg hnd (by omega) hes hv (gp_nms p) 9 (.inr (.inl rfl)) a' z' (by omega) (by omega) p t d).mono fun _ _ hh => hh.rdo (h.below hb) (must_ask hR hT hA (.inr (.inl rfl)) hc)
  · obtain ⟨a', rfl⟩ := Int.eq_ofNat_of_zero_le (show 0 ≤ a by omega)
    obtain ⟨z', rfl⟩ := Int.eq_ofNat_of_zero_le (show 0 ≤ z by omega)
    refine rdo_10 h _ _ p t d hp ht hc _ (fun w nv hb hv => ?_)
    exact (rask_any (h.below hb) hg hnd (by omega) hes hv (gp_nms p) 10 (.inr (.inr rfl)) a' z' (by omega) (by omega) p t d).mono fun _ _ hh => hh.rdo (h.below hb) (must_ask hR hT hA (.inr (.inr rfl)) hc)
  · exact rdo_11 h _ _ p t d hp ht hc _ (fun R0 A' hTe => by
      obtain ⟨rfl, rfl⟩ := tells_det hc (by decide) (by decide) hTe
      exact ⟨rfl, hR⟩)
end Go.Proofs.YtngehkmdanhgpaaGreat.Pl
namespace Go.Proofs.YtngehkmdanhgpaaGreat.Pl
open Go.ChangeShapes Go.WideShapes Go.ChangeAt Go.RowKit Go.Deep
open Rf (Fil Fls fcells)
theorem flat_of {W : World} {b o : Nat} {fs : List Fil} (h : ∀ (i : Nat) f, fs[i]? = some f → W.rangeAt b (o + i * 3) f.cells) : ∀ j u, (fcells fs)[j]? = some u → W.cell? ⟨b, o + j, none⟩ = some u := fun j u hj => by
  have hl : j < fs.length * 3 := by rw [← Rf.fcells_len]; exact (List.getElem?_eq_some_iff.1 hj).1
  have hi : j / 3 < fs.length := by omega
  have hf := List.getElem?_eq_getElem hi
  have hr : j % 3 < (fs[j / 3]).cells.length := by show _ < 3; omega
  have h2 := Rf.fcells_at hf (j % 3) _ (List.getElem?_eq_getElem hr)
  have e : j / 3 * 3 + j % 3 = j := by omega
  rw [e, hj] at h2
  have h3 := h (j / 3) _ hf (j % 3) u (by rw [List.getElem?_eq_getElem hr, ← Option.some.inj h2])
  rwa [Nat.add_assoc, e] at h3
theorem cells9 : Tryz.prog.cellsOf 9 = 1 := by kernel_rfl
theorem cells4 : Tryz.prog.cellsOf 4 = 1 := by kernel_rfl
theorem cells48 : Tryz.prog.cellsOf 48 = 3 := by kernel_rfl
end Go.Proofs.YtngehkmdanhgpaaGreat.Pl
namespace Go.Proofs.YtngehkmdanhgpaaGreat.Pl
open Go.ChangeShapes Go.WideShapes Go.ChangeAt Go.RowKit Go.Deep
open Nd (Opn)
theorem cells3 : Tryz.prog.cellsOf 3 = 1 := by kernel_rfl
theorem cells40 : Tryz.prog.cellsOf 40 = 6 := by kernel_rfl
/-- its texts are no longer than texts are -/
def okO (o : Opn) : Prop := o.path.size ≤ 9223372036854775807 ∧ o.dest.size ≤ 9223372036854775807
set_option maxRecDepth 100000 in
theorem op_at {H : Type} {enc : TypeId × Value → H} {W : World} {fuel : Nat} {cs : List Value} {d : DataW H} {p : List MemPlace} (hf : DataW.trod enc Tryz.prog W 0 (fun _ => true) true fuel 40 cs = some (d, p)) :
    ∃ o : Opn, cs = o.cells ∧ okO o := by
  obtain ⟨xs, n, _, hxy, hl, hxl, hg⟩ := DataW.trod_struct Tryz.underlying40 hf
  have hxl' : xs.length = 6 := hxl
  rw [cells40] at hl
  match xs, hxl', cs, hl with
  | [y0, y1, y2, y3, y4, y5], _, [v0, v1, v2, v3, v4, v5], _ =>
    have g0 := hg 0 _ rfl
    have g1 := hg 1 _ rfl
    have g2 := hg 2 _ rfl
    have g3 := hg 3 _ rfl
    have g4 := hg 4 _ rfl
    have g5 := hg 5 _ rfl
    obtain ⟨K, e0, _, _⟩ := DataW.trod_int Tryz.underlying3 g0
    obtain ⟨P, e1, _, hP⟩ := DataW.trod_string Tryz.underlying9 g1
    obtain ⟨T, e2, _, hT⟩ := DataW.trod_string Tryz.underlying9 g2
    obtain ⟨D, e3, _, _⟩ := DataW.trod_string Tryz.underlying9 g3
    obtain ⟨A, e4, _, _⟩ := DataW.trod_int Tryz.underlying3 g4
    obtain ⟨Z, e5, _, _⟩ := DataW.trod_int Tryz.underlying3 g5
    simp [cells3, cells9] at e0 e1 e2 e3 e4 e5
    subst e0 e1 e2 e3 e4 e5
    unfold maxLen at hP hT
    exact ⟨⟨K, P, T, D, A, Z⟩, rfl, by simp only; omega, by simp only; omega⟩
theorem ops_in {H : Type} {enc : TypeId × Value → H} {W : World} {a : Option Addr} {len cap : Nat} {d : DataW H} {p : List MemPlace} (h : DataW.Trod enc Tryz.prog W 0 (fun _ => true) true 23 (.slice a len cap) d p) :
    ∃ os : List Opn, Ops W (.slice a len cap) os ∧ ∀ x ∈ os, okO x := by
  obtain ⟨fuel, hf⟩ := h
  rcases open_slice Tryz.underlying23 hf with ⟨hcs, hx⟩ | ⟨x, l, c, m, n, D, Pl, hcs, _, hl, hm, hmm, hx, hr⟩
  · simp [Value.cells] at hcs
    obtain ⟨rfl, rfl, rfl⟩ := hcs
    exact ⟨[], ⟨none, 0, 0, 0, rfl, by simp, by omega, fun h => absurd rfl h, fun i f hi => by simp at hi⟩, fun f hf => by cases hf⟩
  · simp [Value.cells] at hcs
    obtain ⟨rfl, rfl, rfl⟩ := hcs
    simp only [if_true] at hmm
    subst hmm
    rw [cells40] at hr
    have each : ∀ r, r < len → ∃ f : Opn, okO f ∧ ∀ (j : Nat) u, f.cells[j]? = some u → W.cell? ((x.add (r * 6)).add j) = some u := by
      intro r hlt
      obtain ⟨cs', h1, h2⟩ := hr r (by omega)
      obtain ⟨_, hlen, hcell⟩ := World.cells?_some h1
      obtain ⟨o, rfl, ho⟩ := op_at h2
      refine ⟨o, ho, fun j u hj => ?_⟩
      have hj6 : j < 6 := by have := (List.getElem?_eq_some_iff.1 hj).1; exact this
      have := hcell j hj6
      rw [this]
      exact hj
    haveI : Inhabited Opn := ⟨⟨0, ⟨#[]⟩, ⟨#[]⟩, ⟨#[]⟩, 0, 0⟩⟩
    obtain ⟨y, hy⟩ := choose_lt each
    have hcap : m ≤ 9223372036854775807 := by unfold maxLen at hm; omega
    obtain ⟨b, o, hpx⟩ : ∃ b o, 0 < len → x = ⟨b, o, none⟩ ∧ b < W.heap.size := by
      by_cases h0 : 0 < len
      · have hc := (hy 0 h0).2 0 _ rfl
        obtain ⟨b', o', sp⟩ := x
        have hspot : sp = none := by simpa [Addr.add] using World.cell?_spot hc
        subst hspot
        rw [Addr.add_mid, Addr.add_mid] at hc
        exact ⟨b', o', fun _ => ⟨rfl, World.block_lt_of_cell? W _ hc⟩⟩
      · exact ⟨0, 0, fun h => absurd h h0⟩
    refine ⟨(List.range len).map y, ⟨some x, m, b, o, by simp, by simpa using hl, hcap, fun h => ?_, fun j f hj => ?_⟩, fun f hf => ?_⟩
    · have h0 : 0 < len := by
        rcases Nat.eq_zero_or_pos len with h1 | h1
        · subst h1; exact absurd rfl h
        · exact h1
      exact ⟨by rw [(hpx h0).1], (hpx h0).2⟩
    · have hi : j < len := by have := (List.getElem?_eq_some_iff.1 hj).1; simpa using this
      simp [hi] at hj
      subst hj
      intro i u hu
      have := (hy j hi).2 i u hu
      rw [(hpx (by omega)).1, Addr.add_mid, Addr.add_mid] at this
      exact this
    · obtain ⟨r, hr2, rfl⟩ := List.mem_map.1 hf
      exact (hy r (by simpa using hr2)).1
end Go.Proofs.YtngehkmdanhgpaaGreat.Pl
namespace Go.Proofs.YtngehkmdanhgpaaGreat.Pl
open Go.RowKit
open Vp (Str B bl Val cmpL parseS showS splitS withinS IsPath)
open Nd (take_put Row wp_world post_Row post_Row2 grownBy_setCell below_of_grown Opn checkS)
open Rf (Fil Fls fcells)
/-- within a round: the file system, its clone, the list that was, the result -/
structure PQ (w : World) (g m g2 m2 : Nat) (C D : List Ent) (vl : Value) (l : List Fil) (bx : Nat) (R : RA) (v6 : Value) (W : World) : Prop where
  f : FsA W g m C
  c : FsA W g2 m2 D
  was : Fls W vl l
  row : Row W bx [.int .i64 R.code, .bool R.dir, .int .i64 R.size, .string R.data, v6] 37
  nm : Rf.Nm W v6 R.names
  bel : Below w.heap.size w W
  ne : m ≠ m2
theorem PQ.below {w : World} {g m g2 m2 : Nat} {C D : List Ent} {vl : Value} {l : List Fil} {bx : Nat} {R : RA} {v6 : Value} {W W' : World} (h : PQ w g m g2 m2 C D vl l bx R v6 W) (k : Below W.heap.size W W') : PQ w g m g2 m2 C D vl l bx R v6 W' :=
  ⟨h.f.below k, h.c.below k, h.was.below k, h.row.below k h.row.lt, h.nm.below k, h.bel.trans (k.mono h.bel.size), h.ne⟩
theorem FsA.map_at {w : World} {g m : Nat} {A : List Ent} (h : FsA w g m A) : ∃ es clock, w.heap[m]? = some (.map es clock) := by
  obtain ⟨L, h1, _⟩ := h
  obtain ⟨es, clock, hb, _⟩ := h1.map.ex
  exact ⟨es, clock, hb⟩
theorem FsA.apart {w W : World} {g m g2 m2 : Nat} {A D : List Ent} (h : FsA w g m A) (k : FsA w g2 m2 D) (hn : m ≠ m2) (hg : w.grownBy W (some m2)) : FsA W g m A := by
  obtain ⟨es, clock, hb⟩ := k.map_at
  obtain ⟨L, h1, h2⟩ := h
  refine ⟨L, h1.grown hg (fun j e => ?_), h2⟩
  obtain rfl := Option.some.inj e
  refine ⟨fun e => hn e.symm, fun e => ?_, fun cs fr e => ?_⟩
  · have hr := h1.row
    unfold Row at hr
    rw [e, hr] at hb
    cases hb
  · rw [hb] at e
    cases e
theorem nm_mapA {w W : World} {g m : Nat} {A : List Ent} (h : FsA w g m A) (hg : w.grownBy W (some m)) {v : Value} {xs : List Str} (hn : Rf.Nm w v xs) : Rf.Nm W v xs := by
  obtain ⟨es, clock, hb⟩ := h.map_at
  exact nm_kept hn (fun b cs fr e => by
    rw [hg.block b (Array.getElem?_eq_some_iff.1 e).1 (fun e2 => by obtain rfl := Option.some.inj e2; rw [hb] at e; cases e)]
    exact e)
theorem PQ.grown {w : World} {g m g2 m2 : Nat} {C D D' : List Ent} {vl : Value} {l : List Fil} {bx : Nat} {R : RA} {v6 : Value} {W W' : World} (h : PQ w g m g2 m2 C D vl l bx R v6 W) (hF : FsA W' g2 m2 D') (hg : W.grownBy W' (some m2)) (hm : w.heap.size ≤ m2) : PQ w g m g2 m2 C D' vl l bx R v6 W' :=
  ⟨h.f.apart h.c h.ne hg, hF, fls_map h.c hg h.was, row_stays h.row h.c hg, nm_mapA h.c hg h.nm, h.bel.grown hg h.bel.size (fun j e => by obtain rfl := Option.some.inj e; exact hm), h.ne⟩
end Go.Proofs.YtngehkmdanhgpaaGreat.Pl
