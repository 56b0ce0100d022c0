/-
  The walk of rename. Plain facts: what is at a path behind moves; lists that hold the same.
-/
import Derived.Deep.RegionLaw
import Derived.Deep.DrawnRows
import Derived.Laws.Tables
import Derived.Laws.CopyOwn
import Derived.Lib.SlBytesConst
import Derived.Lib.AppendZeros
import Derived.Test.YtngehkmdanhgpaaGreatR00
import Derived.Test.YtngehkmdanhgpaaGreatR01
import Derived.Test.YtngehkmdanhgpaaGreatR02
import Derived.Test.YtngehkmdanhgpaaGreatR03
import Derived.Test.YtngehkmdanhgpaaGreatR04
import Derived.Test.YtngehkmdanhgpaaGreatR05
import Derived.Test.YtngehkmdanhgpaaGreatR06
import Derived.Test.YtngehkmdanhgpaaGreatR07
import Derived.Test.YtngehkmdanhgpaaGreatR08
import Derived.Test.YtngehkmdanhgpaaGreatR09
import Derived.Test.YtngehkmdanhgpaaGreatR10
import Derived.Test.YtngehkmdanhgpaaGreatR11
import Derived.Test.YtngehkmdanhgpaaGreatR12
import Derived.Test.YtngehkmdanhgpaaGreatR13
import Derived.Test.YtngehkmdanhgpaaGreatR14
import Derived.Test.YtngehkmdanhgpaaGreatR15
import Derived.Test.YtngehkmdanhgpaaGreatR16
import Derived.Test.YtngehkmdanhgpaaGreatR17
import Derived.Test.YtngehkmdanhgpaaGreatR18
import Derived.Test.YtngehkmdanhgpaaGreatR19
import Derived.Test.YtngehkmdanhgpaaGreatR20
import Derived.Test.YtngehkmdanhgpaaGreatR21
import Derived.Test.YtngehkmdanhgpaaGreatR22
import Derived.Test.YtngehkmdanhgpaaGreatR23
import Derived.Test.YtngehkmdanhgpaaGreatR24
import Derived.Test.YtngehkmdanhgpaaGreatR25
import Derived.Test.YtngehkmdanhgpaaGreatR26
import Derived.Test.YtngehkmdanhgpaaGreatR27
import Derived.Test.YtngehkmdanhgpaaGreatR28
import Derived.Test.YtngehkmdanhgpaaGreatR29
import Derived.Test.YtngehkmdanhgpaaGreatR30
import Derived.Test.YtngehkmdanhgpaaGreatR31
namespace Go.Proofs.YtngehkmdanhgpaaGreat.Pl
open Go.RowKit
open Vp (Str B bl Val cmpL parseS showS splitS withinS IsPath sv)
open Nd (Row wp_world post_Row post_Row2 grownBy_setCell below_of_grown)
def rnE (A : List Ent) (p q : List Str) : Int := if endsE A p q ≠ 0 then endsE A p q else if p = q then 0 else mvE A p q
/-- what is there behind a rename -/
def Moved (A : List Ent) (p q : List Str) (A' : List Ent) : Prop := (rnE A p q ≠ 0 ∨ p = q → A' = A) ∧ (rnE A p q = 0 ∧ p ≠ q → ∃ x es, entAt A p = some x ∧ es.Perm (A.filter (belowE p)) ∧ A' = movesA p q (es ++ [x]) A)
theorem ends_ok {L : List Spot} {p q : List Str} (h : endsE (L.map Spot.ent) p q = 0) : p ≠ [] ∧ q ≠ [] ∧ ∃ x, spotAt L p = some x := by
  unfold endsE at h
  split at h
  · exact absurd h (by decide)
  · rename_i hne
    refine ⟨fun e => hne (.inl e), fun e => hne (.inr e), ?_⟩
    split at h
    · rename_i h1; exact absurd h h1
    · rename_i h1
      have h2 : (findP L p).2 = 0 := by rw [(findP_ent L p).1]; exact Decidable.not_not.1 h1
      exact ⟨(findP L p).1, findP_at (by rw [← h2])⟩
theorem mv_ok {L : List Spot} {p q : List Str} (h : mvE (L.map Spot.ent) p q = 0) : ∀ s ∈ L.filter (belowB p), s.names.length + q.length ≤ 8 + p.length := by
  unfold mvE at h
  split at h
  · exact absurd h (by decide)
  · split at h
    · rename_i h1; exact absurd h h1
    · split at h
      · exact absurd h (by decide)
      · rename_i h1
        have h2 : (L.filter (belowB p)).any (deepB p q) = false := by
          rw [← deep_perm (List.Perm.refl _)]
          exact Bool.eq_false_iff.2 h1
        intro s hs
        have := List.any_eq_false.1 h2 s hs
        simp only [deepB, decide_eq_true_eq] at this
        omega
set_option maxHeartbeats 4000000 in
set_option maxRecDepth 100000 in
theorem rename_any {w : World} {g m : Nat} {L : List Spot} (h : Fs w g m L) (hn : L.length ≤ 100000) (k a z : Int) (p t d : ByteArray) (hp : p.size ≤ 9223372036854775807) (ht : t.size ≤ 9223372036854775807) :
    Calls Tryz.prog 69 #[.pointer (some ⟨g, 0, none⟩), .agg #[.int .i64 k, .string p, .string t, .string d, .int .i64 a, .int .i64 z]] w fun e w' => e = .returned (Res.err (rnE (L.map Spot.ent) (nmsOf p) (nmsOf t))).val ∧ (∃ L', Fs w' g m L' ∧ Moved (L.map Spot.ent) (nmsOf p) (nmsOf t) (L'.map Spot.ent)) ∧ w.grownBy w' (some m) := by
  obtain ⟨WA, HWA, HRO, HRA, HBA⟩ := op_box w k a z p t d
  have H := hid_in h
  have HN := hid_in hn
  have HNO1 := hid_in (fun W => namesOf_any p hp W)
  have HNO2 := hid_in (fun W => namesOf_any t ht W)
  have HGP := hid_in (gp_nms p)
  have HGT := hid_in (gp_nms t)
  obtain ⟨c0, c1, c2, c3, c4, c5⟩ := HRO.out.cell 0 |> fun _ => (show _ ∧ _ ∧ _ ∧ _ ∧ _ ∧ _ from ⟨HRO.out.cell 0, HRO.out.cell 1, HRO.out.cell 2, HRO.out.cell 3, HRO.out.cell 4, HRO.out.cell 5⟩)
  have HK := hid_in (fun W (kb : Below WA.heap.size WA W) => And.intro (show W.cell? ⟨w.heap.size, 1, none⟩ = some (.string p) from (HRO.out.below kb HRO.out.lt).cell 1) (show W.cell? ⟨w.heap.size, 2, none⟩ = some (.string t) from (HRO.out.below kb HRO.out.lt).cell 2))
  have HCE := hid_in (fun W (kb : Below w.heap.size w W) pv qv (hv : Val W pv (nmsOf p)) (hu : Val W qv (nmsOf t)) => checkEnds_any (h.below kb) hv hu (gp_nms p) (gp_nms t))
  have HCM := hid_in (fun W (kb : Below w.heap.size w W) pv qv (hv : Val W pv (nmsOf p)) (hu : Val W qv (nmsOf t)) => checkMove_any (h.below kb) hn hv hu (gp_nms p) (gp_nms t))
  have HMV := hid_in (fun W (kb : Below w.heap.size w W) pv qv (hv : Val W pv (nmsOf p)) (hu : Val W qv (nmsOf t)) => move_any (h.below kb) hn hv hu (gp_nms p) (gp_nms t))
  have HEO := hid_in (fun (e : endsE (L.map Spot.ent) (nmsOf p) (nmsOf t) = 0) => ends_ok e)
  have HMO := hid_in (fun (e : mvE (L.map Spot.ent) (nmsOf p) (nmsOf t) = 0) => mv_ok e)
  have HM : Hid (∀ A', Moved (L.map Spot.ent) (nmsOf p) (nmsOf t) A' ↔ ((rnE (L.map Spot.ent) (nmsOf p) (nmsOf t) ≠ 0 ∨ nmsOf p = nmsOf t → A' = L.map Spot.ent) ∧ (rnE (L.map Spot.ent) (nmsOf p) (nmsOf t) = 0 ∧ nmsOf p ≠ nmsOf t → ∃ x es, entAt (L.map Spot.ent) (nmsOf p) = some x ∧ es.Perm ((L.map Spot.ent).filter (belowE (nmsOf p))) ∧ A' = movesA (nmsOf p) (nmsOf t) (es ++ [x]) (L.map Spot.ent)))) := fun A' => Iff.rfl
  have HE : Hid (rnE (L.map Spot.ent) (nmsOf p) (nmsOf t) = if endsE (L.map Spot.ent) (nmsOf p) (nmsOf t) ≠ 0 then endsE (L.map Spot.ent) (nmsOf p) (nmsOf t) else if nmsOf p = nmsOf t then 0 else mvE (L.map Spot.ent) (nmsOf p) (nmsOf t)) := rfl
  have HREF := hid_in (fun k W => refuse_any k W)
  simp only [Res.err, Res.val] at HREF ⊢
  obtain ⟨MV, HMVD⟩ : ∃ MV : List Ent → Prop, Hid (Moved (L.map Spot.ent) (nmsOf p) (nmsOf t) = MV) := ⟨_, hid_in rfl⟩
  rw [HMVD.out] at HM ⊢
  generalize rnE (L.map Spot.ent) (nmsOf p) (nmsOf t) = E at *
  generalize endsE (L.map Spot.ent) (nmsOf p) (nmsOf t) = E1 at *
  generalize mvE (L.map Spot.ent) (nmsOf p) (nmsOf t) = E2 at *
  generalize nmsOf p = ps at *
  generalize nmsOf t = qs at *
  clear h hn
  go_enter Tryz.func69, Tryz.ntmps69
  go_upto_region 1 with fail
  refine wp_world HWA.out ?_
  go_region_held3 (fun W => W.cell? ⟨w.heap.size, 1, none⟩ = some (.string p) ∧ W.cell? ⟨w.heap.size, 2, none⟩ = some (.string t)) (first | (exact HK.out _ HB2.out) | (exact HK.out _ HB1.out) | (exact HK.out _ (Below.refl _ _)) | (exact HK.out _ (below_drew WA))) (first | (go_at_call 92; have hx := HNO1.out; refine (HNO1.out _).mono ?_; rintro e w1 ⟨v1, rfl, hv1, hb1⟩; have HV1 := hid_in hv1; have HB1 := hid_in ((below_drew WA).trans (hb1.mono (below_drew WA).size)); clear hv1 hb1 HNO1 hx) | (go_at_call 92; have hx := HB1.out; refine (HNO2.out _).mono ?_; rintro e w2 ⟨v2, rfl, hv2, hb2⟩; have HV2 := hid_in hv2; have HV1' := hid_in (HV1.out.below hb2); have HB2 := hid_in (HB1.out.trans (hb2.mono HB1.out.size)); clear hv2 hb2 hx))
  have HBX := hid_in (HBA.out.trans (HB2.out.mono HBA.out.size))
  obtain ⟨vp1, vc1, rfl⟩ := HV1.out.form
  obtain ⟨vp2, vc2, rfl⟩ := HV2.out.form
  have HERR := hid_in (fun W (kb : Below w2.heap.size w2 W) => And.intro (res_cells HRA.out (HB2.out.trans (kb.mono HB2.out.size))) (And.intro (HRA.out.below (HB2.out.trans (kb.mono HB2.out.size)) HRA.out.lt) (HBX.out.trans (kb.mono HBX.out.size))))
  have HCE2 := hid_in (HCE.out _ HBX.out _ _ HV1'.out.val HV2.out.val)
  obtain ⟨l1, HL1⟩ : ∃ l1, Hid (ps.length = l1) := ⟨_, hid_in rfl⟩
  obtain ⟨l2, HL2⟩ : ∃ l2, Hid (qs.length = l2) := ⟨_, hid_in rfl⟩
  rw [HL1.out] at HV1' HCE2 ⊢
  rw [HL2.out] at HV2 HCE2 ⊢
  by_cases h1 : E1 = 0
  · subst h1
    obtain ⟨hp0, hq0, x, hx⟩ := HEO.out rfl
    have HE1 : Hid (E = if ps = qs then 0 else E2) := by show _ = _; rw [HE.out, if_neg (by simp)]
    have HCMP := hid_in (fun W (k : Below w2.heap.size w2 W) => Vp.compare_v ((HV1'.out.below k).val) ((HV2.out.below k).val))
    clear HE HCE
    by_cases heq : ps = qs
    · have hc0 : cmpL ps qs = 0 := (Vp.cmpL_is.zero ps qs).2 heq
      rw [hc0] at HCMP
      have HEK : Hid (E = 0) := by show _ = _; rw [HE1.out, if_pos heq]
      have HEQ := hid_in heq
      clear heq hc0 hx hp0 hq0
      go_wp2_with (first | (go_at_call 97; refine HCE2.out.mono ?_; rintro e w3 ⟨rfl, hb3⟩; have HB3 := hid_in hb3; clear hb3) | (go_at_call 81; refine (HCMP.out _ HB3.out).mono ?_; rintro e w4 ⟨rfl, rfl⟩; obtain ⟨⟨⟨g0, g1, g2, g3, g4⟩, q0, q1, q2, q3, q4⟩, hr5, hb5'⟩ := HERR.out _ HB3.out; have HR5 := hid_in hr5; have HB5 := hid_in hb5'; clear hr5 hb5'))
      refine post_err H.out HR5.out HB5.out 0 _ rfl rfl rfl fun W' hf hg => ⟨by rw [HEK.out]; rfl, ⟨L, hf, (HM.out _).2 ⟨fun _ => rfl, fun hh => absurd HEQ.out hh.2⟩⟩, hg⟩
    · have hc0 : (cmpL ps qs == 0) = false := beq_eq_false_iff_ne.2 (fun e => heq ((Vp.cmpL_is.zero ps qs).1 e))
      obtain ⟨cc, HCC⟩ : ∃ cc, Hid (cmpL ps qs = cc) := ⟨_, hid_in rfl⟩
      rw [HCC.out] at HCMP hc0
      have HE2 : Hid (E = E2) := by show _ = _; rw [HE1.out, if_neg heq]
      have HNE := hid_in heq
      clear heq
      go_upto_region 8 with (first | (go_at_call 97; refine HCE2.out.mono ?_; rintro e w3 ⟨rfl, hb3⟩; have HB3 := hid_in hb3; have HV13 := hid_in (HV1'.out.below hb3); have HV23 := hid_in (HV2.out.below hb3); have HBX3 := hid_in (HBX.out.trans (hb3.mono HBX.out.size)); have hcm := HCM.out _ HBX3.out _ _ HV13.out.val HV23.out.val; have HCM2 := hid_in hcm; clear hb3 hcm) | (go_at_call 81; refine (HCMP.out _ HB3.out).mono ?_; rintro e w4 ⟨rfl, rfl⟩) | (go_at_call 98; refine HCM2.out.mono ?_; rintro e w5 ⟨rfl, hb5⟩; have HB5 := hid_in (HB3.out.trans (hb5.mono HB3.out.size)); clear hb5))
      have HBX5 := hid_in (HBX.out.trans (HB5.out.mono HBX.out.size))
      by_cases h2 : E2 = 0
      · subst h2
        have HMV2 := hid_in (HMV.out _ HBX5.out _ _ (HV1'.out.below HB5.out).val (HV2.out.below HB5.out).val (List.length_pos_iff.2 hq0) x hx (HMO.out rfl))
        have HXE : Hid (entAt (L.map Spot.ent) ps = some x.ent) := by show _ = _; rw [← spotAt_ent, hx]; rfl
        clear hx hp0 hq0
        go_wp2_with (first | (go_at_call 99; refine HMV2.out.mono ?_; rintro e w6 ⟨rfl, ⟨L6, es6, hf6, hp6, ha6⟩, hg6⟩; have HF6 := hid_in hf6; have HP6 := hid_in hp6; have HA6 := hid_in ha6; have hr6 := Row.map (HRA.out.below (HB2.out.trans (HB5.out.mono HB2.out.size)) HRA.out.lt) (H.out.below HBX5.out).map hg6; obtain ⟨⟨g0, g1, g2, g3, g4⟩, q0, q1, q2, q3, q4⟩ := res_cells hr6 (Below.refl _ w6); have HR6 := hid_in hr6; have HG6 := hid_in (grown_plus HBX5.out hg6); clear hf6 hp6 ha6 hg6 hr6))
        refine post_Row 4 37 rfl (w.heap.size + 1) rfl 37 [.int .i64 0, .bool false, .int .i64 0, .string ⟨#[]⟩, .slice none 0 0] (set5_row HR6.out rfl _ _ _ _ _) _ Tryz.underlying37 rfl 5 info37 rfl rfl ⟨by rw [HE2.out], ⟨_, HF6.out.set5 HR6.out (by decide) H.out.ne1 _ _ _ _ _, (HM.out _).2 ⟨fun hh => ?_, fun _ => ⟨_, es6, HXE.out, HP6.out, HA6.out⟩⟩⟩, grown_set5 HG6.out (Nat.le_succ _) _ _ _ _ _⟩
        rcases hh with hh | hh
        · exact absurd HE2.out hh
        · exact absurd hh HNE.out
      · have h3 : (E2 != 0) = true := by simpa using h2
        have HK0 := hid_in h2
        clear h2 hx hp0 hq0
        go_wp2_with (first | (go_at_call 30; refine (HREF.out _ _).mono ?_; rintro e w6 ⟨rfl, hb6⟩; obtain ⟨⟨⟨g0, g1, g2, g3, g4⟩, q0, q1, q2, q3, q4⟩, hr6, hb6'⟩ := HERR.out _ (HB5.out.trans (hb6.mono HB5.out.size)); have HR6 := hid_in hr6; have HB6 := hid_in hb6'; clear hb6 hr6 hb6'))
        refine post_err H.out HR6.out HB6.out E2 _ rfl rfl rfl fun W' hf hg => ⟨by rw [HE2.out]; rfl, ⟨L, hf, (HM.out _).2 ⟨fun _ => rfl, fun hh => absurd hh.1 (by rw [HE2.out]; exact HK0.out)⟩⟩, hg⟩
  · have h3 : (E1 != 0) = true := by simpa using h1
    have HEK : Hid (E = E1) := by show _ = _; rw [HE.out, if_pos h1]
    have HK0 := hid_in h1
    clear h1
    go_wp2_with (first | (go_at_call 97; refine HCE2.out.mono ?_; rintro e w3 ⟨rfl, hb3⟩; have HB3 := hid_in hb3; clear hb3) | (go_at_call 30; refine (HREF.out _ _).mono ?_; rintro e w6 ⟨rfl, hb6⟩; obtain ⟨⟨⟨g0, g1, g2, g3, g4⟩, q0, q1, q2, q3, q4⟩, hr6, hb6'⟩ := HERR.out _ (HB3.out.trans (hb6.mono HB3.out.size)); have HR6 := hid_in hr6; have HB6 := hid_in hb6'; clear hb6 hr6 hb6'))
    refine post_err H.out HR6.out HB6.out E1 _ rfl rfl rfl fun W' hf hg => ⟨by rw [HEK.out]; rfl, ⟨L, hf, (HM.out _).2 ⟨fun _ => rfl, fun hh => absurd hh.1 (by rw [HEK.out]; exact HK0.out)⟩⟩, hg⟩
end Go.Proofs.YtngehkmdanhgpaaGreat.Pl
namespace Go.Proofs.YtngehkmdanhgpaaGreat.Pl
open Vp (Str B bl Val cmpL parseS showS splitS withinS IsPath)
theorem at_put : ∀ (A : List Ent) (e : Ent) (n : List Str), entAt (putA A e) n = if n = e.names then some e else entAt A n
  | [], e, n => by
    simp only [putA, entAt, List.find?_cons, List.find?_nil]
    by_cases h : n = e.names
    · simp [h]
    · rw [if_neg h, decide_eq_false (fun x => h x.symm)]
  | t :: r, e, n => by
    have ih := at_put r e n
    unfold entAt at ih ⊢
    simp only [putA]
    by_cases h : t.names = e.names
    · rw [if_pos h, List.find?_cons, List.find?_cons, h]
      by_cases hn : n = e.names
      · simp [hn]
      · rw [if_neg hn, decide_eq_false (fun x => hn x.symm)]
    · rw [if_neg h, List.find?_cons, List.find?_cons]
      by_cases ht : t.names = n
      · have hn : ¬ n = e.names := fun x => h (ht.trans x)
        rw [if_neg hn, decide_eq_true ht]
      · rw [decide_eq_false ht]
        exact ih
theorem at_cut (A : List Ent) (m n : List Str) : entAt (cutA A m) n = if n = m then none else entAt A n := by
  unfold entAt cutA
  rw [List.find?_filter]
  by_cases h : n = m
  · rw [if_pos h, List.find?_eq_none]
    intro e _ he
    simp only [decide_eq_true_eq] at he
    exact he.1 (he.2.trans h)
  · rw [if_neg h]
    congr 1
    funext e
    by_cases he : e.names = n
    · simp [he, h]
    · simp [he]
theorem at_step (p q : List Str) (A : List Ent) (e : Ent) (n : List Str) : entAt (stepA p q A e) n = if n = q ++ e.names.drop p.length then some ⟨n, e.dir, e.data⟩ else if n = e.names then none else entAt A n := by
  unfold stepA
  rw [at_put, at_cut]
  by_cases h : n = q ++ e.names.drop p.length
  · rw [if_pos h, if_pos h, h]
  · rw [if_neg h, if_neg h]
/-- neither lies within the other -/
def Apart (p q : List Str) : Prop := withinS p q = false ∧ withinS q p = false
theorem within_iff {n p : List Str} : withinS n p = true ↔ ∃ s, n = p ++ s := by
  unfold withinS
  rw [decide_eq_true_eq]
  constructor
  · rintro ⟨_, h⟩
    exact ⟨n.drop p.length, by
      conv => lhs; rw [← List.take_append_drop p.length n, h]⟩
  · rintro ⟨s, rfl⟩
    simp
theorem not_both {n p q : List Str} (h : Apart p q) (h1 : withinS n p = true) (h2 : withinS n q = true) : False := by
  obtain ⟨s, rfl⟩ := within_iff.1 h1
  obtain ⟨u, hu⟩ := within_iff.1 h2
  rcases List.append_eq_append_iff.1 hu with ⟨a, rfl, _⟩ | ⟨a, rfl, _⟩
  · have := within_iff.2 ⟨a, (rfl : p ++ a = p ++ a)⟩
    rw [h.2] at this
    cases this
  · have := within_iff.2 ⟨a, (rfl : q ++ a = q ++ a)⟩
    rw [h.1] at this
    cases this
/-- what is at a path behind the moves of some that lie within p -/
theorem at_moves (p q : List Str) (hpq : Apart p q) : ∀ (es : List Ent) (A : List Ent), (∀ e ∈ es, withinS e.names p = true) → (es.map (·.names)).Nodup → ∀ n,
    entAt (movesA p q es A) n = match es.find? (fun e => decide (n = q ++ e.names.drop p.length)) with
      | some e => some ⟨n, e.dir, e.data⟩
      | none => if n ∈ es.map (·.names) then none else entAt A n
  | [], A, _, _, n => by simp [movesA]
  | e :: es, A, hw, hd, n => by
    have hwe := hw e (by simp)
    simp only [List.map_cons, List.nodup_cons] at hd
    have ih := at_moves p q hpq es (stepA p q A e) (fun x hx => hw x (by simp [hx])) hd.2 n
    have hm : movesA p q (e :: es) A = movesA p q es (stepA p q A e) := rfl
    rw [hm, ih, List.find?_cons]
    by_cases h1 : n = q ++ e.names.drop p.length
    · rw [decide_eq_true h1]
      have hno : es.find? (fun x => decide (n = q ++ x.names.drop p.length)) = none := by
        rw [List.find?_eq_none]
        intro x hx hh
        have hh := of_decide_eq_true hh
        rw [h1] at hh
        have h2 := List.append_cancel_left hh
        obtain ⟨s1, e1⟩ := within_iff.1 hwe
        obtain ⟨s2, e2⟩ := within_iff.1 (hw x (by simp [hx]))
        rw [e1, e2] at h2
        simp at h2
        exact hd.1 (List.mem_map.2 ⟨x, hx, by rw [e1, e2, h2]⟩)
      rw [hno]
      have hnn : n ∉ es.map (·.names) := fun hmem => by
        obtain ⟨x, hx, rfl⟩ := List.mem_map.1 hmem
        exact not_both hpq (hw x (by simp [hx])) (within_iff.2 ⟨_, h1⟩)
      simp only
      rw [if_neg hnn, at_step, if_pos h1]
    · rw [decide_eq_false h1]
      cases hf : es.find? (fun x => decide (n = q ++ x.names.drop p.length)) with
      | some x => rfl
      | none =>
        simp only [List.map_cons, List.mem_cons]
        rw [at_step, if_neg h1]
        by_cases h2 : n = e.names
        · simp [h2]
        · by_cases h3 : n ∈ es.map (·.names)
          · simp [h3]
          · simp [h2, h3]
end Go.Proofs.YtngehkmdanhgpaaGreat.Pl
