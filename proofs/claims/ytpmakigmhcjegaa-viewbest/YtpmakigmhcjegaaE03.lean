/-
  Reached: numbers are cloned, put in order, and one is looked at. The answers that the document fixes. ViewBest. ViewBest's walk. ViewMeets.
-/
import Derived.Sort.OwnSortedInts
import Derived.Deep.RegionLaw
import Derived.Deep.DrawnRows
import Derived.OwnWalk
import Derived.Laws.CopyOwn
import Derived.Laws.Tables
import Derived.Lib.AppendZeros
import Derived.Lib.SlBytesConst
import Derived.Laws.StructEq
import Derived.Deep.LoopGhost
import Derived.Test.YtpmakigmhcjegaaE00
import Derived.Test.YtpmakigmhcjegaaE01
import Derived.Test.YtpmakigmhcjegaaE02
namespace Go.Proofs.Ytpmakigmhcjegaa.Vw
open Go.RowKit
open Nd (Row wp_world u8v Grew Sl hid_in)
theorem ksort_any {w : World} {B : Nat} {v : Value} {ks : List Int} (hv : KO w B v ks) (hne : ks ≠ []) (hl : ks.length ≤ 17592186044416) :
    Calls Try.prog 24 #[v] w fun e w' => e = .returned (.tuple #[]) ∧ KO w' B v (srt ks) ∧ w.grownBy w' v.ownBlock := by
  obtain ⟨_, ⟨rfl, h0⟩ | ⟨g, cap, cur, rfl, hB, hh, hn, hm, hs, ht⟩⟩ := hv
  · exact absurd (List.length_eq_zero_iff.1 h0) hne
  · have hlt : g < w.heap.size := (Array.getElem?_eq_some_iff.1 hh).1
    refine (sort_k g 0 cap ks w (holds_of_blockI hh (by rw [Nat.mul_one] at ht; exact ht)) hlt (by omega)).mono ?_
    rintro e w' ⟨rfl, n, os, rfl⟩
    refine ⟨rfl, ?_, grownBy_sortedI _⟩
    have h := ownsRow_sortedI (base := B) (n := n) (os := os) (ts := srt ks) (srt_len ks) hB hh hn hm hs
    unfold KO
    rw [srt_len]
    exact h
theorem quo_nat {n : Nat} (h : 0 < n) : quo (n : Int) = ((qn n : Nat) : Int) := by
  unfold quo qn
  rw [if_neg (by omega)]
  omega
set_option maxRecDepth 100000 in
theorem reached_any (ks : List Int) (v : Value) (w : World) (hv : Ks w v ks) (hl : ks.length ≤ 17592186044416) : Calls Try.prog 19 #[v] w fun e w' => e = .returned (.int .i64 (rch ks)) ∧ Below w.heap.size w w' := by
  obtain ⟨p, cap, rfl, hc1, hc2⟩ := hv.form
  by_cases hne : ks = []
  · subst hne
    have e0 : rch [] = 0 := by simp [rch, srt]
    rw [e0]
    clear hv
    simp only [List.length_nil]
    go_enter Try.func19, Try.ntmps19
    go_wp2
    go_ret
    exact ⟨rfl, Below.refl _ _⟩
  · have hp : 0 < ks.length := List.length_pos_iff.2 hne
    have HC := hid_in (kclone_any ks _ w hl hv)
    have HS := hid_in (fun (w1 : World) (v1 : Value) (h : KO w1 w.heap.size v1 ks) => ksort_any h hne hl)
    obtain ⟨q1, q2⟩ := qn_le hp
    have HQ := hid_in (quorum_any (ks.length : Int) ⟨by omega, by omega⟩)
    rw [quo_nat hp] at HQ
    have k1 : (ks.length : Int) ≤ 9223372036854775807 := by omega
    have k2 : ¬ (ks.length : Int) = 0 := by omega
    have k3 : (ks.length : Int) - ((qn ks.length : Nat) : Int) = ((ks.length - qn ks.length : Nat) : Int) := by omega
    have k4 : ((ks.length - qn ks.length : Nat) : Int) < (ks.length : Int) := by omega
    have HR := hid_in (show (srt ks)[ks.length - qn ks.length]? = some (rch ks) by
      have hm : ks.length - qn ks.length < (srt ks).length := by rw [srt_len]; omega
      unfold rch
      simp [hm])
    have HL := hid_in (srt_len ks)
    obtain ⟨x, HX⟩ : ∃ x, Hid (rch ks = x) := ⟨_, hid_in rfl⟩
    rw [HX.out] at HR ⊢
    generalize hq : qn ks.length = q at *
    generalize hd : ks.length - q = d at *
    clear hv hq hd hne hp q1 q2 HX
    go_enter Try.func19, Try.ntmps19
    go_upto_region 4 with (first | (go_at_call 23; refine HC.out.mono ?_; rintro e w1 ⟨v1, rfl, hk1, hb1⟩; have HK1 := hid_in hk1; have HB1 := hid_in hb1; clear hk1 hb1))
    go_upto_region 5 with (first | (go_at_call 24; refine (HS.out _ _ HK1.out).mono ?_; rintro e w2 ⟨rfl, hk2, hg2⟩; obtain ⟨p2, c2, hv2, hc21, hc22⟩ := hk2.ks.form; rw [HL.out] at hv2 hc21; subst hv2; obtain ⟨b2, o2, hp2, m0⟩ := hk2.ks.at HR.out; subst hp2; have HB2 := hid_in (HB1.out.grown hg2 HB1.out.size (fun k e => (HK1.out.lt k e).1)); clear hk2 hg2))
    go_wp2_with (first | (go_at_call 11; refine (HQ.out _).mono ?_; rintro e w3 ⟨rfl, rfl⟩))
    go_ret
    exact ⟨rfl, HB2.out⟩
end Go.Proofs.Ytpmakigmhcjegaa.Vw
namespace Go.Proofs.Ytpmakigmhcjegaa.Vw
open Go.RowKit
open Nd (Row wp_world u8v Grew Sl hid_in)
def v3 : List Vt := [⟨0, 2, 5⟩, ⟨1, 3, 1⟩, ⟨2, 3, 4⟩]
theorem votes3 (w : World) : Es (w.alloc (.cells #[.int .i64 0, .int .i64 2, .int .i64 5, .int .i64 1, .int .i64 3, .int .i64 1, .int .i64 2, .int .i64 3, .int .i64 4] 31)) (.slice (some ⟨w.heap.size, 0, none⟩) 3 3) v3 :=
  (show EO _ w.heap.size _ v3 from ⟨rfl, .inr ⟨w.heap.size, 3, _, rfl, Nat.le_refl _, (MapKept.heap_alloc w _).1, Nat.le_refl _, by unfold maxLen; omega, rfl, rfl⟩⟩).es
theorem acks3 (w : World) : Ks (w.alloc (.cells #[.int .i64 5, .int .i64 9, .int .i64 7] 2)) (.slice (some ⟨w.heap.size, 0, none⟩) 3 3) [5, 9, 7] :=
  (show KO _ w.heap.size _ [5, 9, 7] from ⟨rfl, .inr ⟨w.heap.size, 3, _, rfl, Nat.le_refl _, (MapKept.heap_alloc w _).1, Nat.le_refl _, by unfold maxLen; omega, rfl, rfl⟩⟩).ks
theorem bst3 : bst v3 v3.length = 2 := by decide
theorem rch3 : rch [5, 9, 7] = 7 := by
  rw [← rr_is (by simp)]
  decide
set_option maxHeartbeats 1000000 in
theorem awake_any (w : World) : Calls Try.prog 8 #[] w fun e w' => e = .returned (.bool true) ∧ Below w.heap.size w w' := by
  have H1 : Hid (∀ w : World, Calls Try.prog 9 #[.int .i64 7, .int .i64 3] w fun e w' => e = .returned (.int .i64 1) ∧ w' = w) := primary_any 7 3 (by constructor <;> decide) (by constructor <;> decide)
  have H2 : Hid (∀ w : World, Calls Try.prog 11 #[.int .i64 5] w fun e w' => e = .returned (.int .i64 3) ∧ w' = w) := quorum_any 5 (by constructor <;> decide)
  have H3 : Hid (∀ w : World, Calls Try.prog 13 #[.int .i64 2] w fun e w' => e = .returned (.int .i64 12) ∧ w' = w) := wait_any 2 (by constructor <;> decide)
  have H4 : Hid (∀ w : World, Calls Try.prog 15 #[.int .i64 7, .int .i64 1, .int .i64 3] w fun e w' => e = .returned (.int .i64 10) ∧ w' = w) := next_any 7 1 3 (by constructor <;> decide) (by constructor <;> decide) (by constructor <;> decide)
  have H5 := hid_in (fun w => bst3 ▸ best_any v3 _ _ (votes3 w))
  have H6 := hid_in (fun w => rch3 ▸ reached_any [5, 9, 7] _ _ (acks3 w) (by decide))
  go_enter Try.func8, Try.ntmps8
  go_wp2_with (first | (go_at_call 9; refine (H1.out _).mono ?_; rintro e w2 ⟨rfl, rfl⟩) | (go_at_call 11; refine (H2.out _).mono ?_; rintro e w2 ⟨rfl, rfl⟩) | (go_at_call 13; refine (H3.out _).mono ?_; rintro e w2 ⟨rfl, rfl⟩) | (go_at_call 15; refine (H4.out _).mono ?_; rintro e w2 ⟨rfl, rfl⟩) | (go_at_call 17; refine (H5.out _).mono ?_; rintro e w2 ⟨rfl, hb2⟩; have HB2 := hid_in (((Below.refl _ _).alloc (Nat.le_refl _) _).trans (hb2.mono (by simp))); clear hb2) | (go_at_call 19; refine (H6.out _).mono ?_; rintro e w3 ⟨rfl, hb3⟩; have HB3 := hid_in (HB2.out.trans ((((Below.refl _ _).alloc (Nat.le_refl _) _).trans (hb3.mono (by simp))).mono HB2.out.size)); clear hb3))
  go_ret
  exact ⟨rfl, HB3.out⟩
end Go.Proofs.Ytpmakigmhcjegaa.Vw
namespace Go.Proofs.Ytpmakigmhcjegaa.Vw
open Go.RowKit
open Nd (Row wp_world u8v Grew Sl hid_in)
theorem neqV (x y z : Int) (w : World) : (binOp .neq 31 (.agg #[.int .i64 x, .int .i64 y, .int .i64 z]) (.agg #[.int .i64 x, .int .i64 y, .int .i64 z])).run Try.prog w = .ok (.bool false) w := by
  go_simp
theorem eqlV (x y z : Int) (w : World) : (binOp .eql 31 (.agg #[.int .i64 x, .int .i64 y, .int .i64 z]) (.agg #[.int .i64 x, .int .i64 y, .int .i64 z])).run Try.prog w = .ok (.bool true) w := by
  go_simp
/-- the votes, begun s further on -/
def rot {α : Type} (z : α) (vs : List α) (s : Nat) : List α := (List.range vs.length).map fun j => vs.getD ((j + s) % vs.length) z
theorem rot_len {α : Type} (z : α) (vs : List α) (s : Nat) : (rot z vs s).length = vs.length := by simp [rot]
theorem rot_get {α : Type} (z : α) (vs : List α) (s j : Nat) (h : j < vs.length) : (rot z vs s)[j]'(by rw [rot_len]; exact h) = vs[(j + s) % vs.length]'(Nat.mod_lt _ (by omega)) := by
  have h2 := Nat.mod_lt (j + s) (show 0 < vs.length by omega)
  simp [rot, h2]
theorem rot_mem {α : Type} (z : α) (vs : List α) (s : Nat) (hs : s < vs.length) : ∀ x, x ∈ rot z vs s ↔ x ∈ vs := by
  intro x
  constructor
  · intro h
    obtain ⟨j, hj, rfl⟩ := List.getElem_of_mem h
    rw [rot_len] at hj
    rw [rot_get z vs s j hj]
    exact List.getElem_mem _
  · intro h
    obtain ⟨j, hj, rfl⟩ := List.getElem_of_mem h
    have hk : (j + (vs.length - s)) % vs.length < vs.length := Nat.mod_lt _ (by omega)
    have h2 := rot_get z vs s _ hk
    have e : ((j + (vs.length - s)) % vs.length + s) % vs.length = j := by
      rw [Nat.mod_add_mod, Nat.add_assoc, Nat.sub_add_cancel (Nat.le_of_lt hs), Nat.add_mod_right]
      exact Nat.mod_eq_of_lt hj
    have h3 : (rot z vs s)[(j + (vs.length - s)) % vs.length]'(by rw [rot_len]; exact hk) = vs[j] := by rw [h2]; congr 1
    rw [← h3]
    exact List.getElem_mem _
theorem ahead_trans {a b c : Vt} (h1 : ahead a b) (h2 : ¬ ahead c b) : ¬ ahead c a := by
  unfold ahead at *
  omega
theorem ahead_self (a : Vt) : ¬ ahead a a := by unfold ahead; omega
theorem ahead_eq {a b : Vt} (h1 : ¬ ahead a b) (h2 : ¬ ahead b a) : a = b := by
  unfold ahead at *
  obtain ⟨r, n, l⟩ := a
  obtain ⟨r', n', l'⟩ := b
  simp only [Vt.mk.injEq]
  dsimp only at *
  omega
/-- none of the first k comes ahead of the best -/
theorem bst_best (vs : List Vt) : ∀ k, k ≤ vs.length → ∀ f : Nat, bst vs k = (f : Int) → ∀ j, j < k → ¬ ahead (vs.getD j zv) (vs.getD f zv)
  | 0, _, _, _, _, h => absurd h (by omega)
  | k + 1, hk, f, hf, j, hj => by
    obtain ⟨r1, r2, r3⟩ := bst_range vs k
    rw [bst] at hf
    split at hf
    · rename_i hc
      obtain rfl : f = k := by omega
      by_cases hjk : j = f
      · subst hjk; exact ahead_self _
      · have h0 : 0 ≤ bst vs f := r3 (by omega)
        obtain ⟨m, hm⟩ : ∃ m : Nat, bst vs f = (m : Int) := ⟨(bst vs f).toNat, by omega⟩
        have h1 := bst_best vs f (by omega) m hm j (by omega)
        rw [hm, Int.toNat_natCast] at hc
        rcases hc with hc | hc
        · omega
        · exact ahead_trans hc h1
    · rename_i hc
      by_cases hjk : j = k
      · subst hjk
        intro h
        apply hc
        rw [hf, Int.toNat_natCast]
        exact .inr h
      · exact bst_best vs k (by omega) f hf j (by omega)
/-- in whatever order they come, the best vote is as good -/
theorem best_rot {vs us : List Vt} (hv : vs ≠ []) (hm : ∀ x, x ∈ us ↔ x ∈ vs) : ∃ f g : Nat, ∃ (hf : f < vs.length) (hg : g < us.length), bst vs vs.length = (f : Int) ∧ bst us us.length = (g : Int) ∧ us[g] = vs[f] := by
  have hu : us ≠ [] := by
    rintro rfl
    obtain ⟨x, hx⟩ := List.exists_mem_of_ne_nil _ hv
    exact absurd ((hm x).2 hx) (by simp)
  have get : ∀ l : List Vt, l ≠ [] → ∃ f : Nat, ∃ hf : f < l.length, bst l l.length = (f : Int) ∧ ∀ x ∈ l, ¬ ahead x l[f] := by
    intro l hl
    have hp : 0 < l.length := List.length_pos_iff.2 hl
    obtain ⟨r1, r2, r3⟩ := bst_range l l.length
    have h0 := r3 hp
    refine ⟨(bst l l.length).toNat, by omega, by omega, fun x hx => ?_⟩
    obtain ⟨j, hj, rfl⟩ := List.getElem_of_mem hx
    have h := bst_best l l.length (Nat.le_refl _) (bst l l.length).toNat (by omega) j hj
    rw [getD_of hj, getD_of (by omega)] at h
    exact h
  obtain ⟨f, hf, e1, h1⟩ := get vs hv
  obtain ⟨g, hg, e2, h2⟩ := get us hu
  refine ⟨f, g, hf, hg, e1, e2, ?_⟩
  exact ahead_eq (h1 _ ((hm _).1 (List.getElem_mem hg))) (h2 _ ((hm _).2 (List.getElem_mem hf)))
end Go.Proofs.Ytpmakigmhcjegaa.Vw
namespace Go.Proofs.Ytpmakigmhcjegaa.Vw
open Go.RowKit
open Nd (Row wp_world u8v Grew Sl hid_in)
theorem one31 (w : World) (e : Vt) : ∃ W, Hid (w.alloc (.cells #[.int .i64 e.r, .int .i64 e.n, .int .i64 e.l] 31) = W) ∧ Hid (Es W (.slice (some ⟨w.heap.size, 0, none⟩) 1 1) [e]) ∧ Hid (Below w.heap.size w W) :=
  ⟨_, rfl, (show EO _ w.heap.size _ [e] from ⟨rfl, .inr ⟨w.heap.size, 1, _, rfl, Nat.le_refl _, (MapKept.heap_alloc w _).1, Nat.le_refl _, by unfold maxLen; omega, rfl, rfl⟩⟩).es, (Below.refl _ _).alloc (Nat.le_refl _) _⟩
theorem take_rot {α : Type} (z : α) (vs : List α) (s i : Nat) (h : i < vs.length) : (rot z vs s).take (i + 1) = (rot z vs s).take i ++ [vs[(i + s) % vs.length]'(Nat.mod_lt _ (by omega))] := by
  rw [List.take_succ_eq_append_getElem (by rw [rot_len]; exact h), rot_get z vs s i h]
theorem turn_shift (turn : Int) {n : Nat} (hn : 0 < n) : ∃ s : Nat, (IntKind.u64.wrap turn).tmod (n : Int) = (s : Int) ∧ Hid (s < n) := by
  have h : 0 ≤ IntKind.u64.wrap turn := by simp [IntKind.wrap, IntKind.bits, IntKind.signed]; omega
  have e : (IntKind.u64.wrap turn).tmod (n : Int) = IntKind.u64.wrap turn % (n : Int) := Int.tmod_eq_emod_of_nonneg h
  have h1 := Int.emod_nonneg (IntKind.u64.wrap turn) (show (n : Int) ≠ 0 by omega)
  have h2 := Int.emod_lt_of_pos (IntKind.u64.wrap turn) (show (0 : Int) < (n : Int) by omega)
  exact ⟨(IntKind.u64.wrap turn % (n : Int)).toNat, by omega, hid_in (by omega)⟩
theorem shift_nums {i s n : Nat} (hi : i < n) (hs : s < n) (hn : n ≤ 17592186044416) : wrap64 (s : Int) = (s : Int) ∧ wrap64 ((i : Int) + (s : Int)) = (i : Int) + (s : Int) ∧ ((i : Int) + (s : Int)).tmod (n : Int) = (((i + s) % n : Nat) : Int) ∧ (((i + s) % n : Nat) : Int) < (n : Int) := by
  refine ⟨by unfold wrap64; omega, by unfold wrap64; omega, ?_, by have := Nat.mod_lt (i + s) (show 0 < n by omega); omega⟩
  rw [Int.tmod_eq_emod_of_nonneg (by omega)]
  simp
set_option maxHeartbeats 4000000 in
set_option maxRecDepth 100000 in
theorem vbest_any (vs : List Vt) (v : Value) (turn : Int) (w : World) (hv : Es w v vs) (ht : ir turn) (hl : vs.length ≤ 5864062014805) : Calls Try.prog 5 #[v, .int .i64 turn] w fun e w' => e = .returned (.bool true) ∧ Below w.heap.size w w' := by
  obtain ⟨p, cap, rfl, hc1, hc2⟩ := hv.form
  have H0 := hid_in awake_any
  have HV := hid_in hv
  have HL := hid_in hl
  obtain ⟨t1, t2⟩ := ht
  have k1 : (vs.length : Int) ≤ 5864062014805 := by omega
  by_cases hne : vs = []
  · subst hne
    simp only [List.length_nil] at *
    clear hv hc1 hc2 hl HL k1
    go_enter Try.func5, Try.ntmps5
    go_upto_region 3 with (first | (go_at_call 8; refine (H0.out _).mono ?_; rintro e w2 ⟨rfl, hb2⟩; have HB2 := hid_in hb2; clear hb2))
    obtain ⟨W1, HW1, HN1, HB1⟩ := vo_empty w2
    have HE1 := hid_in (HV.out.below (HB2.out.trans (HB1.out.mono HB2.out.size)))
    have hw := HW1.out
    subst hw
    clear HW1
    go_upto_region 4 with (first | (at_builtin; refine wpList_appE w2.heap.size rfl (.tmp 12) (.tmp 13) rfl (.slice (some ⟨w2.heap.size, 0, none⟩) 0 0) [] [] rfl HN1.out _ rfl HE1.out (by simp) HB1.out.size ?_; intro v3 w3 hn3 hg3; have HB3 := hid_in (HB2.out.trans ((HB1.out.grown hg3 HB1.out.size (fun k e => (VO.lt HN1.out k e).1)).mono HB2.out.size)); have HN3 : Hid (EO w3 w2.heap.size v3 []) := hid_in (by simpa using hn3); clear hn3 hg3))
    have HBA := hid_in (best_any [] v3 w3 HN3.out.es)
    go_upto_region 5 with (first | (go_at_call 17; refine HBA.out.mono ?_; rintro e w4 ⟨rfl, hb4⟩; have HB4 := hid_in (HB3.out.trans (hb4.mono HB3.out.size)); clear hb4))
    have HBR := hid_in (rbest_any [] _ w4 (HV.out.below HB4.out))
    simp only [List.length_nil, bst] at HBR ⊢
    go_wp2_with (first | (go_at_call 18; refine HBR.out.mono ?_; rintro e w5 ⟨rfl, hb5⟩; have HB5 := hid_in (HB4.out.trans (hb5.mono HB4.out.size)); clear hb5))
    go_ret
    exact ⟨rfl, HB5.out⟩
  have hp : 0 < vs.length := List.length_pos_iff.2 hne
  have k2 : (0 : Int) < (vs.length : Int) := by omega
  have k3 : ((vs.length : Int) == 0) = false := by rw [beq_eq_false_iff_ne]; omega
  clear hv hc1 hc2
  go_enter Try.func5, Try.ntmps5
  go_upto_region 3 with (first | (go_at_call 8; refine (H0.out _).mono ?_; rintro e w2 ⟨rfl, hb2⟩; have HB2 := hid_in hb2; clear hb2))
  obtain ⟨W1, HW1, HN1, HB1⟩ := vo_empty w2
  have HE1 := hid_in (HV.out.below (HB2.out.trans (HB1.out.mono HB2.out.size)))
  have hw := HW1.out
  subst hw
  clear HW1
  go_upto_region 4 with (first | (at_builtin; refine wpList_appE w2.heap.size rfl (.tmp 12) (.tmp 13) rfl (.slice (some ⟨w2.heap.size, 0, none⟩) 0 0) [] vs rfl HN1.out _ rfl HE1.out (by simp; exact HL.out) HB1.out.size ?_; intro v3 w3 hn3 hg3; have HB3 := hid_in (HB2.out.trans ((HB1.out.grown hg3 HB1.out.size (fun k e => (VO.lt HN1.out k e).1)).mono HB2.out.size)); have HN3 : Hid (EO w3 w2.heap.size v3 vs) := hid_in (by simpa using hn3); clear hn3 hg3))
  have HBA := hid_in (best_any vs v3 w3 HN3.out.es)
  go_upto_region 5 with (first | (go_at_call 17; refine HBA.out.mono ?_; rintro e w4 ⟨rfl, hb4⟩; have HB4 := hid_in (HB3.out.trans (hb4.mono HB3.out.size)); have HN4 := hid_in (HN3.out.below hb4); clear hb4))
  have HBR := hid_in (rbest_any vs _ w4 (HV.out.below HB4.out))
  go_upto_region 10 with (first | (go_at_call 18; refine HBR.out.mono ?_; rintro e w5 ⟨rfl, hb5⟩; have HB5 := hid_in (HB4.out.trans (hb5.mono HB4.out.size)); have HN5 := hid_in (HN4.out.below hb5); clear hb5))
  have HN6 := hid_in HN5.out.es
  obtain ⟨q, cap3, hq, hc3, hc4⟩ := HN5.out.es.form
  subst hq
  clear HN1 HB1 HE1 HB3 HN3 HBA HB4 HN4 HBR hc3 hc4
  go_upto_region 12 with fail
  obtain ⟨s, hs1, HS⟩ := turn_shift turn hp
  go_loopg [8, 9] vs.length (fun g vo vi W => ∃ i : Nat, g + i = vs.length ∧ vi = .int .i64 (i : Int) ∧ Hid (EO W w5.heap.size vo ((rot zv vs s).take i)) ∧ Hid (Below w5.heap.size w5 W))
  case atStart => exact ⟨0, by omega, rfl, EO.nil _ _, Below.refl _ _⟩
  case round =>
    obtain ⟨i, hg, rfl, ho, hb⟩ := hrel
    by_cases hlt : i < vs.length
    · obtain ⟨b, o, rfl, m0, m1, m2⟩ := (HV.out.below (HB5.out.trans (hb.out.mono HB5.out.size))).at3 (List.getElem?_eq_getElem hlt)
      obtain ⟨b2, o2, rfl, n0, n1, n2⟩ := (HN6.out.below hb.out).at3 (List.getElem?_eq_getElem hlt)
      generalize vs[i] = x at *
      obtain ⟨xr, xn, xl⟩ := x
      dsimp only at *
      have hn := neqV xr xn xl
      go_upto_region 14 with fail
      go_cut [40] from 32 to 40 (fun x W => x = .bool false ∧ Hid (Below wr.heap.size wr W))
      case first =>
        go_region
        go_wp2_with fail
        go_meet
        exact ⟨rfl, (Below.refl _ _).drew⟩
      case rest =>
        obtain ⟨rfl, HBC⟩ := hcut
        clear m0 m1 m2 n0 n1 n2 hn
        have hs3 := HS.out
        obtain ⟨e1, e2, e3, e4⟩ := shift_nums hlt hs3 (Nat.le_trans HL.out (by decide))
        have hm : (i + s) % vs.length < vs.length := Nat.mod_lt _ hp
        have HT := hid_in (take_rot zv vs s i hlt)
        obtain ⟨b3, o3, hbo, m0, m1, m2⟩ := (HV.out.below (HB5.out.trans ((hb.out.trans (HBC.out.mono hb.out.size)).mono HB5.out.size))).at3 (List.getElem?_eq_getElem hm)
        injection hbo with hbo
        injection hbo with hb1 ho1
        subst hb1 ho1
        generalize vs[(i + s) % vs.length] = y at *
        generalize hmm : (i + s) % vs.length = m at *
        obtain ⟨yr, yn, yl⟩ := y
        dsimp only at *
        have HO := hid_in (ho.out.below HBC.out)
        obtain ⟨W7, HW7, HO7, HB7⟩ := one31 wc ⟨yr, yn, yl⟩
        have HOW := hid_in (HO.out.below HB7.out)
        have HBW := hid_in ((hb.out.trans (HBC.out.mono hb.out.size)).trans (HB7.out.mono (hb.out.trans (HBC.out.mono hb.out.size)).size))
        have HLI := hid_in (show ((rot zv vs s).take i).length + 1 ≤ 5864062014805 by rw [List.length_take, rot_len]; have := HL.out; omega)
        have hw7 := HW7.out
        subst hw7
        clear HW7 hmm
        go_wp2_with (first | (at_builtin; refine wpList_appE w5.heap.size rfl (.tmp 41) (.tmp 55) rfl _ _ [⟨yr, yn, yl⟩] rfl HOW.out _ rfl HO7.out HLI.out HBW.out.size ?_; intro v8 w8 hn8 hg8; have HN8 := hid_in hn8; have HB8 := hid_in (HBW.out.grown hg8 HBW.out.size (fun k e => (VO.lt HOW.out k e).1)); clear hn8 hg8))
        go_roundg (vs.length - (i + 1))
        case measure => omega
        case rel => exact ⟨i + 1, by omega, by go_num, by rw [HT.out]; exact HN8, HB8⟩
    · obtain rfl : i = vs.length := by omega
      have hm := rot_mem zv vs s HS.out
      obtain ⟨f, u, hf, hu, e1, e2, e3⟩ := best_rot hne hm
      have ht2 : (rot zv vs s).take vs.length = rot zv vs s := List.take_of_length_le (by rw [rot_len]; omega)
      have hul : (rot zv vs s).length = vs.length := rot_len _ _ _
      rw [ht2] at ho
      generalize rot zv vs s = us at *
      have HO := hid_in ho.out.es
      obtain ⟨q2, cap4, rfl, _, _⟩ := ho.out.es.form
      obtain ⟨b, o, rfl, m0, m1, m2⟩ := (HV.out.below (HB5.out.trans (hb.out.mono HB5.out.size))).at3 (List.getElem?_eq_getElem hf)
      obtain ⟨b2, o2, rfl, n0, n1, n2⟩ := HO.out.at3 (List.getElem?_eq_getElem hu)
      rw [e3] at n0 n1 n2
      have HBU := hid_in (fun (W : World) (h : Below wr.heap.size wr W) => best_any us _ W (HO.out.below h))
      rw [e2] at HBU
      rw [e1, hul]
      rw [hul] at HBU
      have j1 : (f : Int) < (vs.length : Int) := by omega
      have j2 : (u : Int) < (vs.length : Int) := by omega
      generalize vs[f] = x at *
      obtain ⟨xr, xn, xl⟩ := x
      dsimp only at *
      have HEQ := hid_in (eqlV xr xn xl)
      have HK : Hid (∀ W, Below wr.heap.size wr W → W.cell? ⟨b, o + f * 3, none⟩ = some (.int .i64 xr) ∧ W.cell? ⟨b, o + f * 3 + 1, none⟩ = some (.int .i64 xn) ∧ W.cell? ⟨b, o + f * 3 + 2, none⟩ = some (.int .i64 xl) ∧ W.cell? ⟨b2, o2 + u * 3, none⟩ = some (.int .i64 xr) ∧ W.cell? ⟨b2, o2 + u * 3 + 1, none⟩ = some (.int .i64 xn) ∧ W.cell? ⟨b2, o2 + u * 3 + 2, none⟩ = some (.int .i64 xl)) := hid_in (fun W h => ⟨by rw [h.cell (World.block_lt_of_cell? _ _ m0)]; exact m0, by rw [h.cell (World.block_lt_of_cell? _ _ m1)]; exact m1, by rw [h.cell (World.block_lt_of_cell? _ _ m2)]; exact m2, by rw [h.cell (World.block_lt_of_cell? _ _ n0)]; exact n0, by rw [h.cell (World.block_lt_of_cell? _ _ n1)]; exact n1, by rw [h.cell (World.block_lt_of_cell? _ _ n2)]; exact n2⟩)
      clear m0 m1 m2 n0 n1 n2 e1 e2 e3 hm ht2 ho HO hul
      go_upto_region 17 with fail
      have HD : Hid (Below wr.heap.size wr wr.drew) := hid_in (Below.refl _ _).drew
      go_region_held3 (fun W => W.cell? ⟨b, o + f * 3, none⟩ = some (.int .i64 xr) ∧ W.cell? ⟨b, o + f * 3 + 1, none⟩ = some (.int .i64 xn) ∧ W.cell? ⟨b, o + f * 3 + 2, none⟩ = some (.int .i64 xl) ∧ W.cell? ⟨b2, o2 + u * 3, none⟩ = some (.int .i64 xr) ∧ W.cell? ⟨b2, o2 + u * 3 + 1, none⟩ = some (.int .i64 xn) ∧ W.cell? ⟨b2, o2 + u * 3 + 2, none⟩ = some (.int .i64 xl)) (first | (exact HK.out _ HD.out) | (exact HK.out _ HB9.out)) (first | (go_at_call 17; refine (HBU.out _ HD.out).mono ?_; rintro e w9 ⟨rfl, hb9⟩; have HB9 := hid_in (HD.out.trans (hb9.mono HD.out.size)); clear hb9))
      go_wp2_with fail
      go_ret
      exact ⟨rfl, HB5.out.trans ((hb.out.trans (HB9.out.mono hb.out.size)).mono HB5.out.size)⟩
end Go.Proofs.Ytpmakigmhcjegaa.Vw
namespace Go.Proofs.Ytpmakigmhcjegaa.Vw
open Go.RowKit
open Nd (Row wp_world u8v Grew Sl hid_in)
/-- a value that reads as truth values -/
def Bs (w : World) (v : Value) (lb : List Bool) : Prop := ∃ p cap b o, v = .slice p lb.length cap ∧ (lb ≠ [] → p = some ⟨b, o, none⟩ ∧ b < w.heap.size) ∧ (∀ (j : Nat) u, lb[j]? = some u → w.cell? ⟨b, o + j, none⟩ = some (.bool u))
theorem Bs.below {w w' : World} {v : Value} {lb : List Bool} (h : Bs w v lb) (hb : Below w.heap.size w w') : Bs w' v lb := by
  obtain ⟨p, cap, b, o, rfl, h4, h5⟩ := h
  refine ⟨p, cap, b, o, rfl, fun he => ⟨(h4 he).1, Nat.lt_of_lt_of_le (h4 he).2 hb.size⟩, fun j u hj => ?_⟩
  have hne : lb ≠ [] := by rintro rfl; simp at hj
  rw [hb.cell (p := ⟨b, _, none⟩) (h4 hne).2]
  exact h5 j u hj
theorem Bs.form {w : World} {v : Value} {lb : List Bool} (h : Bs w v lb) : ∃ p cap, v = .slice p lb.length cap := by
  obtain ⟨p, cap, _, _, h1, _⟩ := h
  exact ⟨p, cap, h1⟩
theorem Bs.at {w : World} {n c : Nat} {p : Option Addr} {lb : List Bool} (h : Bs w (.slice p n c) lb) {i : Nat} {e : Bool} (hi : lb[i]? = some e) : ∃ b o, p = some ⟨b, o, none⟩ ∧ w.cell? ⟨b, o + i, none⟩ = some (.bool e) := by
  obtain ⟨p', cap, b, o, h1, h4, h5⟩ := h
  simp only [Value.slice.injEq] at h1
  obtain ⟨rfl, rfl, rfl⟩ := h1
  have hne : lb ≠ [] := by rintro rfl; simp at hi
  exact ⟨b, o, (h4 hne).1, h5 _ _ hi⟩
end Go.Proofs.Ytpmakigmhcjegaa.Vw
