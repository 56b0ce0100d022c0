/-
  The reference's Reached. The answers that the document fixes. ViewBest. ViewBest's walk. ViewReached's walk. ViewMeets. What comes in: votes, numbers, truth values.
-/
import Derived.Deep.LoopGhost
import Derived.OwnWalk
import Derived.Laws.StructEq
import Derived.Lib.AppendZeros
import Derived.Deep.DrawnRows
import Derived.Laws.CopyOwn
import Derived.Deep.RegionLaw
import Derived.Lib.SlBytesConst
import Derived.Laws.Tables
import Derived.ProofKit
import Derived.OpenShut
import Derived.ShutString
import Derived.ChangeOld
import Derived.Deep.DeepHandedRow
import Derived.SizedLaws
import Derived.Lib.LaidTab
import Derived.Deep.Matrix
import Derived.Deep.Slices
import Derived.Test.YtpmakigmhcjegaaF00
import Derived.Test.YtpmakigmhcjegaaF01
import Derived.Test.YtpmakigmhcjegaaF02
namespace Go.Proofs.Ytpmakigmhcjegaa.Vw
open Go.RowKit
open Nd (Row wp_world u8v Grew Sl hid_in)
theorem ge_snoc (l : List Int) (y x : Int) : ge (l ++ [y]) x = ge l x + if x ≤ y then 1 else 0 := by
  rw [ge_app]
  congr 1
  by_cases h : x ≤ y
  · rw [if_pos h]; simp [ge, h]
  · rw [if_neg h]; simp [ge, h]
theorem rr_yes {ks : List Int} {k : Nat} (h : k < ks.length) (h1 : qn ks.length ≤ ge ks ks[k]) (h2 : (rr ks k).1 = false ∨ (rr ks k).2 < ks[k]) : rr ks (k + 1) = (true, ks[k]) := by
  have e : ks.getD k 0 = ks[k] := by simp [h]
  rw [rr, e, if_pos ⟨h1, h2⟩]
theorem rr_no {ks : List Int} {k : Nat} (h : k < ks.length) (h1 : ¬ (qn ks.length ≤ ge ks ks[k] ∧ ((rr ks k).1 = false ∨ (rr ks k).2 < ks[k]))) : rr ks (k + 1) = rr ks k := by
  have e : ks.getD k 0 = ks[k] := by simp [h]
  rw [rr, e, if_neg h1]
set_option maxHeartbeats 4000000 in
set_option maxRecDepth 100000 in
theorem rreached_any (ks : List Int) (v : Value) (w : World) (hv : Ks w v ks) (hl : ks.length ≤ 17592186044416) : Calls Try.prog 20 #[v] w fun e w' => e = .returned (.int .i64 (rch ks)) ∧ Below w.heap.size w w' := by
  obtain ⟨p, cap, rfl, hc1, hc2⟩ := hv.form
  have HV := hid_in hv
  have k1 : (ks.length : Int) ≤ 9223372036854775807 := by omega
  have HQ := hid_in (fun (h : 0 < ks.length) => (quo_nat h ▸ rquorum_any (ks.length : Int) ⟨by omega, by omega⟩ : ∀ w : World, Calls Try.prog 12 #[.int .i64 (ks.length : Int)] w fun e w' => e = .returned (.int .i64 ((qn ks.length : Nat) : Int)) ∧ w' = w))
  have HE : Hid ((rr ks ks.length).2 = rch ks) := hid_in (by
    by_cases h : ks = []
    · subst h; simp [rr, rch, srt]
    · exact rr_is h)
  clear hv hc1 hc2 hl
  go_enter Try.func20, Try.ntmps20
  go_wp2_with fail
  go_loopg [3, 4, 5] ks.length (fun g vb vf vi W => ∃ k : Nat, g + k = ks.length ∧ vi = .int .i64 (k : Int) ∧ vb = .int .i64 (rr ks k).2 ∧ vf = .bool (rr ks k).1 ∧ Hid (Below w.heap.size w W))
  case atStart => exact ⟨0, by omega, rfl, rfl, rfl, Below.refl _ _⟩
  case round =>
    obtain ⟨k, hg, rfl, rfl, rfl, hB⟩ := hrel
    by_cases hlt : k < ks.length
    · obtain ⟨b, o, rfl, m0⟩ := (HV.out.below hB.out).at (List.getElem?_eq_getElem hlt)
      have HY := hid_in (rr_yes hlt)
      have HN := hid_in (rr_no hlt)
      have HQ2 := hid_in (HQ.out (by omega))
      have HG : Hid (ge (ks.take ks.length) ks[k] = ge ks ks[k]) := hid_in (by rw [List.take_length])
      have HGL : Hid (ge ks ks[k] ≤ ks.length) := hid_in List.countP_le_length
      generalize hxe : ks[k] = x at *
      generalize hre : rr ks k = r at *
      obtain ⟨rf, rb⟩ := r
      clear hxe hre HQ
      dsimp only at *
      generalize wr = wo at *
      go_upto_region 8 with fail
      go_loopg [6, 7] ks.length (fun g2 vn vk W => ∃ j : Nat, g2 + j = ks.length ∧ vk = .int .i64 (j : Int) ∧ vn = .int .i64 ((ge (ks.take j) x : Nat) : Int) ∧ Hid (ge (ks.take j) x ≤ j) ∧ Hid (Below wo.heap.size wo W))
      case atStart => exact ⟨0, by omega, rfl, rfl, by simp [ge]; exact trivial, Below.refl _ _⟩
      case round =>
        obtain ⟨j, hg2, rfl, rfl, hj, hB2⟩ := hrel
        by_cases hlj : j < ks.length
        · obtain ⟨b', o', hbo, n0⟩ := (HV.out.below (hB.out.trans (hB2.out.mono hB.out.size))).at (List.getElem?_eq_getElem hlj)
          injection hbo with hbo
          injection hbo with hb1 ho1
          subst hb1 ho1
          have HS : Hid (ge (ks.take (j + 1)) x = ge (ks.take j) x + if x ≤ ks[j] then 1 else 0) := hid_in (by rw [List.take_succ_eq_append_getElem hlj, ge_snoc])
          have m1 : wr.cell? ⟨b, o + k, none⟩ = some (.int .i64 x) := by rw [hB2.out.cell (World.block_lt_of_cell? _ _ m0)]; exact m0
          generalize ks[j] = y at *
          have hj' := hj.out
          generalize hc : ge (ks.take j) x = c at *
          clear hc
          by_cases hxy : x ≤ y
          · rw [if_pos hxy] at HS
            go_upto_region 10 with fail
            go_region
            go_wp2_with fail
            go_roundg (ks.length - (j + 1))
            case measure => omega
            case rel => exact ⟨j + 1, by omega, by go_num, by rw [HS.out]; go_num, by rw [HS.out]; exact hid_in (by omega), hB2.out.trans ((Below.refl _ _).drew.mono hB2.out.size)⟩
          · rw [if_neg hxy] at HS
            go_upto_region 10 with fail
            go_region
            go_wp2_with fail
            go_roundg (ks.length - (j + 1))
            case measure => omega
            case rel => exact ⟨j + 1, by omega, by go_num, by rw [HS.out]; rfl, by rw [HS.out]; exact hid_in (by omega), hB2.out.trans ((Below.refl _ _).drew.mono hB2.out.size)⟩
        · obtain rfl : j = ks.length := by omega
          have m1 : wr.cell? ⟨b, o + k, none⟩ = some (.int .i64 x) := by rw [hB2.out.cell (World.block_lt_of_cell? _ _ m0)]; exact m0
          rw [HG.out]
          have hgl := HGL.out
          generalize ge ks x = c at *
          by_cases c1 : qn ks.length ≤ c
          · cases rf with
            | false =>
              have HZ := hid_in (HY.out c1 (.inl rfl))
              generalize qn ks.length = q at *
              clear HY HN
              go_wp2_with (first | (go_at_call 12; refine (HQ2.out _).mono ?_; rintro e w3 ⟨rfl, rfl⟩))
              go_roundg (ks.length - (k + 1))
              case measure => omega
              case rel => exact ⟨k + 1, by omega, by go_num, by rw [HZ.out], by rw [HZ.out], hB.out.trans (hB2.out.mono hB.out.size)⟩
            | true =>
              by_cases c2 : rb < x
              · have HZ := hid_in (HY.out c1 (.inr c2))
                generalize qn ks.length = q at *
                clear HY HN
                go_wp2_with (first | (go_at_call 12; refine (HQ2.out _).mono ?_; rintro e w3 ⟨rfl, rfl⟩))
                go_roundg (ks.length - (k + 1))
                case measure => omega
                case rel => exact ⟨k + 1, by omega, by go_num, by rw [HZ.out], by rw [HZ.out], hB.out.trans (hB2.out.mono hB.out.size)⟩
              · have HZ := hid_in (HN.out (fun h => h.2.elim (fun h3 => by cases h3) c2))
                generalize qn ks.length = q at *
                clear HY HN
                go_wp2_with (first | (go_at_call 12; refine (HQ2.out _).mono ?_; rintro e w3 ⟨rfl, rfl⟩))
                go_roundg (ks.length - (k + 1))
                case measure => omega
                case rel => exact ⟨k + 1, by omega, by go_num, by rw [HZ.out], by rw [HZ.out], hB.out.trans (hB2.out.mono hB.out.size)⟩
          · have HZ := hid_in (HN.out (fun h => c1 h.1))
            generalize qn ks.length = q at *
            clear HY HN
            go_wp2_with (first | (go_at_call 12; refine (HQ2.out _).mono ?_; rintro e w3 ⟨rfl, rfl⟩))
            go_roundg (ks.length - (k + 1))
            case measure => omega
            case rel => exact ⟨k + 1, by omega, by go_num, by rw [HZ.out], by rw [HZ.out], hB.out.trans (hB2.out.mono hB.out.size)⟩
    · obtain rfl : k = ks.length := by omega
      rw [HE.out]
      go_wp2_with fail
      go_ret
      exact ⟨rfl, hB.out⟩
end Go.Proofs.Ytpmakigmhcjegaa.Vw
namespace Go.Proofs.Ytpmakigmhcjegaa.Vw
open Go.RowKit
open Nd (Row wp_world u8v Grew Sl hid_in)
def v3 : List Vt := [⟨0, 2, 5⟩, ⟨1, 3, 1⟩, ⟨2, 3, 4⟩]
theorem votes3 (w : World) : Es (w.alloc (.cells #[.int .i64 0, .int .i64 2, .int .i64 5, .int .i64 1, .int .i64 3, .int .i64 1, .int .i64 2, .int .i64 3, .int .i64 4] 31)) (.slice (some ⟨w.heap.size, 0, none⟩) 3 3) v3 :=
  (show EO _ w.heap.size _ v3 from ⟨rfl, .inr ⟨w.heap.size, 3, _, rfl, Nat.le_refl _, (MapKept.heap_alloc w _).1, Nat.le_refl _, by unfold maxLen; omega, rfl, rfl⟩⟩).es
theorem acks3 (w : World) : Ks (w.alloc (.cells #[.int .i64 5, .int .i64 9, .int .i64 7] 2)) (.slice (some ⟨w.heap.size, 0, none⟩) 3 3) [5, 9, 7] :=
  (show KO _ w.heap.size _ [5, 9, 7] from ⟨rfl, .inr ⟨w.heap.size, 3, _, rfl, Nat.le_refl _, (MapKept.heap_alloc w _).1, Nat.le_refl _, by unfold maxLen; omega, rfl, rfl⟩⟩).ks
theorem bst3 : bst v3 v3.length = 2 := by decide
theorem rch3 : rch [5, 9, 7] = 7 := by
  rw [← rr_is (by simp)]
  decide
set_option maxHeartbeats 1000000 in
theorem awake_any (w : World) : Calls Try.prog 8 #[] w fun e w' => e = .returned (.bool true) ∧ Below w.heap.size w w' := by
  have H1 : Hid (∀ w : World, Calls Try.prog 9 #[.int .i64 7, .int .i64 3] w fun e w' => e = .returned (.int .i64 1) ∧ w' = w) := primary_any 7 3 (by constructor <;> decide) (by constructor <;> decide)
  have H2 : Hid (∀ w : World, Calls Try.prog 11 #[.int .i64 5] w fun e w' => e = .returned (.int .i64 3) ∧ w' = w) := quorum_any 5 (by constructor <;> decide)
  have H3 : Hid (∀ w : World, Calls Try.prog 13 #[.int .i64 2] w fun e w' => e = .returned (.int .i64 12) ∧ w' = w) := wait_any 2 (by constructor <;> decide)
  have H4 : Hid (∀ w : World, Calls Try.prog 15 #[.int .i64 7, .int .i64 1, .int .i64 3] w fun e w' => e = .returned (.int .i64 10) ∧ w' = w) := next_any 7 1 3 (by constructor <;> decide) (by constructor <;> decide) (by constructor <;> decide)
  have H5 := hid_in (fun w => bst3 ▸ best_any v3 _ _ (votes3 w))
  have H6 := hid_in (fun w => rch3 ▸ reached_any [5, 9, 7] _ _ (acks3 w) (by decide))
  go_enter Try.func8, Try.ntmps8
  go_wp2_with (first | (go_at_call 9; refine (H1.out _).mono ?_; rintro e w2 ⟨rfl, rfl⟩) | (go_at_call 11; refine (H2.out _).mono ?_; rintro e w2 ⟨rfl, rfl⟩) | (go_at_call 13; refine (H3.out _).mono ?_; rintro e w2 ⟨rfl, rfl⟩) | (go_at_call 15; refine (H4.out _).mono ?_; rintro e w2 ⟨rfl, rfl⟩) | (go_at_call 17; refine (H5.out _).mono ?_; rintro e w2 ⟨rfl, hb2⟩; have HB2 := hid_in (((Below.refl _ _).alloc (Nat.le_refl _) _).trans (hb2.mono (by simp))); clear hb2) | (go_at_call 19; refine (H6.out _).mono ?_; rintro e w3 ⟨rfl, hb3⟩; have HB3 := hid_in (HB2.out.trans ((((Below.refl _ _).alloc (Nat.le_refl _) _).trans (hb3.mono (by simp))).mono HB2.out.size)); clear hb3))
  go_ret
  exact ⟨rfl, HB3.out⟩
end Go.Proofs.Ytpmakigmhcjegaa.Vw
namespace Go.Proofs.Ytpmakigmhcjegaa.Vw
open Go.RowKit
open Nd (Row wp_world u8v Grew Sl hid_in)
/-- the votes, begun s further on -/
def rot {α : Type} (z : α) (vs : List α) (s : Nat) : List α := (List.range vs.length).map fun j => vs.getD ((j + s) % vs.length) z
theorem rot_len {α : Type} (z : α) (vs : List α) (s : Nat) : (rot z vs s).length = vs.length := by simp [rot]
theorem rot_get {α : Type} (z : α) (vs : List α) (s j : Nat) (h : j < vs.length) : (rot z vs s)[j]'(by rw [rot_len]; exact h) = vs[(j + s) % vs.length]'(Nat.mod_lt _ (by omega)) := by
  have h2 := Nat.mod_lt (j + s) (show 0 < vs.length by omega)
  simp [rot, h2]
end Go.Proofs.Ytpmakigmhcjegaa.Vw
namespace Go.Proofs.Ytpmakigmhcjegaa.Vw
open Go.RowKit
open Nd (Row wp_world u8v Grew Sl hid_in)
theorem take_rot {α : Type} (z : α) (vs : List α) (s i : Nat) (h : i < vs.length) : (rot z vs s).take (i + 1) = (rot z vs s).take i ++ [vs[(i + s) % vs.length]'(Nat.mod_lt _ (by omega))] := by
  rw [List.take_succ_eq_append_getElem (by rw [rot_len]; exact h), rot_get z vs s i h]
theorem turn_shift (turn : Int) {n : Nat} (hn : 0 < n) : ∃ s : Nat, (IntKind.u64.wrap turn).tmod (n : Int) = (s : Int) ∧ Hid (s < n) := by
  have h : 0 ≤ IntKind.u64.wrap turn := by simp [IntKind.wrap, IntKind.bits, IntKind.signed]; omega
  have e : (IntKind.u64.wrap turn).tmod (n : Int) = IntKind.u64.wrap turn % (n : Int) := Int.tmod_eq_emod_of_nonneg h
  have h1 := Int.emod_nonneg (IntKind.u64.wrap turn) (show (n : Int) ≠ 0 by omega)
  have h2 := Int.emod_lt_of_pos (IntKind.u64.wrap turn) (show (0 : Int) < (n : Int) by omega)
  exact ⟨(IntKind.u64.wrap turn % (n : Int)).toNat, by omega, hid_in (by omega)⟩
theorem shift_nums {i s n : Nat} (hi : i < n) (hs : s < n) (hn : n ≤ 17592186044416) : wrap64 (s : Int) = (s : Int) ∧ wrap64 ((i : Int) + (s : Int)) = (i : Int) + (s : Int) ∧ ((i : Int) + (s : Int)).tmod (n : Int) = (((i + s) % n : Nat) : Int) ∧ (((i + s) % n : Nat) : Int) < (n : Int) := by
  refine ⟨by unfold wrap64; omega, by unfold wrap64; omega, ?_, by have := Nat.mod_lt (i + s) (show 0 < n by omega); omega⟩
  rw [Int.tmod_eq_emod_of_nonneg (by omega)]
  simp
end Go.Proofs.Ytpmakigmhcjegaa.Vw
namespace Go.Proofs.Ytpmakigmhcjegaa.Vw
open Go.RowKit
open Nd (Row wp_world u8v Grew Sl hid_in)
theorem rot_app {α : Type} (z : α) (vs : List α) (s : Nat) (hs : s < vs.length) : rot z vs s = vs.drop s ++ vs.take s := by
  apply List.ext_getElem
  · rw [rot_len, List.length_append, List.length_drop, List.length_take]; omega
  · intro j h1 h2
    rw [rot_len] at h1
    rw [rot_get z vs s j h1]
    by_cases h : j + s < vs.length
    · rw [List.getElem_append_left (by rw [List.length_drop]; omega), List.getElem_drop]
      congr 1
      rw [Nat.mod_eq_of_lt h, Nat.add_comm]
    · rw [List.getElem_append_right (by rw [List.length_drop]; omega), List.getElem_take]
      congr 1
      rw [Nat.mod_eq_sub_mod (by omega), Nat.mod_eq_of_lt (by omega), List.length_drop]
      omega
theorem rot_perm {α : Type} (z : α) (vs : List α) (s : Nat) (hs : s < vs.length) : (rot z vs s).Perm vs := by
  rw [rot_app z vs s hs]
  exact List.perm_append_comm.trans (by rw [List.take_append_drop])
theorem gt_snoc (l : List Int) (y x : Int) : gt (l ++ [y]) x = gt l x + if x < y then 1 else 0 := by
  rw [gt_app]
  congr 1
  by_cases h : x < y
  · rw [if_pos h]; simp [gt, h]
  · rw [if_neg h]; simp [gt, h]
theorem one2 (w : World) (e : Int) : ∃ W, Hid (w.alloc (.cells #[.int .i64 e] 2) = W) ∧ Hid (Ks W (.slice (some ⟨w.heap.size, 0, none⟩) 1 1) [e]) ∧ Hid (Below w.heap.size w W) :=
  ⟨_, rfl, (show KO _ w.heap.size _ [e] from ⟨rfl, .inr ⟨w.heap.size, 1, _, rfl, Nat.le_refl _, (MapKept.heap_alloc w _).1, Nat.le_refl _, by unfold maxLen; omega, rfl, rfl⟩⟩).ks, (Below.refl _ _).alloc (Nat.le_refl _) _⟩
set_option maxHeartbeats 4000000 in
set_option maxRecDepth 100000 in
theorem vreached_any (ks : List Int) (v : Value) (turn : Int) (w : World) (hv : Ks w v ks) (ht : ir turn) (hl : ks.length ≤ 17592186044416) : Calls Try.prog 6 #[v, .int .i64 turn] w fun e w' => e = .returned (.bool true) ∧ Below w.heap.size w w' := by
  obtain ⟨p, cap, rfl, hc1, hc2⟩ := hv.form
  have H0 := hid_in awake_any
  have HV := hid_in hv
  have HL := hid_in hl
  obtain ⟨t1, t2⟩ := ht
  have k1 : (ks.length : Int) ≤ 17592186044416 := by omega
  have HC1 := hid_in (fun (W : World) (h : Below w.heap.size w W) => reached_any ks _ W (HV.out.below h) HL.out)
  have HC2 := hid_in (fun (W : World) (h : Below w.heap.size w W) => rreached_any ks _ W (HV.out.below h) HL.out)
  by_cases hne : ks = []
  · subst hne
    have e0 : rch [] = 0 := by simp [rch, srt]
    rw [e0] at HC1 HC2
    simp only [List.length_nil] at *
    clear hv hc1 hc2 hl HL k1
    have HC3 := hid_in (fun (W : World) => reached_any [] _ W (Ks.nil W) (by simp))
    rw [e0] at HC3
    clear e0
    go_enter Try.func6, Try.ntmps6
    go_upto_region 10 with (first | (go_at_call 8; refine (H0.out _).mono ?_; rintro e w2 ⟨rfl, hb2⟩; have HB2 := hid_in hb2; clear hb2) | (go_at_call 19; refine (HC1.out _ HB2.out).mono ?_; rintro e w3 ⟨rfl, hb3⟩; have HB3 := hid_in (HB2.out.trans (hb3.mono HB2.out.size)); clear hb3) | (go_at_call 20; refine (HC2.out _ HB3.out).mono ?_; rintro e w4 ⟨rfl, hb4⟩; have HB4 := hid_in (HB3.out.trans (hb4.mono HB3.out.size)); clear hb4))
    refine wp_loop_rounds 1 ?_
    rw [rounds_succ]
    go_wp2_with (first | (go_at_call 19; refine (HC3.out _).mono ?_; rintro e w5 ⟨rfl, hb5⟩; have HB5 := hid_in (HB4.out.trans (hb5.mono HB4.out.size)); clear hb5))
    go_ret
    exact ⟨rfl, HB5.out⟩
  have hp : 0 < ks.length := List.length_pos_iff.2 hne
  have k2 : (0 : Int) < (ks.length : Int) := by omega
  have k3 : ((ks.length : Int) == 0) = false := by rw [beq_eq_false_iff_ne]; omega
  have HQ := hid_in (quorum_any (ks.length : Int) ⟨by omega, by omega⟩)
  rw [quo_nat hp] at HQ
  obtain ⟨_, r2, r3⟩ := rch_is hne
  have HR2 := hid_in r2
  have HR3 := hid_in r3
  have HRP := hid_in (fun s hs => rch_perm (rot_perm (0 : Int) ks s hs).symm hne)
  obtain ⟨x, HX⟩ : ∃ x, Hid (rch ks = x) := ⟨_, hid_in rfl⟩
  rw [HX.out] at HC1 HC2 HR2 HR3 HRP
  clear hv hc1 hc2 hl r2 r3 HX hne
  go_enter Try.func6, Try.ntmps6
  go_upto_region 10 with (first | (go_at_call 8; refine (H0.out _).mono ?_; rintro e w2 ⟨rfl, hb2⟩; have HB2 := hid_in hb2; clear hb2) | (go_at_call 19; refine (HC1.out _ HB2.out).mono ?_; rintro e w3 ⟨rfl, hb3⟩; have HB3 := hid_in (HB2.out.trans (hb3.mono HB2.out.size)); clear hb3) | (go_at_call 20; refine (HC2.out _ HB3.out).mono ?_; rintro e w4 ⟨rfl, hb4⟩; have HB4 := hid_in (HB3.out.trans (hb4.mono HB3.out.size)); clear hb4))
  obtain ⟨s, hs1, HS⟩ := turn_shift turn hp
  clear HB2 HB3 HC1 HC2 H0
  go_loopg [6, 7, 8, 9] ks.length (fun g vh vm vo vi W => ∃ i : Nat, g + i = ks.length ∧ vi = .int .i64 (i : Int) ∧ vh = .int .i64 ((ge (ks.take i) x : Nat) : Int) ∧ vm = .int .i64 ((gt (ks.take i) x : Nat) : Int) ∧ Hid (ge (ks.take i) x ≤ i ∧ gt (ks.take i) x ≤ i) ∧ Hid (KO W w4.heap.size vo ((rot 0 ks s).take i)) ∧ Hid (Below w4.heap.size w4 W))
  case atStart => exact ⟨0, by omega, rfl, by simp [ge], by simp [gt], hid_in ⟨by simp [ge], by simp [gt]⟩, KO.nil _ _, Below.refl _ _⟩
  case round =>
    obtain ⟨i, hg, rfl, rfl, rfl, hgg, ho, hb⟩ := hrel
    by_cases hlt : i < ks.length
    · obtain ⟨b, o, rfl, m0⟩ := (HV.out.below (HB4.out.trans (hb.out.mono HB4.out.size))).at (List.getElem?_eq_getElem hlt)
      have HS1 : Hid (ge (ks.take (i + 1)) x = ge (ks.take i) x + if x ≤ ks[i] then 1 else 0) := hid_in (by rw [List.take_succ_eq_append_getElem hlt, ge_snoc])
      have HS2 : Hid (gt (ks.take (i + 1)) x = gt (ks.take i) x + if x < ks[i] then 1 else 0) := hid_in (by rw [List.take_succ_eq_append_getElem hlt, gt_snoc])
      have hs3 := HS.out
      obtain ⟨e1, e2, e3, e4⟩ := shift_nums hlt hs3 HL.out
      have hm : (i + s) % ks.length < ks.length := Nat.mod_lt _ hp
      have HT := hid_in (take_rot 0 ks s i hlt)
      obtain ⟨b3, o3, hbo, n0⟩ := (HV.out.below (HB4.out.trans (hb.out.mono HB4.out.size))).at (List.getElem?_eq_getElem hm)
      injection hbo with hbo
      injection hbo with hb1 ho1
      subst hb1 ho1
      obtain ⟨g1, g2⟩ := hgg.out
      generalize ks[(i + s) % ks.length] = y at *
      generalize hmm : (i + s) % ks.length = m at *
      generalize ks[i] = z at *
      generalize hge : ge (ks.take i) x = a at *
      generalize hgt : gt (ks.take i) x = c at *
      obtain ⟨W7, HW7, HO7, HB7⟩ := one2 wr y
      have HOW := hid_in (ho.out.below HB7.out)
      have HBW := hid_in (hb.out.trans (HB7.out.mono hb.out.size))
      have HLI := hid_in (show ((rot 0 ks s).take i).length + 1 ≤ 17592186044416 by rw [List.length_take, rot_len]; have := HL.out; omega)
      have hw7 := HW7.out
      subst hw7
      clear HW7 hmm hge hgt ho
      by_cases c1 : x ≤ z
      · rw [if_pos c1] at HS1
        by_cases c2 : x < z
        · rw [if_pos c2] at HS2
          go_wp2_with (first | (at_builtin; refine wpList_appK w4.heap.size rfl (.tmp 40) (.tmp 56) rfl _ _ [y] rfl HOW.out _ rfl HO7.out HLI.out HBW.out.size ?_; intro v8 w8 hn8 hg8; have HN8 := hid_in hn8; have HB8 := hid_in (HBW.out.grown hg8 HBW.out.size (fun k e => (KO.lt HOW.out k e).1)); clear hn8 hg8))
          go_roundg (ks.length - (i + 1))
          case measure => omega
          case rel => exact ⟨i + 1, by omega, by go_num, by rw [HS1.out]; go_num, by rw [HS2.out]; go_num, by rw [HS1.out, HS2.out]; exact hid_in ⟨by omega, by omega⟩, by rw [HT.out]; exact HN8, HB8⟩
        · rw [if_neg c2] at HS2
          go_wp2_with (first | (at_builtin; refine wpList_appK w4.heap.size rfl (.tmp 40) (.tmp 56) rfl _ _ [y] rfl HOW.out _ rfl HO7.out HLI.out HBW.out.size ?_; intro v8 w8 hn8 hg8; have HN8 := hid_in hn8; have HB8 := hid_in (HBW.out.grown hg8 HBW.out.size (fun k e => (KO.lt HOW.out k e).1)); clear hn8 hg8))
          go_roundg (ks.length - (i + 1))
          case measure => omega
          case rel => exact ⟨i + 1, by omega, by go_num, by rw [HS1.out]; go_num, by rw [HS2.out]; rfl, by rw [HS1.out, HS2.out]; exact hid_in ⟨by omega, by omega⟩, by rw [HT.out]; exact HN8, HB8⟩
      · rw [if_neg c1] at HS1
        rw [if_neg (by omega)] at HS2
        have c2 : ¬ x < z := by omega
        go_wp2_with (first | (at_builtin; refine wpList_appK w4.heap.size rfl (.tmp 40) (.tmp 56) rfl _ _ [y] rfl HOW.out _ rfl HO7.out HLI.out HBW.out.size ?_; intro v8 w8 hn8 hg8; have HN8 := hid_in hn8; have HB8 := hid_in (HBW.out.grown hg8 HBW.out.size (fun k e => (KO.lt HOW.out k e).1)); clear hn8 hg8))
        go_roundg (ks.length - (i + 1))
        case measure => omega
        case rel => exact ⟨i + 1, by omega, by go_num, by rw [HS1.out]; rfl, by rw [HS2.out]; rfl, by rw [HS1.out, HS2.out]; exact hid_in ⟨by omega, by omega⟩, by rw [HT.out]; exact HN8, HB8⟩
    · obtain rfl : i = ks.length := by omega
      have ht2 : (rot 0 ks s).take ks.length = rot 0 ks s := List.take_of_length_le (by rw [rot_len]; omega)
      have hul := rot_len (0 : Int) ks s
      have hrp := HRP.out s HS.out
      rw [ht2] at ho
      rw [List.take_length]
      have j1 := HR2.out
      have j2 := HR3.out
      have HBU := hid_in (reached_any _ _ wr ho.out.ks (by rw [hul]; exact HL.out))
      rw [← hrp] at HBU
      generalize ge ks x = a at *
      generalize gt ks x = c at *
      generalize qn ks.length = q at *
      clear hrp ht2 hul hgg
      go_wp2_with (first | (go_at_call 19; refine HBU.out.mono ?_; rintro e w9 ⟨rfl, hb9⟩; have HB9 := hid_in hb9; clear hb9) | (go_at_call 11; refine (HQ.out _).mono ?_; rintro e w10 ⟨rfl, rfl⟩))
      go_ret
      exact ⟨rfl, HB4.out.trans ((hb.out.trans (HB9.out.mono hb.out.size)).mono HB4.out.size)⟩
end Go.Proofs.Ytpmakigmhcjegaa.Vw
namespace Go.Proofs.Ytpmakigmhcjegaa.Vw
open Go.RowKit
open Nd (Row wp_world u8v Grew Sl hid_in)
/-- a value that reads as truth values -/
def Bs (w : World) (v : Value) (lb : List Bool) : Prop := ∃ p cap b o, v = .slice p lb.length cap ∧ (lb ≠ [] → p = some ⟨b, o, none⟩ ∧ b < w.heap.size) ∧ (∀ (j : Nat) u, lb[j]? = some u → w.cell? ⟨b, o + j, none⟩ = some (.bool u))
theorem Bs.below {w w' : World} {v : Value} {lb : List Bool} (h : Bs w v lb) (hb : Below w.heap.size w w') : Bs w' v lb := by
  obtain ⟨p, cap, b, o, rfl, h4, h5⟩ := h
  refine ⟨p, cap, b, o, rfl, fun he => ⟨(h4 he).1, Nat.lt_of_lt_of_le (h4 he).2 hb.size⟩, fun j u hj => ?_⟩
  have hne : lb ≠ [] := by rintro rfl; simp at hj
  rw [hb.cell (p := ⟨b, _, none⟩) (h4 hne).2]
  exact h5 j u hj
theorem Bs.form {w : World} {v : Value} {lb : List Bool} (h : Bs w v lb) : ∃ p cap, v = .slice p lb.length cap := by
  obtain ⟨p, cap, _, _, h1, _⟩ := h
  exact ⟨p, cap, h1⟩
theorem Bs.at {w : World} {n c : Nat} {p : Option Addr} {lb : List Bool} (h : Bs w (.slice p n c) lb) {i : Nat} {e : Bool} (hi : lb[i]? = some e) : ∃ b o, p = some ⟨b, o, none⟩ ∧ w.cell? ⟨b, o + i, none⟩ = some (.bool e) := by
  obtain ⟨p', cap, b, o, h1, h4, h5⟩ := h
  simp only [Value.slice.injEq] at h1
  obtain ⟨rfl, rfl, rfl⟩ := h1
  have hne : lb ≠ [] := by rintro rfl; simp at hi
  exact ⟨b, o, (h4 hne).1, h5 _ _ hi⟩
end Go.Proofs.Ytpmakigmhcjegaa.Vw
namespace Go.Proofs.Ytpmakigmhcjegaa.Vw
open Go.ChangeShapes Go.WideShapes Go.ChangeAt Go.RowKit Go.Deep
theorem tcells2 : Try.prog.cellsOf 2 = 1 := by kernel_rfl
theorem tbytes2 : Try.prog.bytesOf 2 = 8 := by kernel_rfl
/-- a row of elements of k cells each that comes in -/
theorem row_in {H : Type} {enc : TypeId × Value → H} {W : World} {t e k : Nat} {len cap : Nat} {a : Option Addr} {d : DataW H} {p : List MemPlace} (ht : Try.prog.underlying t = some (.slice e)) (hk : Try.prog.cellsOf e = k) (hk0 : 0 < k)
    {α : Type} [Inhabited α] (cell : α → List Value) (hc : ∀ x, (cell x).length = k) (one : ∀ fuel cs d p, DataW.trod enc Try.prog W 0 (fun _ => true) true fuel e cs = some (d, p) → ∃ x, cs = cell x)
    (h : DataW.Trod enc Try.prog W 0 (fun _ => true) true t (.slice a len cap) d p) :
    ∃ (xs : List α) (b o : Nat), xs.length = len ∧ len ≤ cap ∧ cap ≤ 9223372036854775807 ∧ (xs ≠ [] → a = some ⟨b, o, none⟩ ∧ b < W.heap.size) ∧ (∀ (i : Nat) x, xs[i]? = some x → ∀ (y : Nat) u, (cell x)[y]? = some u → W.cell? ⟨b, o + i * k + y, none⟩ = some u) ∧ (a = none → xs = [] ∧ cap = 0) ∧ ((d = .nil ∧ len = 0) ∨ ∃ es sp, d = .slice es sp ∧ es.length = len) := by
  obtain ⟨fuel, hf⟩ := h
  rcases open_slice ht hf with ⟨hcs, hx⟩ | ⟨x, l, c, m, n, D, Pl, hcs, _, hl, hm, hmm, hx, hr⟩
  · simp [Value.cells] at hcs
    obtain ⟨rfl, rfl, rfl⟩ := hcs
    simp only [Prod.mk.injEq] at hx
    exact ⟨[], 0, 0, rfl, Nat.le_refl _, by decide, fun h => absurd rfl h, fun i x h => by simp at h, fun _ => ⟨rfl, rfl⟩, .inl ⟨hx.1, rfl⟩⟩
  · simp [Value.cells] at hcs
    obtain ⟨rfl, rfl, rfl⟩ := hcs
    simp only [if_true] at hmm
    subst hmm
    simp only [Prod.mk.injEq] at hx
    rw [hk] at hr
    have each : ∀ r, r < len → ∃ e : α, ∀ (j : Nat) u, (cell e)[j]? = some u → W.cell? ((x.add (r * k)).add j) = some u := by
      intro r hlt
      obtain ⟨cs', h1, h2⟩ := hr r (by omega)
      obtain ⟨_, hlen, hcell⟩ := World.cells?_some h1
      obtain ⟨e, rfl⟩ := one _ _ _ _ h2
      refine ⟨e, fun j u hj => ?_⟩
      have hjk : j < k := by have := (List.getElem?_eq_some_iff.1 hj).1; rw [hc] at this; exact this
      rw [hcell j hjk]
      exact hj
    obtain ⟨y, hy⟩ := choose_lt each
    have hcap : m ≤ 9223372036854775807 := by unfold maxLen at hm; omega
    obtain ⟨b, o, hpx⟩ : ∃ b o, 0 < len → x = ⟨b, o, none⟩ ∧ b < W.heap.size := by
      by_cases h0 : 0 < len
      · have hc0 := hy 0 h0 0 ((cell (y 0))[0]'(by rw [hc]; exact hk0)) (List.getElem?_eq_getElem _)
        obtain ⟨b', o', sp⟩ := x
        have hspot : sp = none := by simpa [Addr.add] using World.cell?_spot hc0
        subst hspot
        rw [Addr.add_mid, Addr.add_mid] at hc0
        exact ⟨b', o', fun _ => ⟨rfl, World.block_lt_of_cell? W _ hc0⟩⟩
      · exact ⟨0, 0, fun h => absurd h h0⟩
    refine ⟨(List.range len).map y, b, o, by simp, hl, hcap, fun h => ?_, fun i z hi q u hu => ?_, fun h => (by cases h), .inr ⟨_, _, hx.1, by simp⟩⟩
    · have h0 : 0 < len := by
        rcases Nat.eq_zero_or_pos len with h1 | h1
        · subst h1; exact absurd rfl h
        · exact h1
      exact ⟨by rw [(hpx h0).1], (hpx h0).2⟩
    · have hlt : i < len := by have := (List.getElem?_eq_some_iff.1 hi).1; simpa using this
      simp [hlt] at hi
      subst hi
      have h2 := hy i hlt q u hu
      rw [(hpx (by omega)).1, Addr.add_mid, Addr.add_mid] at h2
      exact h2
theorem reach_of {H : Type} {d : DataW H} {len t e n : Nat} (hd : (d = .nil ∧ len = 0) ∨ ∃ es sp, d = .slice es sp ∧ es.length = len) {ts : List TypeId} {ds : List (DataW H)} (hu : Try.prog.underlying t = some (.slice e)) (hb : Try.prog.bytesOf e = n)
    (hsz : (DataW.weightsEach Try.prog ts ds).all (· ≤ reachBytes) = true) (j : Nat) (ht : ts[j]? = some t) (hj : ds[j]? = some d) : len * n ≤ 140737488351232 := by
  rcases hd with ⟨_, rfl⟩ | ⟨es, sp, rfl, rfl⟩
  · omega
  · have h := sized_slice hsz ht hj hu
    rw [hb] at h
    unfold reachBytes at h
    exact Nat.le_trans (Nat.mul_le_mul_right _ (by omega)) h
theorem num_in {H : Type} {enc : TypeId × Value → H} {W : World} (fuel : Nat) (cs : List Value) (d : DataW H) (p : List MemPlace) (hf : DataW.trod enc Try.prog W 0 (fun _ => true) true fuel 2 cs = some (d, p)) : ∃ x : Int, cs = [.int .i64 x] := by
  obtain ⟨A, e0, _, hA⟩ := DataW.trod_int Try.underlying2 hf
  exact ⟨A, e0⟩
theorem acks_in {H : Type} {enc : TypeId × Value → H} {W : World} {a : Option Addr} {len cap : Nat} {d : DataW H} {p : List MemPlace} (h : DataW.Trod enc Try.prog W 0 (fun _ => true) true 34 (.slice a len cap) d p)
    {ts : List TypeId} {ds : List (DataW H)} (hsz : (DataW.weightsEach Try.prog ts ds).all (· ≤ reachBytes) = true) (j : Nat) (ht : ts[j]? = some 34) (hj : ds[j]? = some d) : ∃ ks, Ks W (.slice a len cap) ks ∧ ks.length ≤ 17592186044416 := by
  obtain ⟨xs, b, o, rfl, h1, h2, h3, h4, h5, h6⟩ := row_in Try.underlying34 tcells2 (by decide) (fun x : Int => [Value.int .i64 x]) (fun _ => rfl) num_in h
  have h7 := reach_of h6 Try.underlying34 tbytes2 hsz j ht hj
  refine ⟨xs, ⟨a, cap, b, o, rfl, h1, h2, h3, fun j u hj => ?_, h5⟩, by omega⟩
  have := h4 j u hj 0 _ rfl
  rw [Nat.mul_one, Nat.add_zero] at this
  exact this
end Go.Proofs.Ytpmakigmhcjegaa.Vw
