/-
  What most have reached: plain facts on a list in order. slices.Sort at the numbers' type, laid at this program: what it makes of a row of numbers. Reached: numbers are cloned, put in order, and one is looked at. The answers that the document fixes. ViewMeets. What comes in: votes, numbers, truth values.
-/
import Derived.Lib.SlBytesConst
import Derived.Lib.AppendZeros
import Derived.Deep.DrawnRows
import Derived.Deep.RegionLaw
import Derived.OwnWalk
import Derived.Laws.Tables
import Derived.Laws.CopyOwn
import Derived.Laws.StructEq
import Derived.Shelf.SortM.Plain
import Derived.Ground.SlgmProg
import Derived.Test.YtpmakigmhcjegaaRows
import Derived.Sort.OwnSortedInts
import Derived.Deep.LoopGhost
import Derived.ProofKit
import Derived.OpenShut
import Derived.ShutString
import Derived.ChangeOld
import Derived.Deep.DeepHandedRow
import Derived.SizedLaws
import Derived.Lib.LaidTab
import Derived.Deep.Matrix
import Derived.Deep.Slices
import Derived.Test.YtpmakigmhcjegaaG00
import Derived.Test.YtpmakigmhcjegaaG01
namespace Go.Proofs.Ytpmakigmhcjegaa.Vw
def srt (ks : List Int) : List Int := ks.mergeSort fun x y => decide (x ≤ y)
/-- how many are at x or above -/
def ge (ks : List Int) (x : Int) : Nat := ks.countP fun y => decide (x ≤ y)
def gt (ks : List Int) (x : Int) : Nat := ks.countP fun y => decide (x < y)
theorem srt_perm (ks : List Int) : (srt ks).Perm ks := List.mergeSort_perm _ _
theorem srt_len (ks : List Int) : (srt ks).length = ks.length := (srt_perm ks).length_eq
theorem srt_sorted (ks : List Int) : (srt ks).Pairwise (fun x y => x ≤ y) := by
  have h := List.pairwise_mergeSort (le := fun (x y : Int) => decide (x ≤ y)) (fun a b c h1 h2 => by simp at h1 h2 ⊢; omega) (fun a b => by simp; omega) ks
  exact h.imp (fun h => by simpa using h)
def qn (n : Nat) : Nat := n / 2 + 1
/-- the place of what most have reached, in order -/
def rch (ks : List Int) : Int := (srt ks).getD (ks.length - qn ks.length) 0
theorem ge_perm {a b : List Int} (h : a.Perm b) (x : Int) : ge a x = ge b x := h.countP_eq _
theorem gt_perm {a b : List Int} (h : a.Perm b) (x : Int) : gt a x = gt b x := h.countP_eq _
theorem ge_app (a b : List Int) (x : Int) : ge (a ++ b) x = ge a x + ge b x := List.countP_append
theorem gt_app (a b : List Int) (x : Int) : gt (a ++ b) x = gt a x + gt b x := List.countP_append
theorem sorted_at {s : List Int} (h : s.Pairwise (fun x y => x ≤ y)) {m : Nat} (hm : m < s.length) :
    s.length - m ≤ ge s s[m] ∧ gt s s[m] ≤ s.length - m - 1 := by
  have e : s = s.take m ++ s[m] :: s.drop (m + 1) := by rw [← List.drop_eq_getElem_cons hm, List.take_append_drop]
  generalize hx : s[m] = x at *
  have h1 : ∀ y ∈ s.drop (m + 1), x ≤ y := by
    rw [e] at h
    exact (List.pairwise_cons.1 (List.pairwise_append.1 h).2.1).1
  have h2 : ∀ y ∈ s.take m, y ≤ x := by
    rw [e] at h
    exact fun y hy => (List.pairwise_append.1 h).2.2 y hy x (List.mem_cons_self ..)
  constructor
  · have h3 : ge (x :: s.drop (m + 1)) x = (x :: s.drop (m + 1)).length := by
      unfold ge
      rw [List.countP_eq_length]
      intro y hy
      rcases List.mem_cons.1 hy with rfl | hy
      · simp
      · simpa using h1 y hy
    have h4 : ge s x = ge (s.take m) x + ge (x :: s.drop (m + 1)) x := by rw [← ge_app, ← e]
    rw [h4, h3, List.length_cons, List.length_drop]
    omega
  · have h3 : gt (s.take m) x = 0 := by
      unfold gt
      rw [List.countP_eq_zero]
      intro y hy
      have := h2 y hy
      simp
      omega
    have h4 : gt s x = gt (s.take m) x + gt (x :: s.drop (m + 1)) x := by rw [← gt_app, ← e]
    have h5 : gt (x :: s.drop (m + 1)) x = gt (s.drop (m + 1)) x := by simp [gt]
    have h6 : gt (s.drop (m + 1)) x ≤ (s.drop (m + 1)).length := List.countP_le_length
    rw [h4, h3, h5]
    rw [List.length_drop] at h6
    omega
theorem qn_le {n : Nat} (h : 0 < n) : 1 ≤ qn n ∧ qn n ≤ n := by unfold qn; omega
/-- it is one of them, most have it, one more than it most haven't -/
theorem rch_is {ks : List Int} (h : ks ≠ []) : rch ks ∈ ks ∧ qn ks.length ≤ ge ks (rch ks) ∧ gt ks (rch ks) < qn ks.length := by
  have hp : 0 < ks.length := List.length_pos_iff.2 h
  obtain ⟨q1, q2⟩ := qn_le hp
  have hm : ks.length - qn ks.length < (srt ks).length := by rw [srt_len]; omega
  have e : rch ks = (srt ks)[ks.length - qn ks.length] := by unfold rch; simp [hm]
  obtain ⟨h1, h2⟩ := sorted_at (srt_sorted ks) hm
  rw [← e, srt_len] at h1 h2
  refine ⟨?_, ?_, ?_⟩
  · rw [e]; exact (srt_perm ks).mem_iff.1 (List.getElem_mem hm)
  · rw [← ge_perm (srt_perm ks)]; omega
  · rw [← gt_perm (srt_perm ks)]; omega
theorem ge_le_gt (ks : List Int) {x y : Int} (h : x < y) : ge ks y ≤ gt ks x := by
  unfold ge gt
  exact List.countP_mono_left (fun z _ hz => by simp at hz ⊢; omega)
theorem rch_max {ks : List Int} (h : ks ≠ []) {x : Int} (hx : qn ks.length ≤ ge ks x) : x ≤ rch ks := by
  by_cases hlt : rch ks < x
  · have := ge_le_gt ks hlt
    have := (rch_is h).2.2
    omega
  · omega
/-- what the reference has found behind the first k -/
def rr (ks : List Int) : Nat → Bool × Int
  | 0 => (false, 0)
  | k + 1 => if qn ks.length ≤ ge ks (ks.getD k 0) ∧ ((rr ks k).1 = false ∨ (rr ks k).2 < ks.getD k 0) then (true, ks.getD k 0) else rr ks k
theorem rr_inv (ks : List Int) : ∀ k, k ≤ ks.length →
    ((rr ks k).1 = true → (rr ks k).2 ∈ ks ∧ qn ks.length ≤ ge ks (rr ks k).2) ∧
    (∀ x ∈ ks.take k, qn ks.length ≤ ge ks x → (rr ks k).1 = true ∧ x ≤ (rr ks k).2)
  | 0, _ => ⟨fun h => by simp [rr] at h, fun x h => by simp at h⟩
  | k + 1, hk => by
    obtain ⟨h1, h2⟩ := rr_inv ks k (by omega)
    have hlt : k < ks.length := by omega
    have e : ks.getD k 0 = ks[k] := by simp [hlt]
    have ht : ks.take (k + 1) = ks.take k ++ [ks[k]] := List.take_succ_eq_append_getElem hlt
    rw [rr, e, ht]
    split
    · rename_i hc
      refine ⟨fun _ => ⟨List.getElem_mem hlt, hc.1⟩, fun x hx hq => ⟨rfl, ?_⟩⟩
      rcases List.mem_append.1 hx with hx | hx
      · obtain ⟨h3, h4⟩ := h2 x hx hq
        rcases hc.2 with h5 | h5
        · rw [h5] at h3; cases h3
        · exact Int.le_of_lt (Int.lt_of_le_of_lt h4 h5)
      · simp at hx; rw [hx]; exact Int.le_refl _
    · rename_i hc
      refine ⟨h1, fun x hx hq => ?_⟩
      rcases List.mem_append.1 hx with hx | hx
      · exact h2 x hx hq
      · simp at hx
        subst hx
        cases h6 : (rr ks k).1 with
        | false => exact absurd ⟨hq, .inl h6⟩ hc
        | true => exact ⟨rfl, by
            by_cases h7 : (rr ks k).2 < ks[k]
            · exact absurd ⟨hq, .inr h7⟩ hc
            · omega⟩
theorem rr_is {ks : List Int} (h : ks ≠ []) : (rr ks ks.length).2 = rch ks := by
  obtain ⟨h1, h2⟩ := rr_inv ks ks.length (Nat.le_refl _)
  obtain ⟨r1, r2, r3⟩ := rch_is h
  obtain ⟨h3, h4⟩ := h2 (rch ks) (by rw [List.take_length]; exact r1) r2
  have h5 := rch_max h (h1 h3).2
  omega
end Go.Proofs.Ytpmakigmhcjegaa.Vw
namespace Go.Proofs
open Go.Shelf
def Try.laySort_ren : Go.Shelf.Ren := ⟨fun | 5 => 24 | 8 => 29 | 7 => 28 | 19 => 41 | 20 => 42 | 10 => 32 | 11 => 33 | 12 => 34 | 13 => 35 | 14 => 36 | 15 => 37 | 16 => 38 | 17 => 39 | 18 => 40 | 30 => 43 | 31 => 44 | 32 => 45 | 33 => 46 | 34 => 47 | 35 => 30 | 40 => 48 | n => n, fun | 23 => 34 | 25 => 2 | 3 => 3 | 32 => 32 | 22 => 34 | 0 => 0 | 44 => 61 | 46 => 63 | 4 => 4 | 36 => 53 | 35 => 52 | 41 => 58 | 5 => 5 | 9 => 9 | 53 => 64 | 57 => 68 | 63 => 70 | 64 => 71 | n => n, fun | n => n⟩
theorem Try.laySort : Go.Proofs.SlLaysM.n5 Try.prog Try.laySort_ren := {
  mixed := by kernel_rfl
  f5 := ⟨Try.f24.name, by decide, Try.func24.trans (congrArg some (by kernel_rfl))⟩
  f7 := ⟨Try.f28.name, by decide, Try.func28.trans (congrArg some (by kernel_rfl))⟩
  f8 := Try.func29.trans (congrArg some (by kernel_rfl))
  f10 := ⟨Try.f32.name, by decide, Try.func32.trans (congrArg some (by kernel_rfl))⟩
  f11 := ⟨Try.f33.name, by decide, Try.func33.trans (congrArg some (by kernel_rfl))⟩
  f12 := ⟨Try.f34.name, by decide, Try.func34.trans (congrArg some (by kernel_rfl))⟩
  f13 := ⟨Try.f35.name, by decide, Try.func35.trans (congrArg some (by kernel_rfl))⟩
  f14 := ⟨Try.f36.name, by decide, Try.func36.trans (congrArg some (by kernel_rfl))⟩
  f15 := ⟨Try.f37.name, by decide, Try.func37.trans (congrArg some (by kernel_rfl))⟩
  f16 := ⟨Try.f38.name, by decide, Try.func38.trans (congrArg some (by kernel_rfl))⟩
  f17 := ⟨Try.f39.name, by decide, Try.func39.trans (congrArg some (by kernel_rfl))⟩
  f18 := ⟨Try.f40.name, by decide, Try.func40.trans (congrArg some (by kernel_rfl))⟩
  f19 := Try.func41.trans (congrArg some (by kernel_rfl))
  f20 := Try.func42.trans (congrArg some (by kernel_rfl))
  f30 := ⟨Try.f43.name, by decide, Try.func43.trans (congrArg some (by kernel_rfl))⟩
  f31 := Try.func44.trans (congrArg some (by kernel_rfl))
  f32 := Try.func45.trans (congrArg some (by kernel_rfl))
  f33 := ⟨Try.f46.name, by decide, Try.func46.trans (congrArg some (by kernel_rfl))⟩
  f34 := ⟨Try.f47.name, by decide, Try.func47.trans (congrArg some (by kernel_rfl))⟩
  f35 := ⟨Try.f30.name, by decide, Try.func30.trans (congrArg some (by kernel_rfl))⟩
  f40 := ⟨Try.f48.name, by decide, Try.func48.trans (congrArg some (by kernel_rfl))⟩
  t0 := Try.underlying0
  a0 := Try.isAgg0
  z0 := Try.sizeOf0
  v0 := Try.zeroValue0
  t3 := Try.underlying3
  a3 := Try.isAgg3
  z3 := Try.sizeOf3
  v3 := Try.zeroValue3
  t4 := Try.underlying4
  a4 := Try.isAgg4
  z4 := Try.sizeOf4
  v4 := Try.zeroValue4
  t5 := Try.underlying5
  a5 := Try.isAgg5
  z5 := Try.sizeOf5
  v5 := Try.zeroValue5
  t9 := Try.underlying9
  a9 := Try.isAgg9
  z9 := Try.sizeOf9
  v9 := Try.zeroValue9
  t22 := Try.underlying34
  a22 := Try.isAgg34
  z22 := Try.sizeOf34
  v22 := Try.zeroValue34
  t23 := Try.underlying34
  a23 := Try.isAgg34
  z23 := Try.sizeOf34
  v23 := Try.zeroValue34
  t25 := Try.underlying2
  a25 := Try.isAgg2
  z25 := Try.sizeOf2
  v25 := Try.zeroValue2
  t32 := Try.underlying32
  a32 := Try.isAgg32
  z32 := Try.sizeOf32
  v32 := Try.zeroValue32
  t35 := Try.underlying52
  a35 := Try.isAgg52
  z35 := Try.sizeOf52
  v35 := Try.zeroValue52
  t36 := Try.underlying53
  a36 := Try.isAgg53
  z36 := Try.sizeOf53
  v36 := Try.zeroValue53
  t41 := Try.underlying58
  a41 := Try.isAgg58
  z41 := Try.sizeOf58
  v41 := Try.zeroValue58
  t44 := Try.underlying61
  a44 := Try.isAgg61
  z44 := Try.sizeOf61
  v44 := Try.zeroValue61
  t46 := Try.underlying63
  a46 := Try.isAgg63
  z46 := Try.sizeOf63
  v46 := Try.zeroValue63
  t53 := Try.underlying64
  a53 := Try.isAgg64
  z53 := Try.sizeOf64
  v53 := Try.zeroValue64
  t57 := Try.underlying68
  a57 := Try.isAgg68
  z57 := Try.sizeOf68
  v57 := Try.zeroValue68
  t63 := Try.underlying70
  a63 := Try.isAgg70
  z63 := Try.sizeOf70
  v63 := Try.zeroValue70
  t64 := Try.underlying71
  a64 := Try.isAgg71
  z64 := Try.sizeOf71
  v64 := Try.zeroValue71 }
end Go.Proofs
namespace Go.Proofs.Ytpmakigmhcjegaa.Vw
open Go.Shelf Go.Sort Go.RowKit
theorem sort_k (blk off cap : Nat) (zs : List Int) (w : World) (hH : Holds (Value.int .i64) w blk off zs.toArray) (hblk : blk < w.heap.size) (hsz : zs.length < 4611686018427387904) :
    Calls Try.prog 24 #[.slice (some ⟨blk, off, none⟩) zs.length cap] w fun e w' =>
      e = .returned (.tuple #[]) ∧ ∃ n os, w' = grow (putRow (Value.int .i64) (Sort.ahead w n) blk off (zs.mergeSort fun x y => decide (x ≤ y)).toArray) os :=
  AnyM.slices_Sort_int Try.laySort blk off cap zs w hH hblk hsz
end Go.Proofs.Ytpmakigmhcjegaa.Vw
namespace Go.Proofs.Ytpmakigmhcjegaa.Vw
open Go.RowKit
open Nd (Row wp_world u8v Grew Sl hid_in)
theorem ksort_any {w : World} {B : Nat} {v : Value} {ks : List Int} (hv : KO w B v ks) (hne : ks ≠ []) (hl : ks.length ≤ 17592186044416) :
    Calls Try.prog 24 #[v] w fun e w' => e = .returned (.tuple #[]) ∧ KO w' B v (srt ks) ∧ w.grownBy w' v.ownBlock := by
  obtain ⟨_, ⟨rfl, h0⟩ | ⟨g, cap, cur, rfl, hB, hh, hn, hm, hs, ht⟩⟩ := hv
  · exact absurd (List.length_eq_zero_iff.1 h0) hne
  · have hlt : g < w.heap.size := (Array.getElem?_eq_some_iff.1 hh).1
    refine (sort_k g 0 cap ks w (holds_of_blockI hh (by rw [Nat.mul_one] at ht; exact ht)) hlt (by omega)).mono ?_
    rintro e w' ⟨rfl, n, os, rfl⟩
    refine ⟨rfl, ?_, grownBy_sortedI _⟩
    have h := ownsRow_sortedI (base := B) (n := n) (os := os) (ts := srt ks) (srt_len ks) hB hh hn hm hs
    unfold KO
    rw [srt_len]
    exact h
theorem quo_nat {n : Nat} (h : 0 < n) : quo (n : Int) = ((qn n : Nat) : Int) := by
  unfold quo qn
  rw [if_neg (by omega)]
  omega
set_option maxRecDepth 100000 in
theorem reached_any (ks : List Int) (v : Value) (w : World) (hv : Ks w v ks) (hl : ks.length ≤ 17592186044416) : Calls Try.prog 19 #[v] w fun e w' => e = .returned (.int .i64 (rch ks)) ∧ Below w.heap.size w w' := by
  obtain ⟨p, cap, rfl, hc1, hc2⟩ := hv.form
  by_cases hne : ks = []
  · subst hne
    have e0 : rch [] = 0 := by simp [rch, srt]
    rw [e0]
    clear hv
    simp only [List.length_nil]
    go_enter Try.func19, Try.ntmps19
    go_wp2
    go_ret
    exact ⟨rfl, Below.refl _ _⟩
  · have hp : 0 < ks.length := List.length_pos_iff.2 hne
    have HC := hid_in (kclone_any ks _ w hl hv)
    have HS := hid_in (fun (w1 : World) (v1 : Value) (h : KO w1 w.heap.size v1 ks) => ksort_any h hne hl)
    obtain ⟨q1, q2⟩ := qn_le hp
    have HQ := hid_in (quorum_any (ks.length : Int) ⟨by omega, by omega⟩)
    rw [quo_nat hp] at HQ
    have k1 : (ks.length : Int) ≤ 9223372036854775807 := by omega
    have k2 : ¬ (ks.length : Int) = 0 := by omega
    have k3 : (ks.length : Int) - ((qn ks.length : Nat) : Int) = ((ks.length - qn ks.length : Nat) : Int) := by omega
    have k4 : ((ks.length - qn ks.length : Nat) : Int) < (ks.length : Int) := by omega
    have HR := hid_in (show (srt ks)[ks.length - qn ks.length]? = some (rch ks) by
      have hm : ks.length - qn ks.length < (srt ks).length := by rw [srt_len]; omega
      unfold rch
      simp [hm])
    have HL := hid_in (srt_len ks)
    obtain ⟨x, HX⟩ : ∃ x, Hid (rch ks = x) := ⟨_, hid_in rfl⟩
    rw [HX.out] at HR ⊢
    generalize hq : qn ks.length = q at *
    generalize hd : ks.length - q = d at *
    clear hv hq hd hne hp q1 q2 HX
    go_enter Try.func19, Try.ntmps19
    go_upto_region 4 with (first | (go_at_call 23; refine HC.out.mono ?_; rintro e w1 ⟨v1, rfl, hk1, hb1⟩; have HK1 := hid_in hk1; have HB1 := hid_in hb1; clear hk1 hb1))
    go_upto_region 5 with (first | (go_at_call 24; refine (HS.out _ _ HK1.out).mono ?_; rintro e w2 ⟨rfl, hk2, hg2⟩; obtain ⟨p2, c2, hv2, hc21, hc22⟩ := hk2.ks.form; rw [HL.out] at hv2 hc21; subst hv2; obtain ⟨b2, o2, hp2, m0⟩ := hk2.ks.at HR.out; subst hp2; have HB2 := hid_in (HB1.out.grown hg2 HB1.out.size (fun k e => (HK1.out.lt k e).1)); clear hk2 hg2))
    go_wp2_with (first | (go_at_call 11; refine (HQ.out _).mono ?_; rintro e w3 ⟨rfl, rfl⟩))
    go_ret
    exact ⟨rfl, HB2.out⟩
end Go.Proofs.Ytpmakigmhcjegaa.Vw
namespace Go.Proofs.Ytpmakigmhcjegaa.Vw
open Go.RowKit
open Nd (Row wp_world u8v Grew Sl hid_in)
def v3 : List Vt := [⟨0, 2, 5⟩, ⟨1, 3, 1⟩, ⟨2, 3, 4⟩]
theorem votes3 (w : World) : Es (w.alloc (.cells #[.int .i64 0, .int .i64 2, .int .i64 5, .int .i64 1, .int .i64 3, .int .i64 1, .int .i64 2, .int .i64 3, .int .i64 4] 31)) (.slice (some ⟨w.heap.size, 0, none⟩) 3 3) v3 :=
  (show EO _ w.heap.size _ v3 from ⟨rfl, .inr ⟨w.heap.size, 3, _, rfl, Nat.le_refl _, (MapKept.heap_alloc w _).1, Nat.le_refl _, by unfold maxLen; omega, rfl, rfl⟩⟩).es
theorem acks3 (w : World) : Ks (w.alloc (.cells #[.int .i64 5, .int .i64 9, .int .i64 7] 2)) (.slice (some ⟨w.heap.size, 0, none⟩) 3 3) [5, 9, 7] :=
  (show KO _ w.heap.size _ [5, 9, 7] from ⟨rfl, .inr ⟨w.heap.size, 3, _, rfl, Nat.le_refl _, (MapKept.heap_alloc w _).1, Nat.le_refl _, by unfold maxLen; omega, rfl, rfl⟩⟩).ks
theorem bst3 : bst v3 v3.length = 2 := by decide
theorem rch3 : rch [5, 9, 7] = 7 := by
  rw [← rr_is (by simp)]
  decide
set_option maxHeartbeats 1000000 in
theorem awake_any (w : World) : Calls Try.prog 8 #[] w fun e w' => e = .returned (.bool true) ∧ Below w.heap.size w w' := by
  have H1 : Hid (∀ w : World, Calls Try.prog 9 #[.int .i64 7, .int .i64 3] w fun e w' => e = .returned (.int .i64 1) ∧ w' = w) := primary_any 7 3 (by constructor <;> decide) (by constructor <;> decide)
  have H2 : Hid (∀ w : World, Calls Try.prog 11 #[.int .i64 5] w fun e w' => e = .returned (.int .i64 3) ∧ w' = w) := quorum_any 5 (by constructor <;> decide)
  have H3 : Hid (∀ w : World, Calls Try.prog 13 #[.int .i64 2] w fun e w' => e = .returned (.int .i64 12) ∧ w' = w) := wait_any 2 (by constructor <;> decide)
  have H4 : Hid (∀ w : World, Calls Try.prog 15 #[.int .i64 7, .int .i64 1, .int .i64 3] w fun e w' => e = .returned (.int .i64 10) ∧ w' = w) := next_any 7 1 3 (by constructor <;> decide) (by constructor <;> decide) (by constructor <;> decide)
  have H5 := hid_in (fun w => bst3 ▸ best_any v3 _ _ (votes3 w))
  have H6 := hid_in (fun w => rch3 ▸ reached_any [5, 9, 7] _ _ (acks3 w) (by decide))
  go_enter Try.func8, Try.ntmps8
  go_wp2_with (first | (go_at_call 9; refine (H1.out _).mono ?_; rintro e w2 ⟨rfl, rfl⟩) | (go_at_call 11; refine (H2.out _).mono ?_; rintro e w2 ⟨rfl, rfl⟩) | (go_at_call 13; refine (H3.out _).mono ?_; rintro e w2 ⟨rfl, rfl⟩) | (go_at_call 15; refine (H4.out _).mono ?_; rintro e w2 ⟨rfl, rfl⟩) | (go_at_call 17; refine (H5.out _).mono ?_; rintro e w2 ⟨rfl, hb2⟩; have HB2 := hid_in (((Below.refl _ _).alloc (Nat.le_refl _) _).trans (hb2.mono (by simp))); clear hb2) | (go_at_call 19; refine (H6.out _).mono ?_; rintro e w3 ⟨rfl, hb3⟩; have HB3 := hid_in (HB2.out.trans ((((Below.refl _ _).alloc (Nat.le_refl _) _).trans (hb3.mono (by simp))).mono HB2.out.size)); clear hb3))
  go_ret
  exact ⟨rfl, HB3.out⟩
end Go.Proofs.Ytpmakigmhcjegaa.Vw
namespace Go.Proofs.Ytpmakigmhcjegaa.Vw
open Go.RowKit
open Nd (Row wp_world u8v Grew Sl hid_in)
/-- a value that reads as truth values -/
def Bs (w : World) (v : Value) (lb : List Bool) : Prop := ∃ p cap b o, v = .slice p lb.length cap ∧ (lb ≠ [] → p = some ⟨b, o, none⟩ ∧ b < w.heap.size) ∧ (∀ (j : Nat) u, lb[j]? = some u → w.cell? ⟨b, o + j, none⟩ = some (.bool u))
theorem Bs.below {w w' : World} {v : Value} {lb : List Bool} (h : Bs w v lb) (hb : Below w.heap.size w w') : Bs w' v lb := by
  obtain ⟨p, cap, b, o, rfl, h4, h5⟩ := h
  refine ⟨p, cap, b, o, rfl, fun he => ⟨(h4 he).1, Nat.lt_of_lt_of_le (h4 he).2 hb.size⟩, fun j u hj => ?_⟩
  have hne : lb ≠ [] := by rintro rfl; simp at hj
  rw [hb.cell (p := ⟨b, _, none⟩) (h4 hne).2]
  exact h5 j u hj
theorem Bs.form {w : World} {v : Value} {lb : List Bool} (h : Bs w v lb) : ∃ p cap, v = .slice p lb.length cap := by
  obtain ⟨p, cap, _, _, h1, _⟩ := h
  exact ⟨p, cap, h1⟩
theorem Bs.at {w : World} {n c : Nat} {p : Option Addr} {lb : List Bool} (h : Bs w (.slice p n c) lb) {i : Nat} {e : Bool} (hi : lb[i]? = some e) : ∃ b o, p = some ⟨b, o, none⟩ ∧ w.cell? ⟨b, o + i, none⟩ = some (.bool e) := by
  obtain ⟨p', cap, b, o, h1, h4, h5⟩ := h
  simp only [Value.slice.injEq] at h1
  obtain ⟨rfl, rfl, rfl⟩ := h1
  have hne : lb ≠ [] := by rintro rfl; simp at hi
  exact ⟨b, o, (h4 hne).1, h5 _ _ hi⟩
set_option maxHeartbeats 4000000 in
set_option maxRecDepth 100000 in
theorem meets_any (la lb : List Bool) (va vb : Value) (w : World) (ha : Bs w va la) (hb : Bs w vb lb) (hla : la.length ≤ 140737488355328) (hlb : lb.length ≤ 9223372036854775807) : Calls Try.prog 7 #[va, vb] w fun e w' => e = .returned (.bool true) ∧ Below w.heap.size w w' := by
  obtain ⟨p, c, rfl⟩ := ha.form
  obtain ⟨q, c2, rfl⟩ := hb.form
  have H0 := hid_in awake_any
  have HA := hid_in ha
  have HB := hid_in hb
  have H1 : Hid (∀ w : World, Calls Try.prog 11 #[.int .i64 0] w fun e w' => e = .returned (.int .i64 0) ∧ w' = w) := quorum_any 0 (by constructor <;> decide)
  have k1 : (la.length : Int) ≤ 140737488355328 := by omega
  have k2 : (lb.length : Int) ≤ 9223372036854775807 := by omega
  clear ha hb hlb
  by_cases c0 : la.length = 0
  · rw [c0]
    clear HA HB k1 hla c0
    go_enter Try.func7, Try.ntmps7
    go_wp2_with (first | (go_at_call 8; refine (H0.out _).mono ?_; rintro e w2 ⟨rfl, hb2⟩; have HB2 := hid_in hb2; clear hb2) | (go_at_call 11; refine (H1.out _).mono ?_; rintro e w3 ⟨rfl, rfl⟩))
    go_ret
    exact ⟨rfl, HB2.out⟩
  have c0' : ¬ (la.length : Int) = 0 := by omega
  by_cases c1 : lb.length = la.length
  · have HL := hid_in c1
    rw [c1]
    have HQ := hid_in (quorum_any (la.length : Int) ⟨by omega, by omega⟩)
    rw [quo_nat (by omega)] at HQ
    have HN := hid_in (show la.length < 2 * qn la.length ∧ 2 * (qn la.length - 1) ≤ la.length ∧ 1 ≤ qn la.length by unfold qn; omega)
    clear c1 k2
    go_enter Try.func7, Try.ntmps7
    go_upto_region 10 with (first | (go_at_call 8; refine (H0.out _).mono ?_; rintro e w2 ⟨rfl, hb2⟩; have HB2 := hid_in hb2; clear hb2))
    go_loopg [6, 7, 8, 9] la.length (fun g vx vy vc vi W => ∃ i x y z : Nat, g + i = la.length ∧ vi = .int .i64 (i : Int) ∧ vx = .int .i64 (x : Int) ∧ vy = .int .i64 (y : Int) ∧ vc = .int .i64 (z : Int) ∧ x ≤ i ∧ y ≤ i ∧ z ≤ i ∧ Hid (x + y ≤ i + z) ∧ Hid (Below w.heap.size w W))
    case atStart => exact ⟨0, 0, 0, 0, by omega, rfl, rfl, rfl, rfl, by omega, by omega, by omega, hid_in (by omega), HB2.out⟩
    case round =>
      obtain ⟨i, x, y, z, hg, rfl, rfl, rfl, rfl, hx, hy, hz, hs, hbw⟩ := hrel
      by_cases hlt : i < la.length
      · have hlt2 : i < lb.length := by have := HL.out; omega
        obtain ⟨b, o, rfl, m0⟩ := (HA.out.below hbw.out).at (List.getElem?_eq_getElem hlt)
        obtain ⟨b2, o2, rfl, m1⟩ := (HB.out.below hbw.out).at (List.getElem?_eq_getElem hlt2)
        generalize la[i] = s at *
        generalize lb[i] = t at *
        have hs' := hs.out
        cases s with
        | false =>
          cases t with
          | false =>
            go_wp2_with fail
            go_roundg (la.length - (i + 1))
            case measure => omega
            case rel => exact ⟨i + 1, x, y, z, by omega, by go_num, rfl, rfl, rfl, by omega, by omega, by omega, hid_in (by omega), hbw.out⟩
          | true =>
            go_wp2_with fail
            go_roundg (la.length - (i + 1))
            case measure => omega
            case rel => exact ⟨i + 1, x, y + 1, z, by omega, by go_num, rfl, by go_num, rfl, by omega, by omega, by omega, hid_in (by omega), hbw.out⟩
        | true =>
          cases t with
          | false =>
            go_wp2_with fail
            go_roundg (la.length - (i + 1))
            case measure => omega
            case rel => exact ⟨i + 1, x + 1, y, z, by omega, by go_num, by go_num, rfl, rfl, by omega, by omega, by omega, hid_in (by omega), hbw.out⟩
          | true =>
            go_wp2_with fail
            go_roundg (la.length - (i + 1))
            case measure => omega
            case rel => exact ⟨i + 1, x + 1, y + 1, z + 1, by omega, by go_num, by go_num, by go_num, by go_num, by omega, by omega, by omega, hid_in (by omega), hbw.out⟩
      · obtain rfl : i = la.length := by omega
        obtain ⟨n1, n2, n3⟩ := HN.out
        generalize qn la.length = q at *
        have hs' := hs.out
        have j1 : (la.length : Int) < 2 * (q : Int) := by omega
        have j2 : 2 * ((q : Int) - 1) ≤ (la.length : Int) := by omega
        by_cases d1 : x < q
        · go_wp2_with (first | (go_at_call 11; refine (HQ.out _).mono ?_; rintro e w3 ⟨rfl, rfl⟩))
          go_ret
          exact ⟨rfl, hbw.out⟩
        · by_cases d2 : y < q
          · go_wp2_with (first | (go_at_call 11; refine (HQ.out _).mono ?_; rintro e w3 ⟨rfl, rfl⟩))
            go_ret
            exact ⟨rfl, hbw.out⟩
          · have d3 : 0 < z := by omega
            go_wp2_with (first | (go_at_call 11; refine (HQ.out _).mono ?_; rintro e w3 ⟨rfl, rfl⟩))
            go_ret
            exact ⟨rfl, hbw.out⟩
  · have c1' : ((lb.length : Int) != (la.length : Int)) = true := by rw [bne_iff_ne]; omega
    have c0'' : ((la.length : Int) == 0) = false := by rw [beq_eq_false_iff_ne]; omega
    clear HA HB hla c0 c1
    go_enter Try.func7, Try.ntmps7
    go_wp2_with (first | (go_at_call 8; refine (H0.out _).mono ?_; rintro e w2 ⟨rfl, hb2⟩; have HB2 := hid_in hb2; clear hb2) | (go_at_call 11; refine (H1.out _).mono ?_; rintro e w3 ⟨rfl, rfl⟩))
    go_ret
    exact ⟨rfl, HB2.out⟩
end Go.Proofs.Ytpmakigmhcjegaa.Vw
namespace Go.Proofs.Ytpmakigmhcjegaa.Vw
open Go.ChangeShapes Go.WideShapes Go.ChangeAt Go.RowKit Go.Deep
theorem tcells4 : Try.prog.cellsOf 4 = 1 := by kernel_rfl
theorem tbytes4 : Try.prog.bytesOf 4 = 1 := by kernel_rfl
/-- a row of elements of k cells each that comes in -/
theorem row_in {H : Type} {enc : TypeId × Value → H} {W : World} {t e k : Nat} {len cap : Nat} {a : Option Addr} {d : DataW H} {p : List MemPlace} (ht : Try.prog.underlying t = some (.slice e)) (hk : Try.prog.cellsOf e = k) (hk0 : 0 < k)
    {α : Type} [Inhabited α] (cell : α → List Value) (hc : ∀ x, (cell x).length = k) (one : ∀ fuel cs d p, DataW.trod enc Try.prog W 0 (fun _ => true) true fuel e cs = some (d, p) → ∃ x, cs = cell x)
    (h : DataW.Trod enc Try.prog W 0 (fun _ => true) true t (.slice a len cap) d p) :
    ∃ (xs : List α) (b o : Nat), xs.length = len ∧ len ≤ cap ∧ cap ≤ 9223372036854775807 ∧ (xs ≠ [] → a = some ⟨b, o, none⟩ ∧ b < W.heap.size) ∧ (∀ (i : Nat) x, xs[i]? = some x → ∀ (y : Nat) u, (cell x)[y]? = some u → W.cell? ⟨b, o + i * k + y, none⟩ = some u) ∧ (a = none → xs = [] ∧ cap = 0) ∧ ((d = .nil ∧ len = 0) ∨ ∃ es sp, d = .slice es sp ∧ es.length = len) := by
  obtain ⟨fuel, hf⟩ := h
  rcases open_slice ht hf with ⟨hcs, hx⟩ | ⟨x, l, c, m, n, D, Pl, hcs, _, hl, hm, hmm, hx, hr⟩
  · simp [Value.cells] at hcs
    obtain ⟨rfl, rfl, rfl⟩ := hcs
    simp only [Prod.mk.injEq] at hx
    exact ⟨[], 0, 0, rfl, Nat.le_refl _, by decide, fun h => absurd rfl h, fun i x h => by simp at h, fun _ => ⟨rfl, rfl⟩, .inl ⟨hx.1, rfl⟩⟩
  · simp [Value.cells] at hcs
    obtain ⟨rfl, rfl, rfl⟩ := hcs
    simp only [if_true] at hmm
    subst hmm
    simp only [Prod.mk.injEq] at hx
    rw [hk] at hr
    have each : ∀ r, r < len → ∃ e : α, ∀ (j : Nat) u, (cell e)[j]? = some u → W.cell? ((x.add (r * k)).add j) = some u := by
      intro r hlt
      obtain ⟨cs', h1, h2⟩ := hr r (by omega)
      obtain ⟨_, hlen, hcell⟩ := World.cells?_some h1
      obtain ⟨e, rfl⟩ := one _ _ _ _ h2
      refine ⟨e, fun j u hj => ?_⟩
      have hjk : j < k := by have := (List.getElem?_eq_some_iff.1 hj).1; rw [hc] at this; exact this
      rw [hcell j hjk]
      exact hj
    obtain ⟨y, hy⟩ := choose_lt each
    have hcap : m ≤ 9223372036854775807 := by unfold maxLen at hm; omega
    obtain ⟨b, o, hpx⟩ : ∃ b o, 0 < len → x = ⟨b, o, none⟩ ∧ b < W.heap.size := by
      by_cases h0 : 0 < len
      · have hc0 := hy 0 h0 0 ((cell (y 0))[0]'(by rw [hc]; exact hk0)) (List.getElem?_eq_getElem _)
        obtain ⟨b', o', sp⟩ := x
        have hspot : sp = none := by simpa [Addr.add] using World.cell?_spot hc0
        subst hspot
        rw [Addr.add_mid, Addr.add_mid] at hc0
        exact ⟨b', o', fun _ => ⟨rfl, World.block_lt_of_cell? W _ hc0⟩⟩
      · exact ⟨0, 0, fun h => absurd h h0⟩
    refine ⟨(List.range len).map y, b, o, by simp, hl, hcap, fun h => ?_, fun i z hi q u hu => ?_, fun h => (by cases h), .inr ⟨_, _, hx.1, by simp⟩⟩
    · have h0 : 0 < len := by
        rcases Nat.eq_zero_or_pos len with h1 | h1
        · subst h1; exact absurd rfl h
        · exact h1
      exact ⟨by rw [(hpx h0).1], (hpx h0).2⟩
    · have hlt : i < len := by have := (List.getElem?_eq_some_iff.1 hi).1; simpa using this
      simp [hlt] at hi
      subst hi
      have h2 := hy i hlt q u hu
      rw [(hpx (by omega)).1, Addr.add_mid, Addr.add_mid] at h2
      exact h2
theorem reach_of {H : Type} {d : DataW H} {len t e n : Nat} (hd : (d = .nil ∧ len = 0) ∨ ∃ es sp, d = .slice es sp ∧ es.length = len) {ts : List TypeId} {ds : List (DataW H)} (hu : Try.prog.underlying t = some (.slice e)) (hb : Try.prog.bytesOf e = n)
    (hsz : (DataW.weightsEach Try.prog ts ds).all (· ≤ reachBytes) = true) (j : Nat) (ht : ts[j]? = some t) (hj : ds[j]? = some d) : len * n ≤ 140737488351232 := by
  rcases hd with ⟨_, rfl⟩ | ⟨es, sp, rfl, rfl⟩
  · omega
  · have h := sized_slice hsz ht hj hu
    rw [hb] at h
    unfold reachBytes at h
    exact Nat.le_trans (Nat.mul_le_mul_right _ (by omega)) h
theorem flag_in {H : Type} {enc : TypeId × Value → H} {W : World} (fuel : Nat) (cs : List Value) (d : DataW H) (p : List MemPlace) (hf : DataW.trod enc Try.prog W 0 (fun _ => true) true fuel 4 cs = some (d, p)) : ∃ x : Bool, cs = [.bool x] := by
  obtain ⟨A, e0, _⟩ := DataW.trod_bool Try.underlying4 hf
  exact ⟨A, e0⟩
theorem flags_in {H : Type} {enc : TypeId × Value → H} {W : World} {a : Option Addr} {len cap : Nat} {d : DataW H} {p : List MemPlace} (h : DataW.Trod enc Try.prog W 0 (fun _ => true) true 37 (.slice a len cap) d p)
    {ts : List TypeId} {ds : List (DataW H)} (hsz : (DataW.weightsEach Try.prog ts ds).all (· ≤ reachBytes) = true) (j : Nat) (ht : ts[j]? = some 37) (hj : ds[j]? = some d) : ∃ bs, Bs W (.slice a len cap) bs ∧ bs.length ≤ 140737488355328 := by
  obtain ⟨xs, b, o, rfl, h1, h2, h3, h4, h5, h6⟩ := row_in Try.underlying37 tcells4 (by decide) (fun x : Bool => [Value.bool x]) (fun _ => rfl) flag_in h
  have h7 := reach_of h6 Try.underlying37 tbytes4 hsz j ht hj
  refine ⟨xs, ⟨a, cap, b, o, rfl, h3, fun j u hj => ?_⟩, by omega⟩
  have := h4 j u hj 0 _ rfl
  rw [Nat.mul_one, Nat.add_zero] at this
  exact this
end Go.Proofs.Ytpmakigmhcjegaa.Vw
