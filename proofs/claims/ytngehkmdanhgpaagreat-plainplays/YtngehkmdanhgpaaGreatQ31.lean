/-
  Do of list. Any operation: what is there behind it is a tree, of small files, of one path more at most. What an operation tells and leaves, of what is there: one way alone. Plain facts, and Do by them.
-/
import Derived.Laws.CopyOwn
import Derived.Deep.RegionLaw
import Derived.Deep.DrawnRows
import Derived.Lib.SlBytesConst
import Derived.Lib.AppendZeros
import Derived.Laws.Tables
import Derived.Test.YtngehkmdanhgpaaGreatQ00
import Derived.Test.YtngehkmdanhgpaaGreatQ01
import Derived.Test.YtngehkmdanhgpaaGreatQ02
import Derived.Test.YtngehkmdanhgpaaGreatQ03
import Derived.Test.YtngehkmdanhgpaaGreatQ04
import Derived.Test.YtngehkmdanhgpaaGreatQ05
import Derived.Test.YtngehkmdanhgpaaGreatQ06
import Derived.Test.YtngehkmdanhgpaaGreatQ07
import Derived.Test.YtngehkmdanhgpaaGreatQ08
import Derived.Test.YtngehkmdanhgpaaGreatQ09
import Derived.Test.YtngehkmdanhgpaaGreatQ10
import Derived.Test.YtngehkmdanhgpaaGreatQ11
import Derived.Test.YtngehkmdanhgpaaGreatQ12
import Derived.Test.YtngehkmdanhgpaaGreatQ13
import Derived.Test.YtngehkmdanhgpaaGreatQ14
import Derived.Test.YtngehkmdanhgpaaGreatQ15
import Derived.Test.YtngehkmdanhgpaaGreatQ16
import Derived.Test.YtngehkmdanhgpaaGreatQ17
import Derived.Test.YtngehkmdanhgpaaGreatQ18
import Derived.Test.YtngehkmdanhgpaaGreatQ19
import Derived.Test.YtngehkmdanhgpaaGreatQ20
import Derived.Test.YtngehkmdanhgpaaGreatQ21
import Derived.Test.YtngehkmdanhgpaaGreatQ22
import Derived.Test.YtngehkmdanhgpaaGreatQ23
import Derived.Test.YtngehkmdanhgpaaGreatQ24
import Derived.Test.YtngehkmdanhgpaaGreatQ25
import Derived.Test.YtngehkmdanhgpaaGreatQ26
import Derived.Test.YtngehkmdanhgpaaGreatQ27
import Derived.Test.YtngehkmdanhgpaaGreatQ28
import Derived.Test.YtngehkmdanhgpaaGreatQ29
import Derived.Test.YtngehkmdanhgpaaGreatQ30
namespace Go.Proofs.YtngehkmdanhgpaaGreat.Pl
open Go.RowKit
open Vp (Str B bl Val cmpL parseS showS splitS withinS IsPath)
open Nd (Row wp_world post_Row post_Row2 grownBy_setCell below_of_grown Opn checkS)
/-- what holds of what is answered, and what is there behind it -/
def DidR (w : World) (g m : Nat) (PR : RA → Prop) (A' : List Ent) (e : Ending) (w' : World) : Prop := ∃ rc rd rs rx rn v, PR ⟨rc, rd, rs, rx, rn⟩ ∧ e = .returned (Res.val ⟨rc, rd, rs, rx, v⟩) ∧ Rf.Nm w' v rn ∧ (∃ L', Fs w' g m L' ∧ L'.map Spot.ent = A') ∧ w.grownBy w' (some m)
/-- what list tells -/
def Listed (A : List Ent) (xs : List Str) (R : RA) : Prop := R.code = lsE A xs ∧ R.data = ⟨#[]⟩ ∧ ((lsE A xs ≠ 0 ∧ R.dir = false ∧ R.size = 0 ∧ R.names = []) ∨ (lsE A xs = 0 ∧ R.dir = true ∧ R.size = (R.names.length : Int) ∧ ∃ es : List Ent, es.Perm (kidsA A xs) ∧ es.Pairwise (fun s t => ¬ cmpL t.names s.names < 0) ∧ R.names = es.map shownS))
set_option maxHeartbeats 1000000 in
set_option maxRecDepth 100000 in
theorem deed_9 (v : Value) (w : World) : Calls Tryz.prog 32 #[v, .int .i64 9] w fun e w' => e = .returned (.func (.func 71) #[v] #[]) ∧ w' = w := by
  go_enter Tryz.func32, Tryz.ntmps32
  go_wp2
  go_ret
  exact ⟨rfl, rfl⟩
set_option maxHeartbeats 4000000 in
set_option maxRecDepth 100000 in
theorem do_9 {w : World} {g m : Nat} {L : List Spot} (h : Fs w g m L) (a z : Int) (p t d : ByteArray) (hp : p.size ≤ 9223372036854775807) (ht : t.size ≤ 9223372036854775807) (hc : checkS ⟨9, p, t, d, a, z⟩ = 0) (PR : RA → Prop) (A' : List Ent)
    (hd : ∀ W, Below w.heap.size w W → Calls Tryz.prog 71 #[.pointer (some ⟨g, 0, none⟩), .agg #[.int .i64 9, .string p, .string t, .string d, .int .i64 a, .int .i64 z]] W fun e w' => DidR W g m PR A' e w') :
    Calls Tryz.prog 14 #[.pointer (some ⟨g, 0, none⟩), .agg #[.int .i64 9, .string p, .string t, .string d, .int .i64 a, .int .i64 z]] w fun e w' => DidR w g m PR A' e w' := by
  obtain ⟨WA, HWA, HRO, HRA, HBA⟩ := op_box w 9 a z p t d
  have H := hid_in h
  have HG := hid_in h.ne1
  have HCK := hid_in (fun W => Nd.check_any ⟨9, p, t, d, a, z⟩ hp ht W)
  simp only [Opn.val] at HCK
  rw [hc] at HCK
  have HD := hid_in hd
  have HDE := hid_in (fun W => deed_9 (.pointer (some ⟨g, 0, none⟩)) W)
  obtain ⟨c0, c1, c2, c3, c4, c5⟩ := op_cells HRO.out (Below.refl _ WA)
  have HK := hid_in (fun W (kb : Below WA.heap.size WA W) => op_cells HRO.out kb)
  unfold DidR at HD
  simp only [Res.val] at HD
  clear h hc hd
  go_enter Tryz.func14, Tryz.ntmps14
  go_upto_region 1 with fail
  refine wp_world HWA.out ?_
  go_upto_region 6 with (first | (go_at_call 31; refine (HCK.out _).mono ?_; rintro e w1 ⟨rfl, hb1⟩; have HC1 := hid_in hb1; clear hb1))
  obtain ⟨e0, e1, e2, e3, e4, e5⟩ := HK.out _ HC1.out
  clear c0 c1 c2 c3 c4 c5
  have HB1 := hid_in (HBA.out.trans (HC1.out.mono HBA.out.size))
  go_region_with (first | (go_at_call 32; refine (HDE.out _).mono ?_; rintro e w2 ⟨rfl, rfl⟩) | (go_at_call 71; refine (HD.out _ (below_drewN HB1.out 1)).mono ?_; rintro e w3 ⟨rc, rd, rs, rx, rn, v3, hpr, rfl, hn3, ⟨L3, hf3, ha3⟩, hg3⟩; have HPR := hid_in hpr; clear hpr; obtain ⟨vp, vc, rfl⟩ := hn3.form; have hr3 := Row.map (HRA.out.below (below_drewN HC1.out 1) HRA.out.lt) (H.out.below (below_drewN HB1.out 1)).map hg3; obtain ⟨⟨g0, g1, g2, g3, g4⟩, q0, q1, q2, q3, q4⟩ := res_cells hr3 (Below.refl _ w3); have HR3 := hid_in hr3; have HN3 := hid_in hn3; have HF3 := hid_in hf3; have HA3 := hid_in ha3; have HG3 := hid_in (grown_plus (below_drewN HB1.out 1) hg3); clear hn3 hf3 ha3 hg3 hr3))
  all_goals
    go_wp2
    exact post_Row 4 37 rfl (w.heap.size + 1) rfl 37 [.int .i64 rc, .bool rd, .int .i64 rs, .string rx, .slice vp rn.length vc] (set5_row HR3.out rfl _ _ _ _ _) _ Tryz.underlying37 rfl 5 info37 rfl rfl ⟨rc, rd, rs, rx, rn, _, HPR.out, rfl, nm_set5 HN3.out HR3.out (by decide) _ _ _ _ _, ⟨_, HF3.out.set5 HR3.out (by decide) HG.out _ _ _ _ _, HA3.out⟩, grown_set5 HG3.out (Nat.le_succ _) _ _ _ _ _⟩
theorem do_list {w : World} {g m : Nat} {L : List Spot} (h : Fs w g m L) (hn : L.length ≤ 100000) (a z : Int) (p t d : ByteArray) (hp : p.size ≤ 9223372036854775807) (ht : t.size ≤ 9223372036854775807) (hc : checkS ⟨9, p, t, d, a, z⟩ = 0) :
    Calls Tryz.prog 14 #[.pointer (some ⟨g, 0, none⟩), .agg #[.int .i64 9, .string p, .string t, .string d, .int .i64 a, .int .i64 z]] w fun e w' => DidR w g m (Listed (L.map Spot.ent) (nmsOf p)) (L.map Spot.ent) e w' :=
  do_9 h a z p t d hp ht hc _ _ fun _ k => (listO_any (h.below k) hn 9 a z p t d hp).mono fun _ _ ⟨b, s, v, ns, he, hv, hf, hb, hh⟩ => ⟨_, b, s, _, ns, v, ⟨rfl, rfl, hh⟩, he, hv, ⟨L, hf, rfl⟩, below_but m hb⟩
end Go.Proofs.YtngehkmdanhgpaaGreat.Pl
namespace Go.Proofs.YtngehkmdanhgpaaGreat.Pl
open Go.RowKit
open Vp (Str B bl Val cmpL parseS showS splitS withinS IsPath)
open Nd (Row wp_world post_Row post_Row2 grownBy_setCell below_of_grown Opn checkS numsOk namedS pathsS perr)
theorem small_put {A : List Ent} {e : Ent} (h : Small A) (he : e.data.size ≤ 1024) : Small (putA A e) := fun t ht => by
  rcases mem_putA A e t ht with rfl | ht
  · exact he
  · exact h t ht
theorem small_cut {A : List Ent} (h : Small A) (xs : List Str) : Small (cutA A xs) := fun t ht => h t (List.mem_filter.1 ht).1
theorem small_moves {p q : List Str} : ∀ (es A : List Ent), Small A → (∀ e ∈ es, e.data.size ≤ 1024) → Small (movesA p q es A)
  | [], _, h, _ => h
  | e :: es, A, h, he => small_moves es (stepA p q A e) (small_put (small_cut h _) (he e (by simp))) fun x hx => he x (by simp [hx])
theorem small_rn {A A' : List Ent} {p q : List Str} (hS : Small A) (hA : (A.map (·.names)).Nodup) (h : Moved A p q A') : Small A' := by
  by_cases hc : rnE A p q = 0 ∧ p ≠ q
  · obtain ⟨x, es, hx, hp, e⟩ := h.2 hc
    obtain ⟨h1, _, _⟩ := moved_names hA hx hp
    rw [e]
    exact small_moves _ _ hS fun e he => hS e (h1 e he).1
  · rw [h.1 (by
      by_cases h0 : rnE A p q = 0
      · exact .inr (Classical.byContradiction fun hh => hc ⟨h0, hh⟩)
      · exact .inl h0)]
    exact hS
/-- what stands behind any operation -/
structure Kept (A A' : List Ent) : Prop where
  tree : Tree A'
  small : Small A'
  len : A'.length ≤ A.length + 1
theorem kept_same {A : List Ent} (hT : Tree A) (hS : Small A) : Kept A A := ⟨hT, hS, by omega⟩
theorem kept_add {A : List Ent} (hT : Tree A) (hS : Small A) (xs : List Str) (d : Bool) : Kept A (addA A xs d) := by
  refine ⟨tree_add hT xs d, ?_, ?_⟩ <;> unfold addA <;> split
  · exact small_put hS (by show (0 : Nat) ≤ _; omega)
  · exact hS
  · exact len_put _ _
  · omega
theorem kept_wr {A : List Ent} (hT : Tree A) (hS : Small A) (xs : List Str) (a : Nat) (d : ByteArray) : Kept A (wrA A xs a d) := by
  refine ⟨tree_wr hT xs a d, ?_, ?_⟩ <;> unfold wrA <;> split
  · rename_i h
    unfold wrE at h
    split at h
    · rename_i h1
      exact absurd h h1
    rename_i h1
    split at h
    · cases h
    rename_i h2
    split at h
    · cases h
    rename_i h3
    refine small_put hS ?_
    show (wrD _ _ _).size ≤ _
    have h1 : (findFA A xs).2 = 0 := Classical.byContradiction h1
    obtain ⟨f, f1, _⟩ := findFA_at h1
    have h4 : (findFA A xs).1.data.size ≤ 1024 := by
      unfold findFA at h1 ⊢
      split at h1
      · cases h1
      · rename_i h5
        rw [if_neg h5]
        exact hS _ (at_names (findA_at h1)).2
    rw [wrD_size _ _ _ (by omega)]
    omega
  · exact hS
  · exact len_put _ _
  · omega
theorem kept_tr {A : List Ent} (hT : Tree A) (hS : Small A) (xs : List Str) (z : Nat) (hz : z ≤ 1024) : Kept A (trA A xs z) := by
  refine ⟨tree_tr hT xs z, ?_, ?_⟩ <;> unfold trA <;> split
  · exact small_put hS (by show (trD _ _).size ≤ _; rw [trD_size]; exact hz)
  · exact hS
  · exact len_put _ _
  · omega
theorem len_cutA (A : List Ent) (xs : List Str) : (cutA A xs).length ≤ A.length := List.length_filter_le _ _
theorem kept_ul {A : List Ent} (hT : Tree A) (hS : Small A) (xs : List Str) : Kept A (ulA A xs) := by
  refine ⟨tree_ul hT xs, ?_, ?_⟩ <;> unfold ulA <;> split
  · exact small_cut hS _
  · exact hS
  · have := len_cutA A xs; omega
  · omega
theorem kept_rm {A : List Ent} (hT : Tree A) (hS : Small A) (xs : List Str) : Kept A (rmA A xs) := by
  refine ⟨tree_rm hT xs, ?_, ?_⟩ <;> unfold rmA <;> split
  · exact small_cut hS _
  · exact hS
  · have := len_cutA A xs; omega
  · omega
theorem kept_rn {A A' : List Ent} {p q : List Str} (hT : Tree A) (hS : Small A) (hA : (A.map (·.names)).Nodup) (h : Moved A p q A') : Kept A A' :=
  ⟨tree_rn hT hA h, small_rn hS hA h, by have := len_moved hA h; omega⟩
/-- a result is answered, and what is there stands well -/
def Steps (w : World) (g m : Nat) (A : List Ent) (e : Ending) (w' : World) : Prop := ∃ (R : RA) (v : Value) (A' : List Ent), e = .returned (Res.val ⟨R.code, R.dir, R.size, R.data, v⟩) ∧ Rf.Nm w' v R.names ∧ FsA w' g m A' ∧ Kept A A' ∧ w.grownBy w' (some m)
theorem Did.steps {w : World} {g m : Nat} {R : RA} {A A' : List Ent} {e : Ending} {w' : World} (h : Did w g m R A' e w') (k : Kept A A') : Steps w g m A e w' := by
  obtain ⟨v, h1, h2, h3, h4⟩ := h
  exact ⟨R, v, A', h1, h2, h3, k, h4⟩
theorem check_ok {k a z : Int} {p t d : ByteArray} (h : checkS ⟨k, p, t, d, a, z⟩ = 0) : 1 ≤ k ∧ k ≤ 11 ∧ (k = 11 ∨ (0 ≤ a ∧ 0 ≤ z)) ∧ d.size ≤ 1024 ∧ a ≤ 1024 ∧ z ≤ 1024 := by
  unfold checkS at h
  simp only at h
  split at h
  · cases h
  rename_i h1
  split at h
  · cases h
  rename_i h2
  split at h
  · cases h
  rename_i h3
  have h4 : numsOk k a z := Classical.byContradiction fun hh => h2 (.inr hh)
  unfold numsOk at h4
  have h1 : 1 ≤ k ∧ k ≤ 11 := Classical.byContradiction h1
  exact ⟨h1.1, h1.2, by omega, by omega, by omega, by omega⟩
theorem step_any {W : World} {g m : Nat} {A : List Ent} (h : FsA W g m A) (hT : Tree A) (hS : Small A) (hn : A.length ≤ 100000) (k a z : Int) (p t d : ByteArray) (hp : p.size ≤ 9223372036854775807) (ht : t.size ≤ 9223372036854775807) :
    Calls Tryz.prog 14 #[.pointer (some ⟨g, 0, none⟩), .agg #[.int .i64 k, .string p, .string t, .string d, .int .i64 a, .int .i64 z]] W fun e W' => Steps W g m A e W' := by
  obtain ⟨L, h1, rfl⟩ := h
  have hA : ((L.map Spot.ent).map (·.names)).Nodup := by rw [List.map_map]; exact h1.map.one
  have hn' : L.length ≤ 100000 := by simpa using hn
  by_cases hc : checkS ⟨k, p, t, d, a, z⟩ = 0
  · obtain ⟨c1, c2, c3, c4, c5, c6⟩ := check_ok hc
    have hk : k = 1 ∨ k = 2 ∨ k = 3 ∨ k = 4 ∨ k = 5 ∨ k = 6 ∨ k = 7 ∨ k = 8 ∨ k = 9 ∨ k = 10 ∨ k = 11 := by omega
    rcases hk with rfl | rfl | rfl | rfl | rfl | rfl | rfl | rfl | rfl | rfl | rfl
    · exact (do_mkdir h1 a z p t d hp ht hc).mono fun _ _ hd => hd.steps (kept_add hT hS _ _)
    · exact (do_create h1 a z p t d hp ht hc).mono fun _ _ hd => hd.steps (kept_add hT hS _ _)
    · obtain ⟨a', rfl⟩ := Int.eq_ofNat_of_zero_le (show 0 ≤ a by omega)
      exact (do_write h1 hS z a' p t d hp ht hc (by omega) c4).mono fun _ _ hd => hd.steps (kept_wr hT hS _ _ _)
    · obtain ⟨z', rfl⟩ := Int.eq_ofNat_of_zero_le (show 0 ≤ z by omega)
      exact (do_trunc h1 hS a z' p t d hp ht hc (by omega)).mono fun _ _ hd => hd.steps (kept_tr hT hS _ _ (by omega))
    · exact (do_unlink h1 a z p t d hp ht hc).mono fun _ _ hd => hd.steps (kept_ul hT hS _)
    · exact (do_rmdir h1 hn' a z p t d hp ht hc).mono fun _ _ hd => hd.steps (kept_rm hT hS _)
    · exact (do_rename h1 hn' a z p t d hp ht hc).mono fun _ _ ⟨v, e1, e2, ⟨L', e3, e4⟩, e5⟩ => ⟨_, v, L'.map Spot.ent, e1, e2, ⟨L', e3, rfl⟩, kept_rn hT hS hA e4, e5⟩
    · obtain ⟨a', rfl⟩ := Int.eq_ofNat_of_zero_le (show 0 ≤ a by omega)
      obtain ⟨z', rfl⟩ := Int.eq_ofNat_of_zero_le (show 0 ≤ z by omega)
      exact (do_read h1 a' z' p t d hp ht hc (by omega) (by omega)).mono fun _ _ hd => hd.steps (kept_same hT hS)
    · exact (do_list h1 hn' a z p t d hp ht hc).mono fun _ _ ⟨rc, rd, rs, rx, rn, v, _, e1, e2, ⟨L', e3, e4⟩, e5⟩ => ⟨⟨rc, rd, rs, rx, rn⟩, v, L.map Spot.ent, e1, e2, ⟨L', e3, e4⟩, kept_same hT hS, e5⟩
    · exact (do_stat h1 hn' a z p t d hp ht hc).mono fun _ _ hd => hd.steps (kept_same hT hS)
    · exact (do_forget h1 a z p t d hp ht hc).mono fun _ _ hd => hd.steps (kept_same hT hS)
  · exact (do_err h1 k a z p t d hp ht hc).mono fun _ _ hd => hd.steps (kept_same hT hS)
end Go.Proofs.YtngehkmdanhgpaaGreat.Pl
namespace Go.Proofs.YtngehkmdanhgpaaGreat.Pl
open Go.RowKit
open Vp (Str B bl Val cmpL parseS showS splitS withinS IsPath)
open Nd (Row wp_world post_Row post_Row2 grownBy_setCell below_of_grown checkS)
/-- operations that go one way alone -/
def detT (A : List Ent) (k a z : Int) (p d : ByteArray) : RA × List Ent :=
  if k = 1 then (RA.err (addE A (nmsOf p)), addA A (nmsOf p) true)
  else if k = 2 then (RA.err (addE A (nmsOf p)), addA A (nmsOf p) false)
  else if k = 3 then (⟨wrE A (nmsOf p) a.toNat d, false, wrS A (nmsOf p) a.toNat d, ⟨#[]⟩, []⟩, wrA A (nmsOf p) a.toNat d)
  else if k = 4 then (⟨trE A (nmsOf p), false, trS A (nmsOf p) z.toNat, ⟨#[]⟩, []⟩, trA A (nmsOf p) z.toNat)
  else if k = 5 then (RA.err (ulE A (nmsOf p)), ulA A (nmsOf p))
  else if k = 6 then (RA.err (rmE A (nmsOf p)), rmA A (nmsOf p))
  else if k = 8 then (⟨rdE A (nmsOf p) a.toNat, false, rdS A (nmsOf p) a.toNat, rdB A (nmsOf p) a.toNat z.toNat, []⟩, A)
  else if k = 10 then (⟨stE A (nmsOf p), stD A (nmsOf p), stS A (nmsOf p), ⟨#[]⟩, []⟩, A)
  else (RA.err 0, A)
/-- what an operation tells and leaves -/
def Tells (A : List Ent) (k a z : Int) (p t d : ByteArray) (R : RA) (A' : List Ent) : Prop :=
  if checkS ⟨k, p, t, d, a, z⟩ ≠ 0 then R = RA.err (checkS ⟨k, p, t, d, a, z⟩) ∧ A' = A
  else if k = 7 then R = RA.err (rnE A (nmsOf p) (nmsOf t)) ∧ Moved A (nmsOf p) (nmsOf t) A'
  else if k = 9 then Listed A (nmsOf p) R ∧ A' = A
  else R = (detT A k a z p d).1 ∧ A' = (detT A k a z p d).2
def StepsT (w : World) (g m : Nat) (A : List Ent) (k a z : Int) (p t d : ByteArray) (e : Ending) (w' : World) : Prop := ∃ (R : RA) (v : Value) (A' : List Ent), e = .returned (.agg #[.int .i64 R.code, .bool R.dir, .int .i64 R.size, .string R.data, v]) ∧ Rf.Nm w' v R.names ∧ FsA w' g m A' ∧ Kept A A' ∧ w.grownBy w' (some m) ∧ Tells A k a z p t d R A'
theorem Did.stepsT {w : World} {g m : Nat} {R : RA} {A A' : List Ent} {k a z : Int} {p t d : ByteArray} {e : Ending} {w' : World} (h : Did w g m R A' e w') (k1 : Kept A A') (k2 : Tells A k a z p t d R A') : StepsT w g m A k a z p t d e w' := by
  obtain ⟨v, h1, h2, h3, h4⟩ := h
  exact ⟨R, v, A', h1, h2, h3, k1, h4, k2⟩
theorem stepT_any {W : World} {g m : Nat} {A : List Ent} (h : FsA W g m A) (hT : Tree A) (hS : Small A) (hn : A.length ≤ 100000) (k a z : Int) (p t d : ByteArray) (hp : p.size ≤ 9223372036854775807) (ht : t.size ≤ 9223372036854775807) :
    Calls Tryz.prog 14 #[.pointer (some ⟨g, 0, none⟩), .agg #[.int .i64 k, .string p, .string t, .string d, .int .i64 a, .int .i64 z]] W fun e W' => StepsT W g m A k a z p t d e W' := by
  obtain ⟨L, h1, rfl⟩ := h
  have hA : ((L.map Spot.ent).map (·.names)).Nodup := by rw [List.map_map]; exact h1.map.one
  have hn' : L.length ≤ 100000 := by simpa using hn
  by_cases hc : checkS ⟨k, p, t, d, a, z⟩ = 0
  · obtain ⟨c1, c2, c3, c4, c5, c6⟩ := check_ok hc
    have hk : k = 1 ∨ k = 2 ∨ k = 3 ∨ k = 4 ∨ k = 5 ∨ k = 6 ∨ k = 7 ∨ k = 8 ∨ k = 9 ∨ k = 10 ∨ k = 11 := by omega
    rcases hk with rfl | rfl | rfl | rfl | rfl | rfl | rfl | rfl | rfl | rfl | rfl
    · exact (do_mkdir h1 a z p t d hp ht hc).mono fun _ _ hd => hd.stepsT (kept_add hT hS _ _) (by unfold Tells; rw [if_neg (not_not_intro hc)]; exact ⟨rfl, rfl⟩)
    · exact (do_create h1 a z p t d hp ht hc).mono fun _ _ hd => hd.stepsT (kept_add hT hS _ _) (by unfold Tells; rw [if_neg (not_not_intro hc)]; exact ⟨rfl, rfl⟩)
    · obtain ⟨a', rfl⟩ := Int.eq_ofNat_of_zero_le (show 0 ≤ a by omega)
      exact (do_write h1 hS z a' p t d hp ht hc (by omega) c4).mono fun _ _ hd => hd.stepsT (kept_wr hT hS _ _ _) (by unfold Tells; rw [if_neg (not_not_intro hc)]; exact ⟨rfl, rfl⟩)
    · obtain ⟨z', rfl⟩ := Int.eq_ofNat_of_zero_le (show 0 ≤ z by omega)
      exact (do_trunc h1 hS a z' p t d hp ht hc (by omega)).mono fun _ _ hd => hd.stepsT (kept_tr hT hS _ _ (by omega)) (by unfold Tells; rw [if_neg (not_not_intro hc)]; exact ⟨rfl, rfl⟩)
    · exact (do_unlink h1 a z p t d hp ht hc).mono fun _ _ hd => hd.stepsT (kept_ul hT hS _) (by unfold Tells; rw [if_neg (not_not_intro hc)]; exact ⟨rfl, rfl⟩)
    · exact (do_rmdir h1 hn' a z p t d hp ht hc).mono fun _ _ hd => hd.stepsT (kept_rm hT hS _) (by unfold Tells; rw [if_neg (not_not_intro hc)]; exact ⟨rfl, rfl⟩)
    · exact (do_rename h1 hn' a z p t d hp ht hc).mono fun _ _ ⟨v, e1, e2, ⟨L', e3, e4⟩, e5⟩ => ⟨_, v, L'.map Spot.ent, e1, e2, ⟨L', e3, rfl⟩, kept_rn hT hS hA e4, e5, by unfold Tells; rw [if_neg (not_not_intro hc), if_pos rfl]; exact ⟨rfl, e4⟩⟩
    · obtain ⟨a', rfl⟩ := Int.eq_ofNat_of_zero_le (show 0 ≤ a by omega)
      obtain ⟨z', rfl⟩ := Int.eq_ofNat_of_zero_le (show 0 ≤ z by omega)
      exact (do_read h1 a' z' p t d hp ht hc (by omega) (by omega)).mono fun _ _ hd => hd.stepsT (kept_same hT hS) (by unfold Tells; rw [if_neg (not_not_intro hc)]; exact ⟨rfl, rfl⟩)
    · exact (do_list h1 hn' a z p t d hp ht hc).mono fun _ _ ⟨rc, rd, rs, rx, rn, v, e0, e1, e2, ⟨L', e3, e4⟩, e5⟩ => ⟨⟨rc, rd, rs, rx, rn⟩, v, L.map Spot.ent, e1, e2, ⟨L', e3, e4⟩, kept_same hT hS, e5, by unfold Tells; rw [if_neg (not_not_intro hc), if_neg (by decide), if_pos rfl]; exact ⟨e0, rfl⟩⟩
    · exact (do_stat h1 hn' a z p t d hp ht hc).mono fun _ _ hd => hd.stepsT (kept_same hT hS) (by unfold Tells; rw [if_neg (not_not_intro hc)]; exact ⟨rfl, rfl⟩)
    · exact (do_forget h1 a z p t d hp ht hc).mono fun _ _ hd => hd.stepsT (kept_same hT hS) (by unfold Tells; rw [if_neg (not_not_intro hc)]; exact ⟨rfl, rfl⟩)
  · exact (do_err h1 k a z p t d hp ht hc).mono fun _ _ hd => hd.stepsT (kept_same hT hS) (by unfold Tells; rw [if_pos hc]; exact ⟨rfl, rfl⟩)
/-- an error changes nothing, and is told alone -/
theorem det_err {A : List Ent} {k a z : Int} {p d : ByteArray} (h : (detT A k a z p d).1.code ≠ 0) : (detT A k a z p d).1 = RA.err (detT A k a z p d).1.code ∧ (detT A k a z p d).2 = A := by
  unfold detT at h ⊢
  by_cases k1 : k = 1
  · simp only [if_pos k1] at h ⊢
    exact ⟨rfl, if_neg h⟩
  simp only [if_neg k1] at h ⊢
  by_cases k2 : k = 2
  · simp only [if_pos k2] at h ⊢
    exact ⟨rfl, if_neg h⟩
  simp only [if_neg k2] at h ⊢
  by_cases k3 : k = 3
  · simp only [if_pos k3] at h ⊢
    refine ⟨?_, if_neg h⟩
    unfold wrS
    rw [if_neg h]
    rfl
  simp only [if_neg k3] at h ⊢
  by_cases k4 : k = 4
  · simp only [if_pos k4] at h ⊢
    refine ⟨?_, if_neg h⟩
    unfold trS
    rw [if_neg h]
    rfl
  simp only [if_neg k4] at h ⊢
  by_cases k5 : k = 5
  · simp only [if_pos k5] at h ⊢
    exact ⟨rfl, if_neg h⟩
  simp only [if_neg k5] at h ⊢
  by_cases k6 : k = 6
  · simp only [if_pos k6] at h ⊢
    exact ⟨rfl, if_neg h⟩
  simp only [if_neg k6] at h ⊢
  by_cases k8 : k = 8
  · simp only [if_pos k8] at h ⊢
    unfold rdS rdB
    rw [if_neg h, if_neg h]
    exact ⟨rfl, trivial⟩
  simp only [if_neg k8] at h ⊢
  by_cases k10 : k = 10
  · simp only [if_pos k10] at h ⊢
    unfold stD stS
    rw [if_neg h, if_neg h]
    exact ⟨rfl, trivial⟩
  simp only [if_neg k10] at h ⊢
  exact absurd rfl h
theorem Tells.err {A A' : List Ent} {k a z : Int} {p t d : ByteArray} {R : RA} (h : Tells A k a z p t d R A') (hc : R.code ≠ 0) : R = RA.err R.code ∧ A' = A := by
  unfold Tells at h
  split at h
  · obtain ⟨rfl, rfl⟩ := h
    exact ⟨rfl, rfl⟩
  split at h
  · obtain ⟨rfl, h2⟩ := h
    exact ⟨rfl, h2.1 (.inl hc)⟩
  split at h
  · obtain ⟨⟨h1, h2, h3⟩, rfl⟩ := h
    refine ⟨?_, rfl⟩
    rcases h3 with ⟨_, h4, h5, h6⟩ | ⟨h4, _⟩
    · obtain ⟨rc, rd, rs, rx, rn⟩ := R
      simp only at h2 h4 h5 h6
      subst h2 h4 h5 h6
      rfl
    · exact absurd (h1.trans h4) hc
  · obtain ⟨rfl, rfl⟩ := h
    exact det_err hc
/-- what only reads changes nothing -/
theorem Tells.reads {A A' : List Ent} {k a z : Int} {p t d : ByteArray} {R : RA} (h : Tells A k a z p t d R A') (hk : k = 8 ∨ k = 9 ∨ k = 10) : A' = A := by
  unfold Tells at h
  split at h
  · exact h.2
  rw [if_neg (by omega)] at h
  split at h
  · exact h.2
  · rename_i h9
    obtain ⟨_, rfl⟩ := h
    unfold detT
    rcases hk with rfl | rfl | rfl
    · rfl
    · exact absurd rfl h9
    · rfl
theorem rn_free {A : List Ent} {p q : List Str} (hT : Tree A) (h : rnE A p q = 0) (hpq : p ≠ q) : ∀ s, s ≠ [] → entAt A (q ++ s) = none := by
  cases hq : entAt A q with
  | none => exact fun s _ => hT.none hq _ s rfl
  | some o =>
    have hcv : cvE A p q = 0 := by
      have h1 := h
      unfold rnE at h1
      split at h1
      · rename_i h2
        exact absurd h1 h2
      (try rw [if_neg hpq] at h1)
      unfold mvE at h1
      split at h1
      · cases h1
      split at h1
      · rename_i h2
        exact absurd h1 h2
      · rename_i h2
        exact Classical.byContradiction h2
    unfold cvE at hcv
    rw [hq] at hcv
    simp only at hcv
    unfold covE at hcv
    split at hcv
    · cases hcv
    split at hcv
    · cases hcv
    split at hcv
    · cases hcv
    rename_i h3
    exact none_below h3
theorem moved_one {A C D : List Ent} {p q : List Str} (hT : Tree A) (hA : (A.map (·.names)).Nodup) (h : Moved A p q C) (k : Moved A p q D) : C.Perm D := by
  by_cases hc : rnE A p q = 0 ∧ p ≠ q
  · obtain ⟨x, es, hx, hp, rfl⟩ := h.2 hc
    obtain ⟨y, fs, hy, hq, rfl⟩ := k.2 hc
    rw [hx] at hy
    obtain rfl := Option.some.inj hy
    have hqs := rn_free hT hc.1 hc.2
    have hw := (rn_ok hc.1).2.2.2.2 hc.2
    have hwp : withinS p q = false := by
      cases hcc : withinS p q with
      | false => rfl
      | true =>
        obtain ⟨s, hs⟩ := within_iff.1 hcc
        by_cases h0 : s = []
        · rw [h0, List.append_nil] at hs
          exact absurd hs hc.2
        · rw [hs, hqs s h0] at hx
          cases hx
    obtain ⟨a1, a2, a3⟩ := at_moved2 hA hx hp ⟨hwp, hw⟩ hqs
    obtain ⟨b1, b2, b3⟩ := at_moved2 hA hx hq ⟨hwp, hw⟩ hqs
    refine perm_at (nodup_moves _ _ hA) (nodup_moves _ _ hA) (fun n => ?_)
    cases h1 : withinS n q with
    | true =>
      obtain ⟨s, rfl⟩ := within_iff.1 h1
      rw [a1, b1]
    | false =>
      cases h2 : withinS n p with
      | true =>
        obtain ⟨s, rfl⟩ := within_iff.1 h2
        rw [a2, b2]
      | false => rw [a3 n h2 h1, b3 n h2 h1]
  · have hn : rnE A p q ≠ 0 ∨ p = q := by
      by_cases h1 : rnE A p q = 0
      · exact .inr (Classical.byContradiction fun h2 => hc ⟨h1, h2⟩)
      · exact .inl h1
    rw [h.1 hn, k.1 hn]
theorem listed_one {A : List Ent} {xs : List Str} {R S : RA} (hA : (A.map (·.names)).Nodup) (h : Listed A xs R) (k : Listed A xs S) : R = S := by
  obtain ⟨rc, rd, rs, rx, rn⟩ := R
  obtain ⟨sc, sd, ss, sx, sn⟩ := S
  obtain ⟨h1, h2, h3⟩ := h
  obtain ⟨k1, k2, k3⟩ := k
  simp only at h1 h2 h3 k1 k2 k3
  subst h1 h2 k1 k2
  rcases h3 with ⟨h0, h4, h5, h6⟩ | ⟨h0, h4, h5, es, e1, e2, e3⟩
  · rcases k3 with ⟨_, k4, k5, k6⟩ | ⟨k0, _⟩
    · subst h4 h5 h6 k4 k5 k6
      rfl
    · exact absurd k0 h0
  · rcases k3 with ⟨k0, _⟩ | ⟨_, k4, k5, fs, f1, f2, f3⟩
    · exact absurd h0 k0
    · have hmem : ∀ e ∈ fs, e ∈ A := fun e he => by
        have := f1.mem_iff.1 he
        unfold kidsA at this
        exact (List.mem_filter.1 (List.mem_filter.1 this).1).1
      have hpp : es.Perm fs := e1.trans f1.symm
      have : es = fs := List.Perm.eq_of_pairwise (le := fun s t => ¬ cmpL t.names s.names < 0) (fun a b ha hb h1 h2 => by
        have hn : a.names = b.names := by
          have t1 := Vp.cmpL_is.turn a.names b.names
          have t2 := Vp.cmpL_is.three a.names b.names
          exact (Vp.cmpL_is.zero _ _).1 (by omega)
        have q1 := at_mem hA (hmem a (hpp.mem_iff.1 ha))
        have q2 := at_mem hA (hmem b hb)
        rw [hn] at q1
        exact Option.some.inj (q1.symm.trans q2)) e2 f2 hpp
      subst this
      subst h4 k4 e3 f3 h5 k5
      rfl
/-- one way alone -/
theorem Tells.one {A C D : List Ent} {k a z : Int} {p t d : ByteArray} {R S : RA} (hT : Tree A) (hA : (A.map (·.names)).Nodup) (h : Tells A k a z p t d R C) (g : Tells A k a z p t d S D) : R = S ∧ C.Perm D := by
  unfold Tells at h g
  split at h
  · rename_i hc
    rw [if_pos hc] at g
    obtain ⟨rfl, rfl⟩ := h
    obtain ⟨rfl, rfl⟩ := g
    exact ⟨rfl, List.Perm.refl _⟩
  rename_i hc
  rw [if_neg hc] at g
  split at h
  · rename_i h7
    rw [if_pos h7] at g
    obtain ⟨rfl, h2⟩ := h
    obtain ⟨rfl, g2⟩ := g
    exact ⟨rfl, moved_one hT hA h2 g2⟩
  rename_i h7
  rw [if_neg h7] at g
  split at h
  · rename_i h9
    rw [if_pos h9] at g
    obtain ⟨h1, rfl⟩ := h
    obtain ⟨g1, rfl⟩ := g
    exact ⟨listed_one hA h1 g1, List.Perm.refl _⟩
  rename_i h9
  rw [if_neg h9] at g
  obtain ⟨rfl, rfl⟩ := h
  obtain ⟨rfl, rfl⟩ := g
  exact ⟨rfl, List.Perm.refl _⟩
end Go.Proofs.YtngehkmdanhgpaaGreat.Pl
