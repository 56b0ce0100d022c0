/-
  Do of list. Any operation: what is there behind it is a tree, of small files, of one path more at most. New, stat and list of what is there, told in full.
-/
import Derived.Laws.Tables
import Derived.Lib.SlBytesConst
import Derived.Deep.RegionLaw
import Derived.Deep.DrawnRows
import Derived.Lib.AppendZeros
import Derived.Laws.CopyOwn
import Derived.Test.YtngehkmdanhgpaaGreatT00
import Derived.Test.YtngehkmdanhgpaaGreatT01
import Derived.Test.YtngehkmdanhgpaaGreatT02
import Derived.Test.YtngehkmdanhgpaaGreatT03
import Derived.Test.YtngehkmdanhgpaaGreatT04
import Derived.Test.YtngehkmdanhgpaaGreatT05
import Derived.Test.YtngehkmdanhgpaaGreatT06
import Derived.Test.YtngehkmdanhgpaaGreatT07
import Derived.Test.YtngehkmdanhgpaaGreatT08
import Derived.Test.YtngehkmdanhgpaaGreatT09
import Derived.Test.YtngehkmdanhgpaaGreatT10
import Derived.Test.YtngehkmdanhgpaaGreatT11
import Derived.Test.YtngehkmdanhgpaaGreatT12
import Derived.Test.YtngehkmdanhgpaaGreatT13
import Derived.Test.YtngehkmdanhgpaaGreatT14
import Derived.Test.YtngehkmdanhgpaaGreatT15
import Derived.Test.YtngehkmdanhgpaaGreatT16
import Derived.Test.YtngehkmdanhgpaaGreatT17
import Derived.Test.YtngehkmdanhgpaaGreatT18
import Derived.Test.YtngehkmdanhgpaaGreatT19
import Derived.Test.YtngehkmdanhgpaaGreatT20
import Derived.Test.YtngehkmdanhgpaaGreatT21
import Derived.Test.YtngehkmdanhgpaaGreatT22
import Derived.Test.YtngehkmdanhgpaaGreatT23
import Derived.Test.YtngehkmdanhgpaaGreatT24
import Derived.Test.YtngehkmdanhgpaaGreatT25
import Derived.Test.YtngehkmdanhgpaaGreatT26
import Derived.Test.YtngehkmdanhgpaaGreatT27
import Derived.Test.YtngehkmdanhgpaaGreatT28
import Derived.Test.YtngehkmdanhgpaaGreatT29
import Derived.Test.YtngehkmdanhgpaaGreatT30
import Derived.Test.YtngehkmdanhgpaaGreatT31
import Derived.Test.YtngehkmdanhgpaaGreatT32
import Derived.Test.YtngehkmdanhgpaaGreatT33
import Derived.Test.YtngehkmdanhgpaaGreatT34
import Derived.Test.YtngehkmdanhgpaaGreatT35
import Derived.Test.YtngehkmdanhgpaaGreatT36
import Derived.Test.YtngehkmdanhgpaaGreatT37
import Derived.Test.YtngehkmdanhgpaaGreatT38
import Derived.Test.YtngehkmdanhgpaaGreatT39
import Derived.Test.YtngehkmdanhgpaaGreatT40
import Derived.Test.YtngehkmdanhgpaaGreatT41
import Derived.Test.YtngehkmdanhgpaaGreatT42
import Derived.Test.YtngehkmdanhgpaaGreatT43
import Derived.Test.YtngehkmdanhgpaaGreatT44
import Derived.Test.YtngehkmdanhgpaaGreatT45
import Derived.Test.YtngehkmdanhgpaaGreatT46
namespace Go.Proofs.YtngehkmdanhgpaaGreat.Pl
open Go.RowKit
open Vp (Str B bl Val cmpL parseS showS splitS withinS IsPath)
open Nd (Row wp_world post_Row post_Row2 grownBy_setCell below_of_grown Opn checkS)
/-- what holds of what is answered, and what is there behind it -/
def DidR (w : World) (g m : Nat) (PR : RA → Prop) (A' : List Ent) (e : Ending) (w' : World) : Prop := ∃ rc rd rs rx rn v, PR ⟨rc, rd, rs, rx, rn⟩ ∧ e = .returned (Res.val ⟨rc, rd, rs, rx, v⟩) ∧ Rf.Nm w' v rn ∧ (∃ L', Fs w' g m L' ∧ L'.map Spot.ent = A') ∧ w.grownBy w' (some m)
/-- what list tells -/
def Listed (A : List Ent) (xs : List Str) (R : RA) : Prop := R.code = lsE A xs ∧ R.data = ⟨#[]⟩ ∧ ((lsE A xs ≠ 0 ∧ R.dir = false ∧ R.size = 0 ∧ R.names = []) ∨ (lsE A xs = 0 ∧ R.dir = true ∧ R.size = (R.names.length : Int) ∧ ∃ es : List Ent, es.Perm (kidsA A xs) ∧ es.Pairwise (fun s t => ¬ cmpL t.names s.names < 0) ∧ R.names = es.map shownS))
set_option maxHeartbeats 1000000 in
set_option maxRecDepth 100000 in
theorem deed_9 (v : Value) (w : World) : Calls Tryz.prog 32 #[v, .int .i64 9] w fun e w' => e = .returned (.func (.func 71) #[v] #[]) ∧ w' = w := by
  go_enter Tryz.func32, Tryz.ntmps32
  go_wp2
  go_ret
  exact ⟨rfl, rfl⟩
set_option maxHeartbeats 4000000 in
set_option maxRecDepth 100000 in
theorem do_9 {w : World} {g m : Nat} {L : List Spot} (h : Fs w g m L) (a z : Int) (p t d : ByteArray) (hp : p.size ≤ 9223372036854775807) (ht : t.size ≤ 9223372036854775807) (hc : checkS ⟨9, p, t, d, a, z⟩ = 0) (PR : RA → Prop) (A' : List Ent)
    (hd : ∀ W, Below w.heap.size w W → Calls Tryz.prog 71 #[.pointer (some ⟨g, 0, none⟩), .agg #[.int .i64 9, .string p, .string t, .string d, .int .i64 a, .int .i64 z]] W fun e w' => DidR W g m PR A' e w') :
    Calls Tryz.prog 14 #[.pointer (some ⟨g, 0, none⟩), .agg #[.int .i64 9, .string p, .string t, .string d, .int .i64 a, .int .i64 z]] w fun e w' => DidR w g m PR A' e w' := by
  obtain ⟨WA, HWA, HRO, HRA, HBA⟩ := op_box w 9 a z p t d
  have H := hid_in h
  have HG := hid_in h.ne1
  have HCK := hid_in (fun W => Nd.check_any ⟨9, p, t, d, a, z⟩ hp ht W)
  simp only [Opn.val] at HCK
  rw [hc] at HCK
  have HD := hid_in hd
  have HDE := hid_in (fun W => deed_9 (.pointer (some ⟨g, 0, none⟩)) W)
  obtain ⟨c0, c1, c2, c3, c4, c5⟩ := op_cells HRO.out (Below.refl _ WA)
  have HK := hid_in (fun W (kb : Below WA.heap.size WA W) => op_cells HRO.out kb)
  unfold DidR at HD
  simp only [Res.val] at HD
  clear h hc hd
  go_enter Tryz.func14, Tryz.ntmps14
  go_upto_region 1 with fail
  refine wp_world HWA.out ?_
  go_upto_region 6 with (first | (go_at_call 31; refine (HCK.out _).mono ?_; rintro e w1 ⟨rfl, hb1⟩; have HC1 := hid_in hb1; clear hb1))
  obtain ⟨e0, e1, e2, e3, e4, e5⟩ := HK.out _ HC1.out
  clear c0 c1 c2 c3 c4 c5
  have HB1 := hid_in (HBA.out.trans (HC1.out.mono HBA.out.size))
  go_region_with (first | (go_at_call 32; refine (HDE.out _).mono ?_; rintro e w2 ⟨rfl, rfl⟩) | (go_at_call 71; refine (HD.out _ (below_drewN HB1.out 1)).mono ?_; rintro e w3 ⟨rc, rd, rs, rx, rn, v3, hpr, rfl, hn3, ⟨L3, hf3, ha3⟩, hg3⟩; have HPR := hid_in hpr; clear hpr; obtain ⟨vp, vc, rfl⟩ := hn3.form; have hr3 := Row.map (HRA.out.below (below_drewN HC1.out 1) HRA.out.lt) (H.out.below (below_drewN HB1.out 1)).map hg3; obtain ⟨⟨g0, g1, g2, g3, g4⟩, q0, q1, q2, q3, q4⟩ := res_cells hr3 (Below.refl _ w3); have HR3 := hid_in hr3; have HN3 := hid_in hn3; have HF3 := hid_in hf3; have HA3 := hid_in ha3; have HG3 := hid_in (grown_plus (below_drewN HB1.out 1) hg3); clear hn3 hf3 ha3 hg3 hr3))
  all_goals
    go_wp2
    exact post_Row 4 37 rfl (w.heap.size + 1) rfl 37 [.int .i64 rc, .bool rd, .int .i64 rs, .string rx, .slice vp rn.length vc] (set5_row HR3.out rfl _ _ _ _ _) _ Tryz.underlying37 rfl 5 info37 rfl rfl ⟨rc, rd, rs, rx, rn, _, HPR.out, rfl, nm_set5 HN3.out HR3.out (by decide) _ _ _ _ _, ⟨_, HF3.out.set5 HR3.out (by decide) HG.out _ _ _ _ _, HA3.out⟩, grown_set5 HG3.out (Nat.le_succ _) _ _ _ _ _⟩
theorem do_list {w : World} {g m : Nat} {L : List Spot} (h : Fs w g m L) (hn : L.length ≤ 100000) (a z : Int) (p t d : ByteArray) (hp : p.size ≤ 9223372036854775807) (ht : t.size ≤ 9223372036854775807) (hc : checkS ⟨9, p, t, d, a, z⟩ = 0) :
    Calls Tryz.prog 14 #[.pointer (some ⟨g, 0, none⟩), .agg #[.int .i64 9, .string p, .string t, .string d, .int .i64 a, .int .i64 z]] w fun e w' => DidR w g m (Listed (L.map Spot.ent) (nmsOf p)) (L.map Spot.ent) e w' :=
  do_9 h a z p t d hp ht hc _ _ fun _ k => (listO_any (h.below k) hn 9 a z p t d hp).mono fun _ _ ⟨b, s, v, ns, he, hv, hf, hb, hh⟩ => ⟨_, b, s, _, ns, v, ⟨rfl, rfl, hh⟩, he, hv, ⟨L, hf, rfl⟩, below_but m hb⟩
end Go.Proofs.YtngehkmdanhgpaaGreat.Pl
namespace Go.Proofs.YtngehkmdanhgpaaGreat.Pl
open Go.RowKit
open Vp (Str B bl Val cmpL parseS showS splitS withinS IsPath)
open Nd (Row wp_world post_Row post_Row2 grownBy_setCell below_of_grown Opn checkS numsOk namedS pathsS perr)
theorem small_put {A : List Ent} {e : Ent} (h : Small A) (he : e.data.size ≤ 1024) : Small (putA A e) := fun t ht => by
  rcases mem_putA A e t ht with rfl | ht
  · exact he
  · exact h t ht
theorem small_cut {A : List Ent} (h : Small A) (xs : List Str) : Small (cutA A xs) := fun t ht => h t (List.mem_filter.1 ht).1
theorem small_moves {p q : List Str} : ∀ (es A : List Ent), Small A → (∀ e ∈ es, e.data.size ≤ 1024) → Small (movesA p q es A)
  | [], _, h, _ => h
  | e :: es, A, h, he => small_moves es (stepA p q A e) (small_put (small_cut h _) (he e (by simp))) fun x hx => he x (by simp [hx])
theorem small_rn {A A' : List Ent} {p q : List Str} (hS : Small A) (hA : (A.map (·.names)).Nodup) (h : Moved A p q A') : Small A' := by
  by_cases hc : rnE A p q = 0 ∧ p ≠ q
  · obtain ⟨x, es, hx, hp, e⟩ := h.2 hc
    obtain ⟨h1, _, _⟩ := moved_names hA hx hp
    rw [e]
    exact small_moves _ _ hS fun e he => hS e (h1 e he).1
  · rw [h.1 (by
      by_cases h0 : rnE A p q = 0
      · exact .inr (Classical.byContradiction fun hh => hc ⟨h0, hh⟩)
      · exact .inl h0)]
    exact hS
/-- what stands behind any operation -/
structure Kept (A A' : List Ent) : Prop where
  tree : Tree A'
  small : Small A'
  len : A'.length ≤ A.length + 1
theorem kept_same {A : List Ent} (hT : Tree A) (hS : Small A) : Kept A A := ⟨hT, hS, by omega⟩
theorem kept_add {A : List Ent} (hT : Tree A) (hS : Small A) (xs : List Str) (d : Bool) : Kept A (addA A xs d) := by
  refine ⟨tree_add hT xs d, ?_, ?_⟩ <;> unfold addA <;> split
  · exact small_put hS (by show (0 : Nat) ≤ _; omega)
  · exact hS
  · exact len_put _ _
  · omega
theorem kept_wr {A : List Ent} (hT : Tree A) (hS : Small A) (xs : List Str) (a : Nat) (d : ByteArray) : Kept A (wrA A xs a d) := by
  refine ⟨tree_wr hT xs a d, ?_, ?_⟩ <;> unfold wrA <;> split
  · rename_i h
    unfold wrE at h
    split at h
    · rename_i h1
      exact absurd h h1
    rename_i h1
    split at h
    · cases h
    rename_i h2
    split at h
    · cases h
    rename_i h3
    refine small_put hS ?_
    show (wrD _ _ _).size ≤ _
    have h1 : (findFA A xs).2 = 0 := Classical.byContradiction h1
    obtain ⟨f, f1, _⟩ := findFA_at h1
    have h4 : (findFA A xs).1.data.size ≤ 1024 := by
      unfold findFA at h1 ⊢
      split at h1
      · cases h1
      · rename_i h5
        rw [if_neg h5]
        exact hS _ (at_names (findA_at h1)).2
    rw [wrD_size _ _ _ (by omega)]
    omega
  · exact hS
  · exact len_put _ _
  · omega
theorem kept_tr {A : List Ent} (hT : Tree A) (hS : Small A) (xs : List Str) (z : Nat) (hz : z ≤ 1024) : Kept A (trA A xs z) := by
  refine ⟨tree_tr hT xs z, ?_, ?_⟩ <;> unfold trA <;> split
  · exact small_put hS (by show (trD _ _).size ≤ _; rw [trD_size]; exact hz)
  · exact hS
  · exact len_put _ _
  · omega
theorem len_cutA (A : List Ent) (xs : List Str) : (cutA A xs).length ≤ A.length := List.length_filter_le _ _
theorem kept_ul {A : List Ent} (hT : Tree A) (hS : Small A) (xs : List Str) : Kept A (ulA A xs) := by
  refine ⟨tree_ul hT xs, ?_, ?_⟩ <;> unfold ulA <;> split
  · exact small_cut hS _
  · exact hS
  · have := len_cutA A xs; omega
  · omega
theorem kept_rm {A : List Ent} (hT : Tree A) (hS : Small A) (xs : List Str) : Kept A (rmA A xs) := by
  refine ⟨tree_rm hT xs, ?_, ?_⟩ <;> unfold rmA <;> split
  · exact small_cut hS _
  · exact hS
  · have := len_cutA A xs; omega
  · omega
theorem kept_rn {A A' : List Ent} {p q : List Str} (hT : Tree A) (hS : Small A) (hA : (A.map (·.names)).Nodup) (h : Moved A p q A') : Kept A A' :=
  ⟨tree_rn hT hA h, small_rn hS hA h, by have := len_moved hA h; omega⟩
/-- a result is answered, and what is there stands well -/
def Steps (w : World) (g m : Nat) (A : List Ent) (e : Ending) (w' : World) : Prop := ∃ (R : RA) (v : Value) (A' : List Ent), e = .returned (Res.val ⟨R.code, R.dir, R.size, R.data, v⟩) ∧ Rf.Nm w' v R.names ∧ FsA w' g m A' ∧ Kept A A' ∧ w.grownBy w' (some m)
theorem Did.steps {w : World} {g m : Nat} {R : RA} {A A' : List Ent} {e : Ending} {w' : World} (h : Did w g m R A' e w') (k : Kept A A') : Steps w g m A e w' := by
  obtain ⟨v, h1, h2, h3, h4⟩ := h
  exact ⟨R, v, A', h1, h2, h3, k, h4⟩
theorem check_ok {k a z : Int} {p t d : ByteArray} (h : checkS ⟨k, p, t, d, a, z⟩ = 0) : 1 ≤ k ∧ k ≤ 11 ∧ (k = 11 ∨ (0 ≤ a ∧ 0 ≤ z)) ∧ d.size ≤ 1024 ∧ a ≤ 1024 ∧ z ≤ 1024 := by
  unfold checkS at h
  simp only at h
  split at h
  · cases h
  rename_i h1
  split at h
  · cases h
  rename_i h2
  split at h
  · cases h
  rename_i h3
  have h4 : numsOk k a z := Classical.byContradiction fun hh => h2 (.inr hh)
  unfold numsOk at h4
  have h1 : 1 ≤ k ∧ k ≤ 11 := Classical.byContradiction h1
  exact ⟨h1.1, h1.2, by omega, by omega, by omega, by omega⟩
theorem step_any {W : World} {g m : Nat} {A : List Ent} (h : FsA W g m A) (hT : Tree A) (hS : Small A) (hn : A.length ≤ 100000) (k a z : Int) (p t d : ByteArray) (hp : p.size ≤ 9223372036854775807) (ht : t.size ≤ 9223372036854775807) :
    Calls Tryz.prog 14 #[.pointer (some ⟨g, 0, none⟩), .agg #[.int .i64 k, .string p, .string t, .string d, .int .i64 a, .int .i64 z]] W fun e W' => Steps W g m A e W' := by
  obtain ⟨L, h1, rfl⟩ := h
  have hA : ((L.map Spot.ent).map (·.names)).Nodup := by rw [List.map_map]; exact h1.map.one
  have hn' : L.length ≤ 100000 := by simpa using hn
  by_cases hc : checkS ⟨k, p, t, d, a, z⟩ = 0
  · obtain ⟨c1, c2, c3, c4, c5, c6⟩ := check_ok hc
    have hk : k = 1 ∨ k = 2 ∨ k = 3 ∨ k = 4 ∨ k = 5 ∨ k = 6 ∨ k = 7 ∨ k = 8 ∨ k = 9 ∨ k = 10 ∨ k = 11 := by omega
    rcases hk with rfl | rfl | rfl | rfl | rfl | rfl | rfl | rfl | rfl | rfl | rfl
    · exact (do_mkdir h1 a z p t d hp ht hc).mono fun _ _ hd => hd.steps (kept_add hT hS _ _)
    · exact (do_create h1 a z p t d hp ht hc).mono fun _ _ hd => hd.steps (kept_add hT hS _ _)
    · obtain ⟨a', rfl⟩ := Int.eq_ofNat_of_zero_le (show 0 ≤ a by omega)
      exact (do_write h1 hS z a' p t d hp ht hc (by omega) c4).mono fun _ _ hd => hd.steps (kept_wr hT hS _ _ _)
    · obtain ⟨z', rfl⟩ := Int.eq_ofNat_of_zero_le (show 0 ≤ z by omega)
      exact (do_trunc h1 hS a z' p t d hp ht hc (by omega)).mono fun _ _ hd => hd.steps (kept_tr hT hS _ _ (by omega))
    · exact (do_unlink h1 a z p t d hp ht hc).mono fun _ _ hd => hd.steps (kept_ul hT hS _)
    · exact (do_rmdir h1 hn' a z p t d hp ht hc).mono fun _ _ hd => hd.steps (kept_rm hT hS _)
    · exact (do_rename h1 hn' a z p t d hp ht hc).mono fun _ _ ⟨v, e1, e2, ⟨L', e3, e4⟩, e5⟩ => ⟨_, v, L'.map Spot.ent, e1, e2, ⟨L', e3, rfl⟩, kept_rn hT hS hA e4, e5⟩
    · obtain ⟨a', rfl⟩ := Int.eq_ofNat_of_zero_le (show 0 ≤ a by omega)
      obtain ⟨z', rfl⟩ := Int.eq_ofNat_of_zero_le (show 0 ≤ z by omega)
      exact (do_read h1 a' z' p t d hp ht hc (by omega) (by omega)).mono fun _ _ hd => hd.steps (kept_same hT hS)
    · exact (do_list h1 hn' a z p t d hp ht hc).mono fun _ _ ⟨rc, rd, rs, rx, rn, v, _, e1, e2, ⟨L', e3, e4⟩, e5⟩ => ⟨⟨rc, rd, rs, rx, rn⟩, v, L.map Spot.ent, e1, e2, ⟨L', e3, e4⟩, kept_same hT hS, e5⟩
    · exact (do_stat h1 hn' a z p t d hp ht hc).mono fun _ _ hd => hd.steps (kept_same hT hS)
    · exact (do_forget h1 a z p t d hp ht hc).mono fun _ _ hd => hd.steps (kept_same hT hS)
  · exact (do_err h1 k a z p t d hp ht hc).mono fun _ _ hd => hd.steps (kept_same hT hS)
end Go.Proofs.YtngehkmdanhgpaaGreat.Pl
namespace Go.Proofs.YtngehkmdanhgpaaGreat.Pl
open Go.RowKit
open Vp (Str B bl Val cmpL parseS showS splitS withinS IsPath)
open Nd (Row wp_world post_Row post_Row2 grownBy_setCell below_of_grown Opn checkS numsOk namedS pathsS perr)
open Rf (Fil Fls fcells)
theorem small_new {fs : List Fil} (h : newE fs = 0) : Small (newA fs) := by
  unfold newE at h
  split at h
  · rename_i h1
    exact absurd h h1
  split at h
  · rename_i h1
    exact absurd h h1
  rename_i _ h1
  have h1 : dataE fs = 0 := Classical.byContradiction h1
  unfold dataE at h1
  split at h1
  · cases h1
  split at h1
  · cases h1
  rename_i hb
  intro e he
  rcases List.mem_cons.1 he with rfl | he
  · show (0 : Nat) ≤ _
    omega
  · obtain ⟨f, hf, rfl⟩ := List.mem_map.1 he
    show f.data.size ≤ _
    have : ¬ bigP f = true := fun hh => hb (List.any_eq_true.2 ⟨f, hf, hh⟩)
    unfold bigP at this
    simp at this
    omega
theorem w_statF {W : World} {g m : Nat} {A : List Ent} (h : FsA W g m A) (hn : A.length ≤ 100000) (p : ByteArray) (hp : p.size ≤ 9223372036854775807) (hc : perr p = 0) :
    Calls Tryz.prog 14 #[.pointer (some ⟨g, 0, none⟩), .agg #[.int .i64 10, .string p, .string ⟨#[]⟩, .string ⟨#[]⟩, .int .i64 0, .int .i64 0]] W fun e W' => Does W g m ⟨stE A (nmsOf p), stD A (nmsOf p), stS A (nmsOf p), ⟨#[]⟩, []⟩ A e W' := by
  obtain ⟨L, h1, rfl⟩ := h
  have hk : checkS ⟨10, p, ⟨#[]⟩, ⟨#[]⟩, 0, 0⟩ = perr p := by
    have hz : (⟨#[]⟩ : ByteArray).size = 0 := rfl
    simp [checkS, namedS, numsOk, pathsS, hz]
  have h0 : (⟨#[]⟩ : ByteArray).size ≤ 9223372036854775807 := by show (0 : Nat) ≤ _; omega
  exact (do_stat h1 (by simpa using hn) 0 0 p ⟨#[]⟩ ⟨#[]⟩ hp h0 (hk.trans hc)).mono fun _ _ hd => hd.does
theorem w_listF {W : World} {g m : Nat} {A : List Ent} (h : FsA W g m A) (hn : A.length ≤ 100000) (p : ByteArray) (hp : p.size ≤ 9223372036854775807) (hc : perr p = 0) :
    Calls Tryz.prog 14 #[.pointer (some ⟨g, 0, none⟩), .agg #[.int .i64 9, .string p, .string ⟨#[]⟩, .string ⟨#[]⟩, .int .i64 0, .int .i64 0]] W fun e W' => DidR W g m (Listed A (nmsOf p)) A e W' := by
  obtain ⟨L, h1, rfl⟩ := h
  have hk : checkS ⟨9, p, ⟨#[]⟩, ⟨#[]⟩, 0, 0⟩ = perr p := by
    have hz : (⟨#[]⟩ : ByteArray).size = 0 := rfl
    simp [checkS, namedS, numsOk, pathsS, hz]
  have h0 : (⟨#[]⟩ : ByteArray).size ≤ 9223372036854775807 := by show (0 : Nat) ≤ _; omega
  exact do_list h1 (by simpa using hn) 0 0 p ⟨#[]⟩ ⟨#[]⟩ hp h0 (hk.trans hc)
theorem perr_show {xs : List Str} (h : Gp xs) : perr (B (showS xs)) = 0 ∧ nmsOf (B (showS xs)) = xs := by
  have e : bl (B (showS xs)) = showS xs := by simp [B, bl]
  unfold perr nmsOf
  rw [e, h.parse]
  exact ⟨rfl, rfl⟩
/-- what stat tells of what is there -/
theorem stat_at {A : List Ent} (hT : Tree A) {e : Ent} (h : entAt A e.names = some e) : stE A e.names = 0 ∧ stD A e.names = e.dir ∧ stS A e.names = if e.dir then ((kidsA A e.names).length : Int) else (e.data.size : Int) := by
  have hf := hT.find h
  have h1 : stE A e.names = 0 := by unfold stE; rw [hf]
  refine ⟨h1, ?_, ?_⟩
  · unfold stD
    rw [if_pos h1, hf]
  · unfold stS
    rw [if_pos h1, hf]
/-- what list tells of a directory that is there, of a file -/
theorem ls_dir {A : List Ent} (hT : Tree A) {e : Ent} (h : entAt A e.names = some e) (hd : e.dir = true) : lsE A e.names = 0 := hT.findD h hd
theorem ls_file {A : List Ent} (hT : Tree A) {e : Ent} (h : entAt A e.names = some e) (hd : e.dir = false) : lsE A e.names = 70 := by
  unfold lsE findDA
  rw [hT.find h, if_pos ⟨rfl, hd⟩]
end Go.Proofs.YtngehkmdanhgpaaGreat.Pl
