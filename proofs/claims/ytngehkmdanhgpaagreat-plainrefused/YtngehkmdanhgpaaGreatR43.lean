/-
  The walk of awake. Any operation: what is there behind it is a tree, of small files, of one path more at most.
-/
import Derived.Deep.RegionLaw
import Derived.Deep.DrawnRows
import Derived.Laws.Tables
import Derived.Laws.CopyOwn
import Derived.Lib.SlBytesConst
import Derived.Lib.AppendZeros
import Derived.Test.YtngehkmdanhgpaaGreatR00
import Derived.Test.YtngehkmdanhgpaaGreatR01
import Derived.Test.YtngehkmdanhgpaaGreatR02
import Derived.Test.YtngehkmdanhgpaaGreatR03
import Derived.Test.YtngehkmdanhgpaaGreatR04
import Derived.Test.YtngehkmdanhgpaaGreatR05
import Derived.Test.YtngehkmdanhgpaaGreatR06
import Derived.Test.YtngehkmdanhgpaaGreatR07
import Derived.Test.YtngehkmdanhgpaaGreatR08
import Derived.Test.YtngehkmdanhgpaaGreatR09
import Derived.Test.YtngehkmdanhgpaaGreatR10
import Derived.Test.YtngehkmdanhgpaaGreatR11
import Derived.Test.YtngehkmdanhgpaaGreatR12
import Derived.Test.YtngehkmdanhgpaaGreatR13
import Derived.Test.YtngehkmdanhgpaaGreatR14
import Derived.Test.YtngehkmdanhgpaaGreatR15
import Derived.Test.YtngehkmdanhgpaaGreatR16
import Derived.Test.YtngehkmdanhgpaaGreatR17
import Derived.Test.YtngehkmdanhgpaaGreatR18
import Derived.Test.YtngehkmdanhgpaaGreatR19
import Derived.Test.YtngehkmdanhgpaaGreatR20
import Derived.Test.YtngehkmdanhgpaaGreatR21
import Derived.Test.YtngehkmdanhgpaaGreatR22
import Derived.Test.YtngehkmdanhgpaaGreatR23
import Derived.Test.YtngehkmdanhgpaaGreatR24
import Derived.Test.YtngehkmdanhgpaaGreatR25
import Derived.Test.YtngehkmdanhgpaaGreatR26
import Derived.Test.YtngehkmdanhgpaaGreatR27
import Derived.Test.YtngehkmdanhgpaaGreatR28
import Derived.Test.YtngehkmdanhgpaaGreatR29
import Derived.Test.YtngehkmdanhgpaaGreatR30
import Derived.Test.YtngehkmdanhgpaaGreatR31
import Derived.Test.YtngehkmdanhgpaaGreatR32
import Derived.Test.YtngehkmdanhgpaaGreatR33
import Derived.Test.YtngehkmdanhgpaaGreatR34
import Derived.Test.YtngehkmdanhgpaaGreatR35
import Derived.Test.YtngehkmdanhgpaaGreatR36
import Derived.Test.YtngehkmdanhgpaaGreatR37
import Derived.Test.YtngehkmdanhgpaaGreatR38
import Derived.Test.YtngehkmdanhgpaaGreatR39
import Derived.Test.YtngehkmdanhgpaaGreatR40
import Derived.Test.YtngehkmdanhgpaaGreatR41
import Derived.Test.YtngehkmdanhgpaaGreatR42
namespace Go.Proofs.YtngehkmdanhgpaaGreat.Pl
open Go.RowKit
open Vp (Str B bl Val cmpL parseS showS splitS withinS IsPath)
open Nd (Row wp_world post_Row post_Row2 grownBy_setCell below_of_grown Opn checkS)
open Rf (Fil Fls)
/-- a file system, by what is there -/
def FsA (w : World) (g m : Nat) (A : List Ent) : Prop := ∃ L, Fs w g m L ∧ L.map Spot.ent = A
theorem FsA.below {w w' : World} {g m : Nat} {A : List Ent} (h : FsA w g m A) (k : Below w.heap.size w w') : FsA w' g m A := by
  obtain ⟨L, h1, h2⟩ := h
  exact ⟨L, h1.below k, h2⟩
/-- a file system of one path -/
theorem new_one (f : Fil) (w : World) (hp : f.path.size ≤ 9223372036854775807) (hE : newE [f] = 0) :
    Calls Tryz.prog 10 #[.slice (some ⟨w.heap.size, 0, none⟩) 1 1] (w.alloc (.cells #[.string f.path, .bool f.dir, .string f.data] 48)) fun e w' => ∃ g m, e = .returned (.tuple #[.pointer (some ⟨g, 0, none⟩), .int .i64 0]) ∧ FsA w' g m (newA [f]) ∧ Below w.heap.size w w' ∧ w.heap.size ≤ m := by
  have hb : Below w.heap.size w (w.alloc (.cells #[.string f.path, .bool f.dir, .string f.data] 48)) := (Below.refl _ _).alloc (Nat.le_refl _) _
  refine (new_any [f] _ _ (Rf.fls_one w f) (by simp) (by intro x hx; rw [List.mem_singleton.1 hx]; exact hp)).mono ?_
  rintro e w' ⟨h1, ⟨h2, _⟩ | ⟨_, g, m, L, h3, h4, h5, h6, h7⟩⟩
  · exact absurd hE h2
  · exact ⟨g, m, h3, ⟨L, h4, h7⟩, hb.trans (h1.mono hb.size), Nat.le_trans hb.size h6⟩
/-- what was told stays told while a file system goes on -/
theorem row_stays {w w' : World} {g m b : Nat} {A : List Ent} {vs : List Value} {t : TypeId} (h : Row w b vs t) (hf : FsA w g m A) (hg : w.grownBy w' (some m)) : Row w' b vs t := by
  obtain ⟨L, h1, _⟩ := hf
  exact Row.map h h1.map hg
/-- one call of Do: its result and what is there -/
def Does (w : World) (g m : Nat) (R : RA) (A' : List Ent) (e : Ending) (w' : World) : Prop := ∃ vp vc, e = .returned (.agg #[.int .i64 R.code, .bool R.dir, .int .i64 R.size, .string R.data, .slice vp R.names.length vc]) ∧ FsA w' g m A' ∧ w.grownBy w' (some m)
theorem Did.does {w : World} {g m : Nat} {R : RA} {A' : List Ent} {e : Ending} {w' : World} (h : Did w g m R A' e w') : Does w g m R A' e w' := by
  obtain ⟨v, rfl, h1, h2, h3⟩ := h
  obtain ⟨p, c, rfl⟩ := h1.form
  exact ⟨p, c, rfl, h2, h3⟩
theorem aw_d1 {w : World} {g m : Nat} (h : FsA w g m aw0) : Calls Tryz.prog 14 #[.pointer (some ⟨g, 0, none⟩), .agg #[.int .i64 2, .string pAF, .string ⟨#[]⟩, .string ⟨#[]⟩, .int .i64 0, .int .i64 0]] w fun e w' => Does w g m (RA.err 0) aw1 e w' := by
  obtain ⟨L, h1, h2⟩ := h
  have hh := do_create h1 0 0 pAF ⟨#[]⟩ ⟨#[]⟩ (by decide) (by decide) aw_c1
  rw [h2, aw_e1] at hh
  exact hh.mono fun e w' k => Did.does k
theorem aw_d2 {w : World} {g m : Nat} (h : FsA w g m aw1) : Calls Tryz.prog 14 #[.pointer (some ⟨g, 0, none⟩), .agg #[.int .i64 3, .string pAF, .string ⟨#[]⟩, .string ⟨#[104, 105]⟩, .int .i64 0, .int .i64 0]] w fun e w' => Does w g m ⟨0, false, 2, ⟨#[]⟩, []⟩ aw2 e w' := by
  obtain ⟨L, h1, h2⟩ := h
  have hh := do_write h1 (by rw [h2]; exact aw_s1) 0 0 pAF ⟨#[]⟩ ⟨#[104, 105]⟩ (by decide) (by decide) aw_c2 (by decide) (by decide)
  rw [h2, aw_e2.1, aw_e2.2] at hh
  exact hh.mono fun e w' k => Did.does k
theorem aw_d3 {w : World} {g m : Nat} (h : FsA w g m aw2) : Calls Tryz.prog 14 #[.pointer (some ⟨g, 0, none⟩), .agg #[.int .i64 8, .string pAF, .string ⟨#[]⟩, .string ⟨#[]⟩, .int .i64 1, .int .i64 9]] w fun e w' => Does w g m ⟨0, false, 2, ⟨#[105]⟩, []⟩ aw2 e w' := by
  obtain ⟨L, h1, h2⟩ := h
  have hh := do_read h1 1 9 pAF ⟨#[]⟩ ⟨#[]⟩ (by decide) (by decide) aw_c3 (by decide) (by decide)
  rw [h2, aw_e3.1, aw_e3.2.1, aw_e3.2.2] at hh
  exact hh.mono fun e w' k => Did.does k
theorem aw_d4 {w : World} {g m : Nat} (h : FsA w g m aw2) : Calls Tryz.prog 14 #[.pointer (some ⟨g, 0, none⟩), .agg #[.int .i64 6, .string pA, .string ⟨#[]⟩, .string ⟨#[]⟩, .int .i64 0, .int .i64 0]] w fun e w' => Does w g m (RA.err 130) (rmA aw2 (nmsOf pA)) e w' := by
  obtain ⟨L, h1, h2⟩ := h
  have hh := do_rmdir h1 (by have := aw_l2; rw [← h2, List.length_map] at this; exact this) 0 0 pA ⟨#[]⟩ ⟨#[]⟩ (by decide) (by decide) aw_c4
  rw [h2, aw_e4] at hh
  exact hh.mono fun e w' k => Did.does k
theorem field37 (c z : Int) (b : Bool) (x : ByteArray) (p : Option Addr) (n q : Nat) (w : World) : (Instr.field 37 (.agg #[.int .i64 c, .bool b, .int .i64 z, .string x, .slice p n q]) 0).run Tryz.prog w = .ok (.int .i64 c) w := by kernel_rfl
set_option maxHeartbeats 4000000 in
set_option maxRecDepth 100000 in
theorem awake_any (w : World) : Calls Tryz.prog 8 #[] w fun e w' => e = .returned (.bool true) ∧ Below w.heap.size w w' := by
  have HNEW := hid_in (new_one ⟨pA, true, ⟨#[]⟩⟩ w (by decide) aw_new)
  have H1 := hid_in (fun W g m (k : FsA W g m aw0) => aw_d1 k)
  have H2 := hid_in (fun W g m (k : FsA W g m aw1) => aw_d2 k)
  have H3 := hid_in (fun W g m (k : FsA W g m aw2) => aw_d3 k)
  have H4 := hid_in (fun W g m (k : FsA W g m aw2) => aw_d4 k)
  have e0 : newA [⟨pA, true, ⟨#[]⟩⟩] = aw0 := rfl
  rw [e0] at HNEW
  clear e0
  simp only [Does, RA.err, pA, pAF, List.length_nil] at HNEW H1 H2 H3 H4
  go_enter Tryz.func8, Tryz.ntmps8
  go_upto_region 4 with (first | (go_at_call 10; refine HNEW.out.mono ?_; rintro e w1 ⟨g, m, rfl, hf1, hb1, hm1⟩; have HF1 := hid_in hf1; have HB1 := hid_in hb1; have HM := hid_in hm1; clear hf1 hb1 hm1))
  go_upto_region 5 with (first | (go_at_call 14; refine (H1.out _ _ _ HF1.out).mono ?_; rintro e w2 ⟨vp2, vc2, rfl, hf2, hg2⟩; have HF2 := hid_in hf2; have HB2 := hid_in (HB1.out.grown hg2 HB1.out.size (fun k e => by obtain rfl := Option.some.inj e; exact HM.out)); clear hf2 hg2) | (refine Nd.wpList_store_new rfl rfl 37 5 _ _ rfl _ [Value.int .i64 0, .bool false, .int .i64 0, .string ⟨#[]⟩, .slice vp2 0 vc2] info37 rfl (hid_in rfl) (hid_in (by intro v hv; simp only [List.mem_cons, List.not_mem_nil, or_false] at hv; rcases hv with rfl | rfl | rfl | rfl | rfl <;> rfl)) rfl rfl ?_; intro w3 hr3 hb3 hs3; have HR3 := hid_in hr3; have HF3 := hid_in (HF2.out.below hb3); have HB3 := hid_in (HB2.out.trans (hb3.mono HB2.out.size)); clear hr3 hb3 hs3))
  go_upto_region 6 with (first | (go_at_call 14; refine (H2.out _ _ _ HF3.out).mono ?_; rintro e w4 ⟨vp4, vc4, rfl, hf4, hg4⟩; have HF4 := hid_in hf4; have HR34 := hid_in (row_stays HR3.out HF3.out hg4); have HB4 := hid_in (HB3.out.grown hg4 HB3.out.size (fun k e => by obtain rfl := Option.some.inj e; exact HM.out)); clear hf4 hg4) | (refine Nd.wpList_store_new rfl rfl 37 5 _ _ rfl _ [Value.int .i64 0, .bool false, .int .i64 2, .string ⟨#[]⟩, .slice vp4 0 vc4] info37 rfl (hid_in rfl) (hid_in (by intro v hv; simp only [List.mem_cons, List.not_mem_nil, or_false] at hv; rcases hv with rfl | rfl | rfl | rfl | rfl <;> rfl)) rfl rfl ?_; intro w5 hr5 hb5 hs5; have HR5 := hid_in hr5; have HR35 := hid_in (HR34.out.below hb5 HR34.out.lt); have HF5 := hid_in (HF4.out.below hb5); have HB5 := hid_in (HB4.out.trans (hb5.mono HB4.out.size)); clear hr5 hb5 hs5))
  go_upto_region 7 with (first | (go_at_call 14; refine (H3.out _ _ _ HF5.out).mono ?_; rintro e w6 ⟨vp6, vc6, rfl, hf6, hg6⟩; have HF6 := hid_in hf6; have HR36 := hid_in (row_stays HR35.out HF5.out hg6); have HR56 := hid_in (row_stays HR5.out HF5.out hg6); have HB6 := hid_in (HB5.out.grown hg6 HB5.out.size (fun k e => by obtain rfl := Option.some.inj e; exact HM.out)); clear hf6 hg6) | (refine Nd.wpList_store_new rfl rfl 37 5 _ _ rfl _ [Value.int .i64 0, .bool false, .int .i64 2, .string ⟨#[105]⟩, .slice vp6 0 vc6] info37 rfl (hid_in rfl) (hid_in (by intro v hv; simp only [List.mem_cons, List.not_mem_nil, or_false] at hv; rcases hv with rfl | rfl | rfl | rfl | rfl <;> rfl)) rfl rfl ?_; intro w7 hr7 hb7 hs7; have HR7 := hid_in hr7; have HR37 := hid_in (HR36.out.below hb7 HR36.out.lt); have HR57 := hid_in (HR56.out.below hb7 HR56.out.lt); have HF7 := hid_in (HF6.out.below hb7); have HB7 := hid_in (HB6.out.trans (hb7.mono HB6.out.size)); clear hr7 hb7 hs7))
  have m0 : w7.cell? ⟨w2.heap.size, 0, none⟩ = some (.int .i64 0) := HR37.out.cell 0
  have m1 : w7.cell? ⟨w4.heap.size, 2, none⟩ = some (.int .i64 2) := HR57.out.cell 2
  have m2 : w7.cell? ⟨w6.heap.size, 3, none⟩ = some (.string ⟨#[105]⟩) := HR7.out.cell 3
  have m3 : w7.cell? ⟨w6.heap.size, 2, none⟩ = some (.int .i64 2) := HR7.out.cell 2
  have hfd := field37 130 0 false ⟨#[]⟩
  go_wp2_with (first | (go_at_call 14; refine (H4.out _ _ _ HF7.out).mono ?_; rintro e w8 ⟨vp8, vc8, rfl, hf8, hg8⟩; have HB8 := hid_in (HB7.out.grown hg8 HB7.out.size (fun k e => by obtain rfl := Option.some.inj e; exact HM.out)); clear hf8 hg8))
  go_ret
  exact ⟨rfl, HB8.out⟩
end Go.Proofs.YtngehkmdanhgpaaGreat.Pl
namespace Go.Proofs.YtngehkmdanhgpaaGreat.Pl
open Go.RowKit
open Vp (Str B bl Val cmpL parseS showS splitS withinS IsPath)
open Nd (Row wp_world post_Row post_Row2 grownBy_setCell below_of_grown Opn checkS numsOk namedS pathsS perr)
theorem small_put {A : List Ent} {e : Ent} (h : Small A) (he : e.data.size ≤ 1024) : Small (putA A e) := fun t ht => by
  rcases mem_putA A e t ht with rfl | ht
  · exact he
  · exact h t ht
theorem small_cut {A : List Ent} (h : Small A) (xs : List Str) : Small (cutA A xs) := fun t ht => h t (List.mem_filter.1 ht).1
theorem small_moves {p q : List Str} : ∀ (es A : List Ent), Small A → (∀ e ∈ es, e.data.size ≤ 1024) → Small (movesA p q es A)
  | [], _, h, _ => h
  | e :: es, A, h, he => small_moves es (stepA p q A e) (small_put (small_cut h _) (he e (by simp))) fun x hx => he x (by simp [hx])
theorem small_rn {A A' : List Ent} {p q : List Str} (hS : Small A) (hA : (A.map (·.names)).Nodup) (h : Moved A p q A') : Small A' := by
  by_cases hc : rnE A p q = 0 ∧ p ≠ q
  · obtain ⟨x, es, hx, hp, e⟩ := h.2 hc
    obtain ⟨h1, _, _⟩ := moved_names hA hx hp
    rw [e]
    exact small_moves _ _ hS fun e he => hS e (h1 e he).1
  · rw [h.1 (by
      by_cases h0 : rnE A p q = 0
      · exact .inr (Classical.byContradiction fun hh => hc ⟨h0, hh⟩)
      · exact .inl h0)]
    exact hS
/-- what stands behind any operation -/
structure Kept (A A' : List Ent) : Prop where
  tree : Tree A'
  small : Small A'
  len : A'.length ≤ A.length + 1
theorem kept_same {A : List Ent} (hT : Tree A) (hS : Small A) : Kept A A := ⟨hT, hS, by omega⟩
theorem kept_add {A : List Ent} (hT : Tree A) (hS : Small A) (xs : List Str) (d : Bool) : Kept A (addA A xs d) := by
  refine ⟨tree_add hT xs d, ?_, ?_⟩ <;> unfold addA <;> split
  · exact small_put hS (by show (0 : Nat) ≤ _; omega)
  · exact hS
  · exact len_put _ _
  · omega
theorem kept_wr {A : List Ent} (hT : Tree A) (hS : Small A) (xs : List Str) (a : Nat) (d : ByteArray) : Kept A (wrA A xs a d) := by
  refine ⟨tree_wr hT xs a d, ?_, ?_⟩ <;> unfold wrA <;> split
  · rename_i h
    unfold wrE at h
    split at h
    · rename_i h1
      exact absurd h h1
    rename_i h1
    split at h
    · cases h
    rename_i h2
    split at h
    · cases h
    rename_i h3
    refine small_put hS ?_
    show (wrD _ _ _).size ≤ _
    have h1 : (findFA A xs).2 = 0 := Classical.byContradiction h1
    obtain ⟨f, f1, _⟩ := findFA_at h1
    have h4 : (findFA A xs).1.data.size ≤ 1024 := by
      unfold findFA at h1 ⊢
      split at h1
      · cases h1
      · rename_i h5
        rw [if_neg h5]
        exact hS _ (at_names (findA_at h1)).2
    rw [wrD_size _ _ _ (by omega)]
    omega
  · exact hS
  · exact len_put _ _
  · omega
theorem kept_tr {A : List Ent} (hT : Tree A) (hS : Small A) (xs : List Str) (z : Nat) (hz : z ≤ 1024) : Kept A (trA A xs z) := by
  refine ⟨tree_tr hT xs z, ?_, ?_⟩ <;> unfold trA <;> split
  · exact small_put hS (by show (trD _ _).size ≤ _; rw [trD_size]; exact hz)
  · exact hS
  · exact len_put _ _
  · omega
theorem len_cutA (A : List Ent) (xs : List Str) : (cutA A xs).length ≤ A.length := List.length_filter_le _ _
theorem kept_ul {A : List Ent} (hT : Tree A) (hS : Small A) (xs : List Str) : Kept A (ulA A xs) := by
  refine ⟨tree_ul hT xs, ?_, ?_⟩ <;> unfold ulA <;> split
  · exact small_cut hS _
  · exact hS
  · have := len_cutA A xs; omega
  · omega
theorem kept_rm {A : List Ent} (hT : Tree A) (hS : Small A) (xs : List Str) : Kept A (rmA A xs) := by
  refine ⟨tree_rm hT xs, ?_, ?_⟩ <;> unfold rmA <;> split
  · exact small_cut hS _
  · exact hS
  · have := len_cutA A xs; omega
  · omega
theorem kept_rn {A A' : List Ent} {p q : List Str} (hT : Tree A) (hS : Small A) (hA : (A.map (·.names)).Nodup) (h : Moved A p q A') : Kept A A' :=
  ⟨tree_rn hT hA h, small_rn hS hA h, by have := len_moved hA h; omega⟩
/-- a result is answered, and what is there stands well -/
def Steps (w : World) (g m : Nat) (A : List Ent) (e : Ending) (w' : World) : Prop := ∃ (R : RA) (v : Value) (A' : List Ent), e = .returned (Res.val ⟨R.code, R.dir, R.size, R.data, v⟩) ∧ Rf.Nm w' v R.names ∧ FsA w' g m A' ∧ Kept A A' ∧ w.grownBy w' (some m)
theorem Did.steps {w : World} {g m : Nat} {R : RA} {A A' : List Ent} {e : Ending} {w' : World} (h : Did w g m R A' e w') (k : Kept A A') : Steps w g m A e w' := by
  obtain ⟨v, h1, h2, h3, h4⟩ := h
  exact ⟨R, v, A', h1, h2, h3, k, h4⟩
theorem check_ok {k a z : Int} {p t d : ByteArray} (h : checkS ⟨k, p, t, d, a, z⟩ = 0) : 1 ≤ k ∧ k ≤ 11 ∧ (k = 11 ∨ (0 ≤ a ∧ 0 ≤ z)) ∧ d.size ≤ 1024 ∧ a ≤ 1024 ∧ z ≤ 1024 := by
  unfold checkS at h
  simp only at h
  split at h
  · cases h
  rename_i h1
  split at h
  · cases h
  rename_i h2
  split at h
  · cases h
  rename_i h3
  have h4 : numsOk k a z := Classical.byContradiction fun hh => h2 (.inr hh)
  unfold numsOk at h4
  have h1 : 1 ≤ k ∧ k ≤ 11 := Classical.byContradiction h1
  exact ⟨h1.1, h1.2, by omega, by omega, by omega, by omega⟩
theorem step_any {W : World} {g m : Nat} {A : List Ent} (h : FsA W g m A) (hT : Tree A) (hS : Small A) (hn : A.length ≤ 100000) (k a z : Int) (p t d : ByteArray) (hp : p.size ≤ 9223372036854775807) (ht : t.size ≤ 9223372036854775807) :
    Calls Tryz.prog 14 #[.pointer (some ⟨g, 0, none⟩), .agg #[.int .i64 k, .string p, .string t, .string d, .int .i64 a, .int .i64 z]] W fun e W' => Steps W g m A e W' := by
  obtain ⟨L, h1, rfl⟩ := h
  have hA : ((L.map Spot.ent).map (·.names)).Nodup := by rw [List.map_map]; exact h1.map.one
  have hn' : L.length ≤ 100000 := by simpa using hn
  by_cases hc : checkS ⟨k, p, t, d, a, z⟩ = 0
  · obtain ⟨c1, c2, c3, c4, c5, c6⟩ := check_ok hc
    have hk : k = 1 ∨ k = 2 ∨ k = 3 ∨ k = 4 ∨ k = 5 ∨ k = 6 ∨ k = 7 ∨ k = 8 ∨ k = 9 ∨ k = 10 ∨ k = 11 := by omega
    rcases hk with rfl | rfl | rfl | rfl | rfl | rfl | rfl | rfl | rfl | rfl | rfl
    · exact (do_mkdir h1 a z p t d hp ht hc).mono fun _ _ hd => hd.steps (kept_add hT hS _ _)
    · exact (do_create h1 a z p t d hp ht hc).mono fun _ _ hd => hd.steps (kept_add hT hS _ _)
    · obtain ⟨a', rfl⟩ := Int.eq_ofNat_of_zero_le (show 0 ≤ a by omega)
      exact (do_write h1 hS z a' p t d hp ht hc (by omega) c4).mono fun _ _ hd => hd.steps (kept_wr hT hS _ _ _)
    · obtain ⟨z', rfl⟩ := Int.eq_ofNat_of_zero_le (show 0 ≤ z by omega)
      exact (do_trunc h1 hS a z' p t d hp ht hc (by omega)).mono fun _ _ hd => hd.steps (kept_tr hT hS _ _ (by omega))
    · exact (do_unlink h1 a z p t d hp ht hc).mono fun _ _ hd => hd.steps (kept_ul hT hS _)
    · exact (do_rmdir h1 hn' a z p t d hp ht hc).mono fun _ _ hd => hd.steps (kept_rm hT hS _)
    · exact (do_rename h1 hn' a z p t d hp ht hc).mono fun _ _ ⟨v, e1, e2, ⟨L', e3, e4⟩, e5⟩ => ⟨_, v, L'.map Spot.ent, e1, e2, ⟨L', e3, rfl⟩, kept_rn hT hS hA e4, e5⟩
    · obtain ⟨a', rfl⟩ := Int.eq_ofNat_of_zero_le (show 0 ≤ a by omega)
      obtain ⟨z', rfl⟩ := Int.eq_ofNat_of_zero_le (show 0 ≤ z by omega)
      exact (do_read h1 a' z' p t d hp ht hc (by omega) (by omega)).mono fun _ _ hd => hd.steps (kept_same hT hS)
    · exact (do_list h1 hn' a z p t d hp ht hc).mono fun _ _ ⟨rc, rd, rs, rx, rn, v, _, e1, e2, ⟨L', e3, e4⟩, e5⟩ => ⟨⟨rc, rd, rs, rx, rn⟩, v, L.map Spot.ent, e1, e2, ⟨L', e3, e4⟩, kept_same hT hS, e5⟩
    · exact (do_stat h1 hn' a z p t d hp ht hc).mono fun _ _ hd => hd.steps (kept_same hT hS)
    · exact (do_forget h1 a z p t d hp ht hc).mono fun _ _ hd => hd.steps (kept_same hT hS)
  · exact (do_err h1 k a z p t d hp ht hc).mono fun _ _ hd => hd.steps (kept_same hT hS)
end Go.Proofs.YtngehkmdanhgpaaGreat.Pl
