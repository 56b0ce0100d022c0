/-
  The walk of awake. A list that is sorted is one list; the operations of PlainBack, by what is there. Each path but the root is a kid of one directory: how many there are. Few, fits.
-/
import Derived.Laws.Tables
import Derived.Lib.SlBytesConst
import Derived.Deep.RegionLaw
import Derived.Deep.DrawnRows
import Derived.Lib.AppendZeros
import Derived.Laws.CopyOwn
import Derived.Test.YtngehkmdanhgpaaGreatT00
import Derived.Test.YtngehkmdanhgpaaGreatT01
import Derived.Test.YtngehkmdanhgpaaGreatT02
import Derived.Test.YtngehkmdanhgpaaGreatT03
import Derived.Test.YtngehkmdanhgpaaGreatT04
import Derived.Test.YtngehkmdanhgpaaGreatT05
import Derived.Test.YtngehkmdanhgpaaGreatT06
import Derived.Test.YtngehkmdanhgpaaGreatT07
import Derived.Test.YtngehkmdanhgpaaGreatT08
import Derived.Test.YtngehkmdanhgpaaGreatT09
import Derived.Test.YtngehkmdanhgpaaGreatT10
import Derived.Test.YtngehkmdanhgpaaGreatT11
import Derived.Test.YtngehkmdanhgpaaGreatT12
import Derived.Test.YtngehkmdanhgpaaGreatT13
import Derived.Test.YtngehkmdanhgpaaGreatT14
import Derived.Test.YtngehkmdanhgpaaGreatT15
import Derived.Test.YtngehkmdanhgpaaGreatT16
import Derived.Test.YtngehkmdanhgpaaGreatT17
import Derived.Test.YtngehkmdanhgpaaGreatT18
import Derived.Test.YtngehkmdanhgpaaGreatT19
import Derived.Test.YtngehkmdanhgpaaGreatT20
import Derived.Test.YtngehkmdanhgpaaGreatT21
import Derived.Test.YtngehkmdanhgpaaGreatT22
import Derived.Test.YtngehkmdanhgpaaGreatT23
import Derived.Test.YtngehkmdanhgpaaGreatT24
import Derived.Test.YtngehkmdanhgpaaGreatT25
import Derived.Test.YtngehkmdanhgpaaGreatT26
import Derived.Test.YtngehkmdanhgpaaGreatT27
import Derived.Test.YtngehkmdanhgpaaGreatT28
import Derived.Test.YtngehkmdanhgpaaGreatT29
import Derived.Test.YtngehkmdanhgpaaGreatT30
import Derived.Test.YtngehkmdanhgpaaGreatT31
import Derived.Test.YtngehkmdanhgpaaGreatT32
import Derived.Test.YtngehkmdanhgpaaGreatT33
import Derived.Test.YtngehkmdanhgpaaGreatT34
import Derived.Test.YtngehkmdanhgpaaGreatT35
import Derived.Test.YtngehkmdanhgpaaGreatT36
import Derived.Test.YtngehkmdanhgpaaGreatT37
import Derived.Test.YtngehkmdanhgpaaGreatT38
import Derived.Test.YtngehkmdanhgpaaGreatT39
import Derived.Test.YtngehkmdanhgpaaGreatT40
import Derived.Test.YtngehkmdanhgpaaGreatT41
import Derived.Test.YtngehkmdanhgpaaGreatT42
import Derived.Test.YtngehkmdanhgpaaGreatT43
namespace Go.Proofs.YtngehkmdanhgpaaGreat.Pl
open Go.RowKit
open Vp (Str B bl Val cmpL parseS showS splitS withinS IsPath)
open Nd (Row wp_world post_Row post_Row2 grownBy_setCell below_of_grown Opn checkS)
open Rf (Fil Fls)
/-- a file system, by what is there -/
def FsA (w : World) (g m : Nat) (A : List Ent) : Prop := ∃ L, Fs w g m L ∧ L.map Spot.ent = A
theorem FsA.below {w w' : World} {g m : Nat} {A : List Ent} (h : FsA w g m A) (k : Below w.heap.size w w') : FsA w' g m A := by
  obtain ⟨L, h1, h2⟩ := h
  exact ⟨L, h1.below k, h2⟩
/-- a file system of one path -/
theorem new_one (f : Fil) (w : World) (hp : f.path.size ≤ 9223372036854775807) (hE : newE [f] = 0) :
    Calls Tryz.prog 10 #[.slice (some ⟨w.heap.size, 0, none⟩) 1 1] (w.alloc (.cells #[.string f.path, .bool f.dir, .string f.data] 48)) fun e w' => ∃ g m, e = .returned (.tuple #[.pointer (some ⟨g, 0, none⟩), .int .i64 0]) ∧ FsA w' g m (newA [f]) ∧ Below w.heap.size w w' ∧ w.heap.size ≤ m := by
  have hb : Below w.heap.size w (w.alloc (.cells #[.string f.path, .bool f.dir, .string f.data] 48)) := (Below.refl _ _).alloc (Nat.le_refl _) _
  refine (new_any [f] _ _ (Rf.fls_one w f) (by simp) (by intro x hx; rw [List.mem_singleton.1 hx]; exact hp)).mono ?_
  rintro e w' ⟨h1, ⟨h2, _⟩ | ⟨_, g, m, L, h3, h4, h5, h6, h7⟩⟩
  · exact absurd hE h2
  · exact ⟨g, m, h3, ⟨L, h4, h7⟩, hb.trans (h1.mono hb.size), Nat.le_trans hb.size h6⟩
/-- what was told stays told while a file system goes on -/
theorem row_stays {w w' : World} {g m b : Nat} {A : List Ent} {vs : List Value} {t : TypeId} (h : Row w b vs t) (hf : FsA w g m A) (hg : w.grownBy w' (some m)) : Row w' b vs t := by
  obtain ⟨L, h1, _⟩ := hf
  exact Row.map h h1.map hg
/-- one call of Do: its result and what is there -/
def Does (w : World) (g m : Nat) (R : RA) (A' : List Ent) (e : Ending) (w' : World) : Prop := ∃ vp vc, e = .returned (.agg #[.int .i64 R.code, .bool R.dir, .int .i64 R.size, .string R.data, .slice vp R.names.length vc]) ∧ FsA w' g m A' ∧ w.grownBy w' (some m)
theorem Did.does {w : World} {g m : Nat} {R : RA} {A' : List Ent} {e : Ending} {w' : World} (h : Did w g m R A' e w') : Does w g m R A' e w' := by
  obtain ⟨v, rfl, h1, h2, h3⟩ := h
  obtain ⟨p, c, rfl⟩ := h1.form
  exact ⟨p, c, rfl, h2, h3⟩
theorem aw_d1 {w : World} {g m : Nat} (h : FsA w g m aw0) : Calls Tryz.prog 14 #[.pointer (some ⟨g, 0, none⟩), .agg #[.int .i64 2, .string pAF, .string ⟨#[]⟩, .string ⟨#[]⟩, .int .i64 0, .int .i64 0]] w fun e w' => Does w g m (RA.err 0) aw1 e w' := by
  obtain ⟨L, h1, h2⟩ := h
  have hh := do_create h1 0 0 pAF ⟨#[]⟩ ⟨#[]⟩ (by decide) (by decide) aw_c1
  rw [h2, aw_e1] at hh
  exact hh.mono fun e w' k => Did.does k
theorem aw_d2 {w : World} {g m : Nat} (h : FsA w g m aw1) : Calls Tryz.prog 14 #[.pointer (some ⟨g, 0, none⟩), .agg #[.int .i64 3, .string pAF, .string ⟨#[]⟩, .string ⟨#[104, 105]⟩, .int .i64 0, .int .i64 0]] w fun e w' => Does w g m ⟨0, false, 2, ⟨#[]⟩, []⟩ aw2 e w' := by
  obtain ⟨L, h1, h2⟩ := h
  have hh := do_write h1 (by rw [h2]; exact aw_s1) 0 0 pAF ⟨#[]⟩ ⟨#[104, 105]⟩ (by decide) (by decide) aw_c2 (by decide) (by decide)
  rw [h2, aw_e2.1, aw_e2.2] at hh
  exact hh.mono fun e w' k => Did.does k
theorem aw_d3 {w : World} {g m : Nat} (h : FsA w g m aw2) : Calls Tryz.prog 14 #[.pointer (some ⟨g, 0, none⟩), .agg #[.int .i64 8, .string pAF, .string ⟨#[]⟩, .string ⟨#[]⟩, .int .i64 1, .int .i64 9]] w fun e w' => Does w g m ⟨0, false, 2, ⟨#[105]⟩, []⟩ aw2 e w' := by
  obtain ⟨L, h1, h2⟩ := h
  have hh := do_read h1 1 9 pAF ⟨#[]⟩ ⟨#[]⟩ (by decide) (by decide) aw_c3 (by decide) (by decide)
  rw [h2, aw_e3.1, aw_e3.2.1, aw_e3.2.2] at hh
  exact hh.mono fun e w' k => Did.does k
theorem aw_d4 {w : World} {g m : Nat} (h : FsA w g m aw2) : Calls Tryz.prog 14 #[.pointer (some ⟨g, 0, none⟩), .agg #[.int .i64 6, .string pA, .string ⟨#[]⟩, .string ⟨#[]⟩, .int .i64 0, .int .i64 0]] w fun e w' => Does w g m (RA.err 130) (rmA aw2 (nmsOf pA)) e w' := by
  obtain ⟨L, h1, h2⟩ := h
  have hh := do_rmdir h1 (by have := aw_l2; rw [← h2, List.length_map] at this; exact this) 0 0 pA ⟨#[]⟩ ⟨#[]⟩ (by decide) (by decide) aw_c4
  rw [h2, aw_e4] at hh
  exact hh.mono fun e w' k => Did.does k
theorem field37 (c z : Int) (b : Bool) (x : ByteArray) (p : Option Addr) (n q : Nat) (w : World) : (Instr.field 37 (.agg #[.int .i64 c, .bool b, .int .i64 z, .string x, .slice p n q]) 0).run Tryz.prog w = .ok (.int .i64 c) w := by kernel_rfl
set_option maxHeartbeats 4000000 in
set_option maxRecDepth 100000 in
theorem awake_any (w : World) : Calls Tryz.prog 8 #[] w fun e w' => e = .returned (.bool true) ∧ Below w.heap.size w w' := by
  have HNEW := hid_in (new_one ⟨pA, true, ⟨#[]⟩⟩ w (by decide) aw_new)
  have H1 := hid_in (fun W g m (k : FsA W g m aw0) => aw_d1 k)
  have H2 := hid_in (fun W g m (k : FsA W g m aw1) => aw_d2 k)
  have H3 := hid_in (fun W g m (k : FsA W g m aw2) => aw_d3 k)
  have H4 := hid_in (fun W g m (k : FsA W g m aw2) => aw_d4 k)
  have e0 : newA [⟨pA, true, ⟨#[]⟩⟩] = aw0 := rfl
  rw [e0] at HNEW
  clear e0
  simp only [Does, RA.err, pA, pAF, List.length_nil] at HNEW H1 H2 H3 H4
  go_enter Tryz.func8, Tryz.ntmps8
  go_upto_region 4 with (first | (go_at_call 10; refine HNEW.out.mono ?_; rintro e w1 ⟨g, m, rfl, hf1, hb1, hm1⟩; have HF1 := hid_in hf1; have HB1 := hid_in hb1; have HM := hid_in hm1; clear hf1 hb1 hm1))
  go_upto_region 5 with (first | (go_at_call 14; refine (H1.out _ _ _ HF1.out).mono ?_; rintro e w2 ⟨vp2, vc2, rfl, hf2, hg2⟩; have HF2 := hid_in hf2; have HB2 := hid_in (HB1.out.grown hg2 HB1.out.size (fun k e => by obtain rfl := Option.some.inj e; exact HM.out)); clear hf2 hg2) | (refine Nd.wpList_store_new rfl rfl 37 5 _ _ rfl _ [Value.int .i64 0, .bool false, .int .i64 0, .string ⟨#[]⟩, .slice vp2 0 vc2] info37 rfl (hid_in rfl) (hid_in (by intro v hv; simp only [List.mem_cons, List.not_mem_nil, or_false] at hv; rcases hv with rfl | rfl | rfl | rfl | rfl <;> rfl)) rfl rfl ?_; intro w3 hr3 hb3 hs3; have HR3 := hid_in hr3; have HF3 := hid_in (HF2.out.below hb3); have HB3 := hid_in (HB2.out.trans (hb3.mono HB2.out.size)); clear hr3 hb3 hs3))
  go_upto_region 6 with (first | (go_at_call 14; refine (H2.out _ _ _ HF3.out).mono ?_; rintro e w4 ⟨vp4, vc4, rfl, hf4, hg4⟩; have HF4 := hid_in hf4; have HR34 := hid_in (row_stays HR3.out HF3.out hg4); have HB4 := hid_in (HB3.out.grown hg4 HB3.out.size (fun k e => by obtain rfl := Option.some.inj e; exact HM.out)); clear hf4 hg4) | (refine Nd.wpList_store_new rfl rfl 37 5 _ _ rfl _ [Value.int .i64 0, .bool false, .int .i64 2, .string ⟨#[]⟩, .slice vp4 0 vc4] info37 rfl (hid_in rfl) (hid_in (by intro v hv; simp only [List.mem_cons, List.not_mem_nil, or_false] at hv; rcases hv with rfl | rfl | rfl | rfl | rfl <;> rfl)) rfl rfl ?_; intro w5 hr5 hb5 hs5; have HR5 := hid_in hr5; have HR35 := hid_in (HR34.out.below hb5 HR34.out.lt); have HF5 := hid_in (HF4.out.below hb5); have HB5 := hid_in (HB4.out.trans (hb5.mono HB4.out.size)); clear hr5 hb5 hs5))
  go_upto_region 7 with (first | (go_at_call 14; refine (H3.out _ _ _ HF5.out).mono ?_; rintro e w6 ⟨vp6, vc6, rfl, hf6, hg6⟩; have HF6 := hid_in hf6; have HR36 := hid_in (row_stays HR35.out HF5.out hg6); have HR56 := hid_in (row_stays HR5.out HF5.out hg6); have HB6 := hid_in (HB5.out.grown hg6 HB5.out.size (fun k e => by obtain rfl := Option.some.inj e; exact HM.out)); clear hf6 hg6) | (refine Nd.wpList_store_new rfl rfl 37 5 _ _ rfl _ [Value.int .i64 0, .bool false, .int .i64 2, .string ⟨#[105]⟩, .slice vp6 0 vc6] info37 rfl (hid_in rfl) (hid_in (by intro v hv; simp only [List.mem_cons, List.not_mem_nil, or_false] at hv; rcases hv with rfl | rfl | rfl | rfl | rfl <;> rfl)) rfl rfl ?_; intro w7 hr7 hb7 hs7; have HR7 := hid_in hr7; have HR37 := hid_in (HR36.out.below hb7 HR36.out.lt); have HR57 := hid_in (HR56.out.below hb7 HR56.out.lt); have HF7 := hid_in (HF6.out.below hb7); have HB7 := hid_in (HB6.out.trans (hb7.mono HB6.out.size)); clear hr7 hb7 hs7))
  have m0 : w7.cell? ⟨w2.heap.size, 0, none⟩ = some (.int .i64 0) := HR37.out.cell 0
  have m1 : w7.cell? ⟨w4.heap.size, 2, none⟩ = some (.int .i64 2) := HR57.out.cell 2
  have m2 : w7.cell? ⟨w6.heap.size, 3, none⟩ = some (.string ⟨#[105]⟩) := HR7.out.cell 3
  have m3 : w7.cell? ⟨w6.heap.size, 2, none⟩ = some (.int .i64 2) := HR7.out.cell 2
  have hfd := field37 130 0 false ⟨#[]⟩
  go_wp2_with (first | (go_at_call 14; refine (H4.out _ _ _ HF7.out).mono ?_; rintro e w8 ⟨vp8, vc8, rfl, hf8, hg8⟩; have HB8 := hid_in (HB7.out.grown hg8 HB7.out.size (fun k e => by obtain rfl := Option.some.inj e; exact HM.out)); clear hf8 hg8))
  go_ret
  exact ⟨rfl, HB8.out⟩
end Go.Proofs.YtngehkmdanhgpaaGreat.Pl
namespace Go.Proofs.YtngehkmdanhgpaaGreat.Pl
open Go.RowKit
open Vp (Str B bl Val cmpL parseS showS splitS withinS IsPath)
open Nd (Row wp_world post_Row post_Row2 grownBy_setCell below_of_grown Opn checkS numsOk namedS pathsS perr)
open Rf (Fil Fls)
/-- the files are what is there but the root, sorted -/
def Lists (A : List Ent) (fs : List Fil) : Prop := ∃ es : List Ent, fs = es.map (fun e => ⟨B (showS e.names), e.dir, e.data⟩) ∧ es.Perm (A.filter (belowE [])) ∧ es.Pairwise (fun s t => ¬ cmpL t.names s.names < 0)
theorem Lists.len {A : List Ent} {fs : List Fil} (h : Lists A fs) : fs.length = (A.filter (belowE [])).length := by
  obtain ⟨es, rfl, h1, _⟩ := h
  rw [List.length_map, h1.length_eq]
theorem Lists.one {A C : List Ent} {fs gs : List Fil} (hA : (A.map (·.names)).Nodup) (h : Lists A fs) (k : Lists C gs) (hp : C.Perm A) : gs = fs := by
  obtain ⟨es, rfl, h1, h2⟩ := h
  obtain ⟨cs, rfl, k1, k2⟩ := k
  have hpp : cs.Perm es := k1.trans ((hp.filter _).trans h1.symm)
  have hmem : ∀ e ∈ es, e ∈ A := fun e he => (List.mem_filter.1 (h1.mem_iff.1 he)).1
  have : cs = es := List.Perm.eq_of_pairwise (le := fun s t => ¬ cmpL t.names s.names < 0) (fun a b ha hb h1 h2 => by
    have hn : a.names = b.names := by
      have t1 := Vp.cmpL_is.turn a.names b.names
      have t2 := Vp.cmpL_is.three a.names b.names
      exact (Vp.cmpL_is.zero _ _).1 (by omega)
    have q1 := at_mem hA (hmem a (hpp.mem_iff.1 ha))
    have q2 := at_mem hA (hmem b hb)
    rw [hn] at q1
    exact Option.some.inj (q1.symm.trans q2)) k2 h2 hpp
  rw [this]
theorem at_in {A : List Ent} {n : List Str} {e : Ent} (h : entAt A n = some e) : n ∈ A.map (·.names) := List.mem_map.2 ⟨e, (at_names h).2, (at_names h).1⟩
theorem FsA.one {w : World} {g m : Nat} {A : List Ent} (h : FsA w g m A) : (A.map (·.names)).Nodup ∧ ∀ e ∈ A, e.names.length ≤ 8 := by
  obtain ⟨L, h1, rfl⟩ := h
  refine ⟨?_, fun e he => ?_⟩
  · rw [List.map_map]
    exact h1.map.one
  · obtain ⟨s, hs, rfl⟩ := List.mem_map.1 he
    exact (h1.map.good s hs).2.2
theorem w_list {W : World} {g m : Nat} {A : List Ent} (h : FsA W g m A) (hn : A.length ≤ 100000) :
    Calls Tryz.prog 16 #[.pointer (some ⟨g, 0, none⟩)] W fun e W' => ∃ p c fs, e = .returned (.slice p fs.length c) ∧ Fls W' (.slice p fs.length c) fs ∧ Lists A fs ∧ FsA W' g m A ∧ Below W.heap.size W W' := by
  obtain ⟨L, h1, rfl⟩ := h
  refine (list_any h1 (by simpa using hn)).mono ?_
  rintro e W' ⟨v, sp, rfl, hf, hp, hs, hF, hb⟩
  obtain ⟨p, c, rfl⟩ := hf.form
  refine ⟨p, c, sp.map Spot.fil, rfl, hf, ⟨sp.map Spot.ent, ?_, ?_, ?_⟩, ⟨L, hF, rfl⟩, hb⟩
  · rw [List.map_map]
    refine List.map_congr_left fun s hs => ?_
    have hg := (h1.map.good s (List.mem_filter.1 (hp.mem_iff.1 hs)).1).1
    simp only [Function.comp, Spot.fil, Spot.ent]
    rw [hg]
  · rw [← belowB_ent]
    exact hp.map _
  · rw [List.pairwise_map]
    exact hs
end Go.Proofs.YtngehkmdanhgpaaGreat.Pl
namespace Go.Proofs.YtngehkmdanhgpaaGreat.Pl
open Vp (Str B bl Val cmpL parseS showS splitS withinS IsPath)
theorem sum_zero : ∀ E : List (List Str), (E.map (fun _ => 0)).sum = 0
  | [] => rfl
  | _ :: r => by
    rw [List.map_cons, List.sum_cons, sum_zero r]
theorem sum_one {y : List Str} : ∀ (E : List (List Str)), E.Nodup → y ∈ E → (E.map (fun n => if y = n then 1 else 0)).sum = 1
  | [], _, h => by simp at h
  | a :: r, hd, h => by
    rw [List.nodup_cons] at hd
    simp only [List.map_cons, List.sum_cons]
    by_cases ha : y = a
    · have h0 : (r.map (fun n => if y = n then 1 else 0)).sum = 0 := by
        rw [List.map_congr_left (g := fun _ => 0) fun n hn => if_neg fun e => hd.1 (by rw [← ha, e]; exact hn)]
        exact sum_zero r
      rw [h0, if_pos ha]
    · rw [if_neg ha, sum_one r hd.2 ((List.mem_cons.1 h).resolve_left ha)]
theorem sum_keys (f : Ent → List Str) (E : List (List Str)) (hE : E.Nodup) : ∀ X : List Ent, (∀ x ∈ X, f x ∈ E) → (E.map (fun n => (X.filter (fun x => decide (f x = n))).length)).sum = X.length
  | [], _ => by
    exact sum_zero E
  | x :: xs, h => by
    have ih := sum_keys f E hE xs fun y hy => h y (by simp [hy])
    have h1 := sum_one E hE (h x (by simp))
    have h2 : (fun n => ((x :: xs).filter (fun x => decide (f x = n))).length) = fun n => (if f x = n then 1 else 0) + (xs.filter (fun x => decide (f x = n))).length := by
      funext n
      rw [List.filter_cons]
      by_cases hn : f x = n
      · simp [hn]; omega
      · simp [hn]
    have h3 : ∀ E : List (List Str), (E.map (fun n => (if f x = n then 1 else 0) + (xs.filter (fun x => decide (f x = n))).length)).sum = (E.map (fun n => if f x = n then 1 else 0)).sum + (E.map (fun n => (xs.filter (fun x => decide (f x = n))).length)).sum := fun E => by
      induction E with
      | nil => rfl
      | cons a r ih2 =>
        simp only [List.map_cons, List.sum_cons]
        rw [ih2]
        omega
    rw [h2, h3, h1, ih, List.length_cons]
    omega
theorem kids_key (A : List Ent) (n : List Str) : kidsA A n = (A.filter (belowE [])).filter (fun x => decide (x.names.dropLast = n)) := by
  unfold kidsA
  rw [List.filter_filter, List.filter_filter]
  refine List.filter_congr fun x _ => ?_
  rw [Bool.eq_iff_iff, Bool.and_eq_true, Bool.and_eq_true, below_iff, below_iff]
  unfold kidE
  rw [decide_eq_true_eq, decide_eq_true_eq]
  constructor
  · rintro ⟨h1, s, hs, e⟩
    rw [e, List.length_append] at h1
    obtain ⟨c, rfl⟩ : ∃ c, s = [c] := List.length_eq_one_iff.1 (by omega)
    exact ⟨by rw [e]; simp, x.names, by rw [e]; simp, rfl⟩
  · rintro ⟨h1, s, hs, e⟩
    have hne : x.names ≠ [] := by rw [e]; simpa using hs
    have h0 := List.length_pos_iff.2 hne
    refine ⟨by rw [← h1, List.length_dropLast]; omega, [x.names.getLast hne], by simp, ?_⟩
    rw [← h1, List.dropLast_concat_getLast]
/-- the kids of all, told together, are all but the root -/
theorem kids_all {A : List Ent} (hT : Tree A) (hA : (A.map (·.names)).Nodup) : ((A.map (·.names)).map (fun n => (kidsA A n).length)).sum = (A.filter (belowE [])).length := by
  have h := sum_keys (fun x => x.names.dropLast) (A.map (·.names)) hA (A.filter (belowE [])) fun x hx => by
    obtain ⟨hm, hb⟩ := List.mem_filter.1 hx
    obtain ⟨s, hs, e⟩ := below_iff.1 hb
    obtain ⟨d, hd, _⟩ := hT.up x.names x (at_mem hA hm) (by rw [e]; simpa using hs)
    exact at_in hd
  rw [← h]
  congr 1
  refine List.map_congr_left fun n _ => ?_
  rw [kids_key]
theorem kids_file {A : List Ent} (hT : Tree A) (hA : (A.map (·.names)).Nodup) {f : Ent} (h : entAt A f.names = some f) (hd : f.dir = false) : kidsA A f.names = [] := by
  rw [kids_key, List.filter_eq_nil_iff]
  intro x hx he
  obtain ⟨hm, hb⟩ := List.mem_filter.1 hx
  obtain ⟨s, hs, e⟩ := below_iff.1 hb
  exact hT.file h hd x.names x (at_mem hA hm) (by rw [e]; simpa using hs) (of_decide_eq_true he)
end Go.Proofs.YtngehkmdanhgpaaGreat.Pl
namespace Go.Proofs.YtngehkmdanhgpaaGreat.Pl
open Go.RowKit
open Vp (Str B bl Val cmpL parseS showS splitS withinS IsPath)
open Nd (Row wp_world post_Row post_Row2 grownBy_setCell below_of_grown Opn checkS numsOk namedS pathsS)
open Rf (Fil Fls)
set_option maxHeartbeats 2000000 in
set_option maxRecDepth 100000 in
theorem few_any (w : World) (v : Value) (fs : List Fil) (h : Fls w v fs) (lb : Nat) (hc : w.cell? ⟨lb, 0, none⟩ = some v) :
    Calls Tryz.prog 22 #[.slice (some ⟨lb, 0, none⟩) 1 1] w fun e w' => (∃ t, e = .returned (.bool t)) ∧ w' = w := by
  obtain ⟨p, cap, b, o, rfl, h1, h2, h3, h4', _⟩ := h
  have h4 := Rf.Fls.range h4'
  have HC : Hid (∀ (j : Nat), j < fs.length → ∃ s : ByteArray, p = some ⟨b, o, none⟩ ∧ w.cell? ⟨b, o + j * 3 + 2, none⟩ = some (.string s)) := hid_in (fun j hj => by
    refine ⟨fs[j].data, (h3 (by intro e; rw [e] at hj; simp at hj)).1, ?_⟩
    exact h4 j fs[j] (List.getElem?_eq_getElem hj) 2 _ rfl)
  have HN : Hid (fs.length ≤ 9223372036854775807) := hid_in (by omega)
  generalize fs.length = N at *
  clear h1 h2 h3 h4
  go_enter Tryz.func22, Tryz.ntmps22
  go_wp2_with fail
  refine wp_loop_rounds 2 ?_
  rw [rounds_succ]
  go_upto_region 6 with fail
  go_loopw [5, 3] (fun vj vs W => W = w ∧ ∃ (j : Nat) (s : Int), j ≤ N ∧ vj = .int .i64 (j : Int) ∧ vs = .int .i64 s) (fun vj _ _ => N - (intOf vj).toNat)
  case atStart => exact ⟨rfl, 0, 0, by omega, rfl, rfl⟩
  case round =>
    obtain ⟨rfl, j, s, hj, rfl, rfl⟩ := hrel
    by_cases hlt : j < N
    · obtain ⟨str, rfl, hcell⟩ := HC.out j hlt
      have hN : (N : Int) ≤ 9223372036854775807 := by have := HN.out; omega
      have HJ := hid_in hj
      have HL := hid_in hlt
      have hlt2 : (j : Int) < (N : Int) := by omega
      clear hj hlt
      go_wp2
      go_roundw
      case rel =>
        exact ⟨trivial, j + 1, _, by have := HL.out; omega, by go_num, rfl⟩
      case measure => have := HL.out; simp [intOf]; omega
    · obtain rfl : j = N := by omega
      clear hj hlt
      go_wp2_with fail
      rw [rounds_succ]
      go_wp2
      go_ret
      exact ⟨⟨_, rfl⟩, rfl⟩
end Go.Proofs.YtngehkmdanhgpaaGreat.Pl
