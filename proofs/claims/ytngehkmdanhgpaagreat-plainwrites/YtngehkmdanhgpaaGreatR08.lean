/-
  The walk of awake. A file system of one file: what write, truncate and read make of it. The walk of PlainWrites.
-/
import Derived.Lib.AppendZeros
import Derived.Deep.DrawnRows
import Derived.Lib.SlBytesConst
import Derived.Deep.RegionLaw
import Derived.Laws.Tables
import Derived.Laws.CopyOwn
import Derived.Test.YtngehkmdanhgpaaGreatR00
import Derived.Test.YtngehkmdanhgpaaGreatR01
import Derived.Test.YtngehkmdanhgpaaGreatR02
import Derived.Test.YtngehkmdanhgpaaGreatR03
import Derived.Test.YtngehkmdanhgpaaGreatR04
import Derived.Test.YtngehkmdanhgpaaGreatR05
import Derived.Test.YtngehkmdanhgpaaGreatR06
import Derived.Test.YtngehkmdanhgpaaGreatR07
namespace Go.Proofs.YtngehkmdanhgpaaGreat.Pl
open Go.RowKit
open Vp (Str B bl Val cmpL parseS showS splitS withinS IsPath)
open Nd (Row wp_world post_Row post_Row2 grownBy_setCell below_of_grown Opn checkS)
open Rf (Fil Fls)
/-- a file system, by what is there -/
def FsA (w : World) (g m : Nat) (A : List Ent) : Prop := ∃ L, Fs w g m L ∧ L.map Spot.ent = A
theorem FsA.below {w w' : World} {g m : Nat} {A : List Ent} (h : FsA w g m A) (k : Below w.heap.size w w') : FsA w' g m A := by
  obtain ⟨L, h1, h2⟩ := h
  exact ⟨L, h1.below k, h2⟩
/-- a file system of one path -/
theorem new_one (f : Fil) (w : World) (hp : f.path.size ≤ 9223372036854775807) (hE : newE [f] = 0) :
    Calls Tryz.prog 10 #[.slice (some ⟨w.heap.size, 0, none⟩) 1 1] (w.alloc (.cells #[.string f.path, .bool f.dir, .string f.data] 48)) fun e w' => ∃ g m, e = .returned (.tuple #[.pointer (some ⟨g, 0, none⟩), .int .i64 0]) ∧ FsA w' g m (newA [f]) ∧ Below w.heap.size w w' ∧ w.heap.size ≤ m := by
  have hb : Below w.heap.size w (w.alloc (.cells #[.string f.path, .bool f.dir, .string f.data] 48)) := (Below.refl _ _).alloc (Nat.le_refl _) _
  refine (new_any [f] _ _ (Rf.fls_one w f) (by simp) (by intro x hx; rw [List.mem_singleton.1 hx]; exact hp)).mono ?_
  rintro e w' ⟨h1, ⟨h2, _⟩ | ⟨_, g, m, L, h3, h4, h5, h6, h7⟩⟩
  · exact absurd hE h2
  · exact ⟨g, m, h3, ⟨L, h4, h7⟩, hb.trans (h1.mono hb.size), Nat.le_trans hb.size h6⟩
/-- what was told stays told while a file system goes on -/
theorem row_stays {w w' : World} {g m b : Nat} {A : List Ent} {vs : List Value} {t : TypeId} (h : Row w b vs t) (hf : FsA w g m A) (hg : w.grownBy w' (some m)) : Row w' b vs t := by
  obtain ⟨L, h1, _⟩ := hf
  exact Row.map h h1.map hg
/-- one call of Do: its result and what is there -/
def Does (w : World) (g m : Nat) (R : RA) (A' : List Ent) (e : Ending) (w' : World) : Prop := ∃ vp vc, e = .returned (.agg #[.int .i64 R.code, .bool R.dir, .int .i64 R.size, .string R.data, .slice vp R.names.length vc]) ∧ FsA w' g m A' ∧ w.grownBy w' (some m)
theorem Did.does {w : World} {g m : Nat} {R : RA} {A' : List Ent} {e : Ending} {w' : World} (h : Did w g m R A' e w') : Does w g m R A' e w' := by
  obtain ⟨v, rfl, h1, h2, h3⟩ := h
  obtain ⟨p, c, rfl⟩ := h1.form
  exact ⟨p, c, rfl, h2, h3⟩
theorem aw_d1 {w : World} {g m : Nat} (h : FsA w g m aw0) : Calls Tryz.prog 14 #[.pointer (some ⟨g, 0, none⟩), .agg #[.int .i64 2, .string pAF, .string ⟨#[]⟩, .string ⟨#[]⟩, .int .i64 0, .int .i64 0]] w fun e w' => Does w g m (RA.err 0) aw1 e w' := by
  obtain ⟨L, h1, h2⟩ := h
  have hh := do_create h1 0 0 pAF ⟨#[]⟩ ⟨#[]⟩ (by decide) (by decide) aw_c1
  rw [h2, aw_e1] at hh
  exact hh.mono fun e w' k => Did.does k
theorem aw_d2 {w : World} {g m : Nat} (h : FsA w g m aw1) : Calls Tryz.prog 14 #[.pointer (some ⟨g, 0, none⟩), .agg #[.int .i64 3, .string pAF, .string ⟨#[]⟩, .string ⟨#[104, 105]⟩, .int .i64 0, .int .i64 0]] w fun e w' => Does w g m ⟨0, false, 2, ⟨#[]⟩, []⟩ aw2 e w' := by
  obtain ⟨L, h1, h2⟩ := h
  have hh := do_write h1 (by rw [h2]; exact aw_s1) 0 0 pAF ⟨#[]⟩ ⟨#[104, 105]⟩ (by decide) (by decide) aw_c2 (by decide) (by decide)
  rw [h2, aw_e2.1, aw_e2.2] at hh
  exact hh.mono fun e w' k => Did.does k
theorem aw_d3 {w : World} {g m : Nat} (h : FsA w g m aw2) : Calls Tryz.prog 14 #[.pointer (some ⟨g, 0, none⟩), .agg #[.int .i64 8, .string pAF, .string ⟨#[]⟩, .string ⟨#[]⟩, .int .i64 1, .int .i64 9]] w fun e w' => Does w g m ⟨0, false, 2, ⟨#[105]⟩, []⟩ aw2 e w' := by
  obtain ⟨L, h1, h2⟩ := h
  have hh := do_read h1 1 9 pAF ⟨#[]⟩ ⟨#[]⟩ (by decide) (by decide) aw_c3 (by decide) (by decide)
  rw [h2, aw_e3.1, aw_e3.2.1, aw_e3.2.2] at hh
  exact hh.mono fun e w' k => Did.does k
theorem aw_d4 {w : World} {g m : Nat} (h : FsA w g m aw2) : Calls Tryz.prog 14 #[.pointer (some ⟨g, 0, none⟩), .agg #[.int .i64 6, .string pA, .string ⟨#[]⟩, .string ⟨#[]⟩, .int .i64 0, .int .i64 0]] w fun e w' => Does w g m (RA.err 130) (rmA aw2 (nmsOf pA)) e w' := by
  obtain ⟨L, h1, h2⟩ := h
  have hh := do_rmdir h1 (by have := aw_l2; rw [← h2, List.length_map] at this; exact this) 0 0 pA ⟨#[]⟩ ⟨#[]⟩ (by decide) (by decide) aw_c4
  rw [h2, aw_e4] at hh
  exact hh.mono fun e w' k => Did.does k
theorem field37 (c z : Int) (b : Bool) (x : ByteArray) (p : Option Addr) (n q : Nat) (w : World) : (Instr.field 37 (.agg #[.int .i64 c, .bool b, .int .i64 z, .string x, .slice p n q]) 0).run Tryz.prog w = .ok (.int .i64 c) w := by kernel_rfl
set_option maxHeartbeats 4000000 in
set_option maxRecDepth 100000 in
theorem awake_any (w : World) : Calls Tryz.prog 8 #[] w fun e w' => e = .returned (.bool true) ∧ Below w.heap.size w w' := by
  have HNEW := hid_in (new_one ⟨pA, true, ⟨#[]⟩⟩ w (by decide) aw_new)
  have H1 := hid_in (fun W g m (k : FsA W g m aw0) => aw_d1 k)
  have H2 := hid_in (fun W g m (k : FsA W g m aw1) => aw_d2 k)
  have H3 := hid_in (fun W g m (k : FsA W g m aw2) => aw_d3 k)
  have H4 := hid_in (fun W g m (k : FsA W g m aw2) => aw_d4 k)
  have e0 : newA [⟨pA, true, ⟨#[]⟩⟩] = aw0 := rfl
  rw [e0] at HNEW
  clear e0
  simp only [Does, RA.err, pA, pAF, List.length_nil] at HNEW H1 H2 H3 H4
  go_enter Tryz.func8, Tryz.ntmps8
  go_upto_region 4 with (first | (go_at_call 10; refine HNEW.out.mono ?_; rintro e w1 ⟨g, m, rfl, hf1, hb1, hm1⟩; have HF1 := hid_in hf1; have HB1 := hid_in hb1; have HM := hid_in hm1; clear hf1 hb1 hm1))
  go_upto_region 5 with (first | (go_at_call 14; refine (H1.out _ _ _ HF1.out).mono ?_; rintro e w2 ⟨vp2, vc2, rfl, hf2, hg2⟩; have HF2 := hid_in hf2; have HB2 := hid_in (HB1.out.grown hg2 HB1.out.size (fun k e => by obtain rfl := Option.some.inj e; exact HM.out)); clear hf2 hg2) | (refine Nd.wpList_store_new rfl rfl 37 5 _ _ rfl _ [Value.int .i64 0, .bool false, .int .i64 0, .string ⟨#[]⟩, .slice vp2 0 vc2] info37 rfl (hid_in rfl) (hid_in (by intro v hv; simp only [List.mem_cons, List.not_mem_nil, or_false] at hv; rcases hv with rfl | rfl | rfl | rfl | rfl <;> rfl)) rfl rfl ?_; intro w3 hr3 hb3 hs3; have HR3 := hid_in hr3; have HF3 := hid_in (HF2.out.below hb3); have HB3 := hid_in (HB2.out.trans (hb3.mono HB2.out.size)); clear hr3 hb3 hs3))
  go_upto_region 6 with (first | (go_at_call 14; refine (H2.out _ _ _ HF3.out).mono ?_; rintro e w4 ⟨vp4, vc4, rfl, hf4, hg4⟩; have HF4 := hid_in hf4; have HR34 := hid_in (row_stays HR3.out HF3.out hg4); have HB4 := hid_in (HB3.out.grown hg4 HB3.out.size (fun k e => by obtain rfl := Option.some.inj e; exact HM.out)); clear hf4 hg4) | (refine Nd.wpList_store_new rfl rfl 37 5 _ _ rfl _ [Value.int .i64 0, .bool false, .int .i64 2, .string ⟨#[]⟩, .slice vp4 0 vc4] info37 rfl (hid_in rfl) (hid_in (by intro v hv; simp only [List.mem_cons, List.not_mem_nil, or_false] at hv; rcases hv with rfl | rfl | rfl | rfl | rfl <;> rfl)) rfl rfl ?_; intro w5 hr5 hb5 hs5; have HR5 := hid_in hr5; have HR35 := hid_in (HR34.out.below hb5 HR34.out.lt); have HF5 := hid_in (HF4.out.below hb5); have HB5 := hid_in (HB4.out.trans (hb5.mono HB4.out.size)); clear hr5 hb5 hs5))
  go_upto_region 7 with (first | (go_at_call 14; refine (H3.out _ _ _ HF5.out).mono ?_; rintro e w6 ⟨vp6, vc6, rfl, hf6, hg6⟩; have HF6 := hid_in hf6; have HR36 := hid_in (row_stays HR35.out HF5.out hg6); have HR56 := hid_in (row_stays HR5.out HF5.out hg6); have HB6 := hid_in (HB5.out.grown hg6 HB5.out.size (fun k e => by obtain rfl := Option.some.inj e; exact HM.out)); clear hf6 hg6) | (refine Nd.wpList_store_new rfl rfl 37 5 _ _ rfl _ [Value.int .i64 0, .bool false, .int .i64 2, .string ⟨#[105]⟩, .slice vp6 0 vc6] info37 rfl (hid_in rfl) (hid_in (by intro v hv; simp only [List.mem_cons, List.not_mem_nil, or_false] at hv; rcases hv with rfl | rfl | rfl | rfl | rfl <;> rfl)) rfl rfl ?_; intro w7 hr7 hb7 hs7; have HR7 := hid_in hr7; have HR37 := hid_in (HR36.out.below hb7 HR36.out.lt); have HR57 := hid_in (HR56.out.below hb7 HR56.out.lt); have HF7 := hid_in (HF6.out.below hb7); have HB7 := hid_in (HB6.out.trans (hb7.mono HB6.out.size)); clear hr7 hb7 hs7))
  have m0 : w7.cell? ⟨w2.heap.size, 0, none⟩ = some (.int .i64 0) := HR37.out.cell 0
  have m1 : w7.cell? ⟨w4.heap.size, 2, none⟩ = some (.int .i64 2) := HR57.out.cell 2
  have m2 : w7.cell? ⟨w6.heap.size, 3, none⟩ = some (.string ⟨#[105]⟩) := HR7.out.cell 3
  have m3 : w7.cell? ⟨w6.heap.size, 2, none⟩ = some (.int .i64 2) := HR7.out.cell 2
  have hfd := field37 130 0 false ⟨#[]⟩
  go_wp2_with (first | (go_at_call 14; refine (H4.out _ _ _ HF7.out).mono ?_; rintro e w8 ⟨vp8, vc8, rfl, hf8, hg8⟩; have HB8 := hid_in (HB7.out.grown hg8 HB7.out.size (fun k e => by obtain rfl := Option.some.inj e; exact HM.out)); clear hf8 hg8))
  go_ret
  exact ⟨rfl, HB8.out⟩
end Go.Proofs.YtngehkmdanhgpaaGreat.Pl
namespace Go.Proofs.YtngehkmdanhgpaaGreat.Pl
open Go.RowKit
open Vp (Str B bl Val cmpL parseS showS splitS withinS IsPath)
open Nd (Row wp_world post_Row post_Row2 grownBy_setCell below_of_grown Opn checkS numsOk namedS pathsS)
open Rf (Fil Fls)
def pF : ByteArray := ⟨#[47, 102]⟩
def nF : List Str := [[102]]
theorem nms_pF : nmsOf pF = nF := by decide +kernel
theorem err_pF : errOf pF = 0 := by decide +kernel
def S1 (x : ByteArray) : List Ent := [rootE, ⟨nF, false, x⟩]
theorem new_S1 (x : ByteArray) : newA [⟨pF, false, x⟩] = S1 x := by
  simp only [newA, List.map_cons, List.map_nil, entOf, nms_pF, S1]
theorem at_root (x : ByteArray) : entAt (S1 x) [] = some rootE := by
  simp [entAt, S1, rootE]
theorem at_file (x : ByteArray) : entAt (S1 x) nF = some ⟨nF, false, x⟩ := by
  simp [entAt, S1, rootE, nF]
theorem newE_S1 (x : ByteArray) (h : x.size ≤ 1024) : newE [⟨pF, false, x⟩] = 0 := by
  have h1 : firstErr [⟨pF, false, x⟩] = 0 := by simp [firstErr, err_pF]
  have h2 : dataE [⟨pF, false, x⟩] = 0 := by
    have : ¬ 1024 < x.size := by omega
    simp [dataE, argP, bigP, this]
  have h3 : ((newA [⟨pF, false, x⟩]).map (·.names)).Nodup := by
    rw [new_S1]
    show [([] : List Str), nF].Nodup
    decide
  have h4 : ([⟨pF, false, x⟩] : List Fil).map entOf = [⟨nF, false, x⟩] := by simp only [List.map_cons, List.map_nil, entOf, nms_pF]
  have h5 : nF.dropLast = [] := rfl
  unfold newE
  rw [h1, h2, if_neg (by decide), if_neg (by decide), if_neg (by simp [h3]), h4, new_S1]
  simp only [dirsA, noneA, fileA, List.any_cons, List.any_nil, h5, at_root]
  rfl
theorem inits_nF : inits nF = [[], nF] := by decide
theorem find_S1 (x : ByteArray) : findFA (S1 x) nF = (⟨nF, false, x⟩, 0) := by
  have h : findA (S1 x) nF = (⟨nF, false, x⟩, 0) := by
    unfold findA
    rw [inits_nF]
    simp only [goA, at_root, at_file]
    rfl
  unfold findFA
  rw [h]
  rfl
theorem put_S1 (x y : ByteArray) : putA (S1 x) ⟨nF, false, y⟩ = S1 y := by
  simp [S1, putA, rootE, nF]
theorem small_S1 {x : ByteArray} (h : x.size ≤ 1024) : Small (S1 x) := by
  intro e he
  simp only [S1, List.mem_cons, List.not_mem_nil, or_false] at he
  rcases he with rfl | rfl
  · show (⟨#[]⟩ : ByteArray).size ≤ 1024
    decide
  · exact h
theorem paths_pF (k : Int) (h : k = 3 ∨ k = 4 ∨ k = 8) : pathsS k pF ⟨#[]⟩ = 0 := by
  rcases h with rfl | rfl | rfl <;> decide +kernel
theorem ck_write (a : Int) (d : ByteArray) : checkS ⟨3, pF, ⟨#[]⟩, d, a, 0⟩ = if a < 0 then 1 else if 1024 < d.size ∨ 1024 < a then 134 else 0 := by
  have h1 : namedS ⟨3, pF, ⟨#[]⟩, d, a, 0⟩ = ⟨3, pF, ⟨#[]⟩, d, a, 0⟩ := by simp [namedS]
  have h2 : numsOk 3 a 0 ↔ 0 ≤ a := by unfold numsOk; omega
  unfold checkS
  simp only [h1, h2, paths_pF 3 (.inl rfl)]
  by_cases h3 : a < 0
  · simp [h3]
  · simp [h3]
theorem ck_trunc (z : Int) : checkS ⟨4, pF, ⟨#[]⟩, ⟨#[]⟩, 0, z⟩ = if z < 0 then 1 else if 1024 < z then 134 else 0 := by
  have h1 : namedS ⟨4, pF, ⟨#[]⟩, ⟨#[]⟩, 0, z⟩ = ⟨4, pF, ⟨#[]⟩, ⟨#[]⟩, 0, z⟩ := by simp [namedS]
  have h2 : numsOk 4 0 z ↔ 0 ≤ z := by unfold numsOk; omega
  unfold checkS
  simp only [h1, h2, paths_pF 4 (.inr (.inl rfl))]
  by_cases h3 : z < 0
  · simp [h3]
  · have he : (⟨#[]⟩ : ByteArray).size = 0 := rfl
    simp [h3, he]
theorem ck_read : checkS ⟨8, pF, ⟨#[]⟩, ⟨#[]⟩, 0, 1024⟩ = 0 := by decide +kernel
/-- what may be written -/
def wGood (x : ByteArray) (a : Int) (d : ByteArray) : Prop := 0 ≤ a ∧ a ≤ x.size ∧ (d.size : Int) ≤ 1024 - a
theorem w_write {w : World} {g m : Nat} {x : ByteArray} (h : FsA w g m (S1 x)) (hx : x.size ≤ 1024) (a : Int) (d : ByteArray) :
    Calls Tryz.prog 14 #[.pointer (some ⟨g, 0, none⟩), .agg #[.int .i64 3, .string pF, .string ⟨#[]⟩, .string d, .int .i64 a, .int .i64 0]] w fun e w' => ∃ c s y, Does w g m ⟨c, false, s, ⟨#[]⟩, []⟩ (S1 y) e w' ∧ ((wGood x a d ∧ c = 0 ∧ s = (y.size : Int) ∧ y = wrD x d a.toNat) ∨ (¬ wGood x a d ∧ c ≠ 0 ∧ y = x)) := by
  obtain ⟨L, h1, h2⟩ := h
  have hck := ck_write a d
  by_cases h3 : 0 ≤ a ∧ d.size ≤ 1024 ∧ a ≤ 1024
  · rw [if_neg (by omega), if_neg (by omega)] at hck
    obtain ⟨n, rfl⟩ : ∃ n : Nat, a = (n : Int) := ⟨a.toNat, by omega⟩
    have hh := do_write h1 (by rw [h2]; exact small_S1 hx) 0 n pF ⟨#[]⟩ d (by decide) (by decide) hck (by omega) h3.2.1
    rw [h2, nms_pF] at hh
    have hf := find_S1 x
    by_cases hg : n ≤ x.size ∧ n + d.size ≤ 1024
    · have hE : wrE (S1 x) nF n d = 0 := by
        unfold wrE
        rw [hf, if_neg (by simp), if_neg (by show ¬ x.size < n; omega), if_neg (by omega)]
      have hS : wrS (S1 x) nF n d = ((wrD x d n).size : Int) := by
        unfold wrS
        rw [hE, if_pos rfl, hf]
      have hA : wrA (S1 x) nF n d = S1 (wrD x d n) := by
        unfold wrA
        rw [hE, if_pos rfl, hf, put_S1]
      rw [hE, hS, hA] at hh
      exact hh.mono fun e w' k => ⟨0, _, wrD x d n, Did.does k, .inl ⟨⟨by omega, by omega, by omega⟩, rfl, rfl, by simp⟩⟩
    · have hE : wrE (S1 x) nF n d ≠ 0 := by
        unfold wrE
        rw [hf, if_neg (by simp)]
        by_cases h5 : x.size < n
        · rw [if_pos h5]; decide
        · rw [if_neg h5, if_pos (by omega)]; decide
      have hA : wrA (S1 x) nF n d = S1 x := by
        unfold wrA
        rw [if_neg hE]
      rw [hA] at hh
      exact hh.mono fun e w' k => ⟨_, _, x, Did.does k, .inr ⟨fun hw => hg ⟨by have := hw.2.1; omega, by have := hw.2.2; omega⟩, hE, rfl⟩⟩
  · have hne : checkS ⟨3, pF, ⟨#[]⟩, d, a, 0⟩ ≠ 0 := by
      rw [hck]
      split
      · decide
      · rw [if_pos (by omega)]; decide
    have hh := do_err h1 3 a 0 pF ⟨#[]⟩ d (by decide) (by decide) hne
    rw [h2] at hh
    exact hh.mono fun e w' k => ⟨_, 0, x, Did.does k, .inr ⟨fun hw => h3 ⟨hw.1, by have := hw.1; have := hw.2.2; omega, by have := hw.2.1; omega⟩, hne, rfl⟩⟩
theorem w_read {w : World} {g m : Nat} {x : ByteArray} (h : FsA w g m (S1 x)) (hx : x.size ≤ 1024) :
    Calls Tryz.prog 14 #[.pointer (some ⟨g, 0, none⟩), .agg #[.int .i64 8, .string pF, .string ⟨#[]⟩, .string ⟨#[]⟩, .int .i64 0, .int .i64 1024]] w fun e w' => Does w g m ⟨0, false, (x.size : Int), x, []⟩ (S1 x) e w' := by
  obtain ⟨L, h1, h2⟩ := h
  have hh := do_read h1 0 1024 pF ⟨#[]⟩ ⟨#[]⟩ (by decide) (by decide) ck_read (by decide) (by decide)
  have hf := find_S1 x
  have hE : rdE (S1 x) nF 0 = 0 := by
    unfold rdE
    rw [hf, if_neg (by simp), if_neg (by omega)]
  have hS : rdS (S1 x) nF 0 = (x.size : Int) := by
    unfold rdS
    rw [hE, if_pos rfl, hf]
  have hB : rdB (S1 x) nF 0 1024 = x := by
    unfold rdB
    rw [hE, if_pos rfl, hf]
    show rdD x 0 1024 = x
    unfold rdD
    rw [Nat.min_eq_right (by omega)]
    simp
  rw [h2, nms_pF, hE, hS, hB] at hh
  exact hh.mono fun e w' k => Did.does k
theorem w_trunc {w : World} {g m : Nat} {x : ByteArray} (h : FsA w g m (S1 x)) (hx : x.size ≤ 1024) (z : Int) :
    Calls Tryz.prog 14 #[.pointer (some ⟨g, 0, none⟩), .agg #[.int .i64 4, .string pF, .string ⟨#[]⟩, .string ⟨#[]⟩, .int .i64 0, .int .i64 z]] w fun e w' => ∃ c s y, Does w g m ⟨c, false, s, ⟨#[]⟩, []⟩ (S1 y) e w' ∧ ((0 ≤ z ∧ z ≤ 1024 ∧ c = 0 ∧ s = z ∧ y = trD x z.toNat) ∨ (¬ (0 ≤ z ∧ z ≤ 1024) ∧ c ≠ 0 ∧ y = x)) := by
  obtain ⟨L, h1, h2⟩ := h
  have hck := ck_trunc z
  by_cases h3 : 0 ≤ z ∧ z ≤ 1024
  · rw [if_neg (by omega), if_neg (by omega)] at hck
    obtain ⟨n, rfl⟩ : ∃ n : Nat, z = (n : Int) := ⟨z.toNat, by omega⟩
    have hh := do_trunc h1 (by rw [h2]; exact small_S1 hx) 0 n pF ⟨#[]⟩ ⟨#[]⟩ (by decide) (by decide) hck (by omega)
    rw [h2, nms_pF] at hh
    have hf := find_S1 x
    have hE : trE (S1 x) nF = 0 := by unfold trE; rw [hf]
    have hS : trS (S1 x) nF n = (n : Int) := by unfold trS; rw [hE, if_pos rfl]
    have hA : trA (S1 x) nF n = S1 (trD x n) := by unfold trA; rw [hE, if_pos rfl, hf, put_S1]
    rw [hE, hS, hA] at hh
    exact hh.mono fun e w' k => ⟨0, _, trD x n, Did.does k, .inl ⟨h3.1, h3.2, rfl, rfl, by simp⟩⟩
  · have hne : checkS ⟨4, pF, ⟨#[]⟩, ⟨#[]⟩, 0, z⟩ ≠ 0 := by
      rw [hck]
      split
      · decide
      · rw [if_pos (by omega)]; decide
    have hh := do_err h1 4 0 z pF ⟨#[]⟩ ⟨#[]⟩ (by decide) (by decide) hne
    rw [h2] at hh
    exact hh.mono fun e w' k => ⟨_, 0, x, Did.does k, .inr ⟨h3, hne, rfl⟩⟩
end Go.Proofs.YtngehkmdanhgpaaGreat.Pl
namespace Go.Proofs.YtngehkmdanhgpaaGreat.Pl
open Go.RowKit
open Vp (Str B bl Val cmpL parseS showS splitS withinS IsPath)
open Nd (Row wp_world post_Row post_Row2 grownBy_setCell below_of_grown Opn checkS numsOk namedS pathsS)
open Rf (Fil Fls)
theorem bl_append (a b : ByteArray) : bl (a ++ b) = bl a ++ bl b := by
  simp [bl, ByteArray.data_append]
theorem bl_extract (a : ByteArray) (q : Nat) : bl (a.extract 0 q) = (bl a).take q := by
  simp [bl, ByteArray.data_extract, Array.toList_extract, List.extract]
theorem bl_zeros (n : Nat) : bl (zerosB n) = List.replicate n 0 := by
  simp [bl, zerosB, repeatL_zero]
theorem bl_len (a : ByteArray) : (bl a).length = a.size := Vp.bl_length a
theorem trD_at (x : ByteArray) (n i : Nat) (h : i < n) : (bl (trD x n))[i]? = if i < x.size then (bl x)[i]? else some 0 := by
  unfold trD
  rw [bl_append, bl_extract, bl_zeros, List.getElem?_append]
  have hl : ((bl x).take (min n x.size)).length = min n x.size := by rw [List.length_take, bl_len]; omega
  rw [hl]
  by_cases h1 : i < x.size
  · rw [if_pos (by omega), if_pos h1, List.getElem?_take, if_pos (by omega)]
  · rw [if_neg (by omega), if_neg h1, List.getElem?_replicate, if_pos (by omega)]
theorem store37 (c s : Int) (x : ByteArray) (b : Bool) (p : Option Addr) (n q : Nat) : Hid (∀ v ∈ [Value.int .i64 c, .bool b, .int .i64 s, .string x, .slice p n q], v.oneCell' = true) := by
  intro v hv
  simp only [List.mem_cons, List.not_mem_nil, or_false] at hv
  rcases hv with rfl | rfl | rfl | rfl | rfl <;> rfl
set_option maxHeartbeats 4000000 in
set_option maxRecDepth 100000 in
theorem writes_any (old d : ByteArray) (a z : Int) (w : World) (ho : old.size ≤ 9223372036854775807) (hd : d.size ≤ 9223372036854775807) :
    Calls Tryz.prog 7 #[.string old, .int .i64 a, .string d, .int .i64 z] w fun e w' => e = .returned (.bool true) ∧ Below w.heap.size w w' := by
  have HAW := hid_in (awake_any w)
  by_cases h1 : 1024 < old.size
  · have j1 : (1024 : Int) < (old.size : Int) := by omega
    go_enter Tryz.func7, Tryz.ntmps7
    go_wp2_with (first | (go_at_call 8; refine HAW.out.mono ?_; rintro e w1 ⟨rfl, hb1⟩; have HB1 := hid_in hb1; clear hb1))
    go_ret
    exact ⟨rfl, HB1.out⟩
  by_cases h2 : 2048 < d.size
  · have j1 : ¬ (1024 : Int) < (old.size : Int) := by omega
    have j2 : (2048 : Int) < (d.size : Int) := by omega
    go_enter Tryz.func7, Tryz.ntmps7
    go_wp2_with (first | (go_at_call 8; refine HAW.out.mono ?_; rintro e w1 ⟨rfl, hb1⟩; have HB1 := hid_in hb1; clear hb1))
    go_ret
    exact ⟨rfl, HB1.out⟩
  have j1 : ¬ (1024 : Int) < (old.size : Int) := by omega
  have j2 : ¬ (2048 : Int) < (d.size : Int) := by omega
  have hox : old.size ≤ 1024 := by omega
  have HOX := hid_in hox
  have HNEW := hid_in (fun W => new_one ⟨pF, false, old⟩ W (by show (2 : Nat) ≤ _; omega) (newE_S1 old hox))
  rw [new_S1] at HNEW
  have HWR := hid_in (fun W g m (k : FsA W g m (S1 old)) => w_write k hox a d)
  have HRD := hid_in (fun W g m x (k : FsA W g m (S1 x)) (hx : x.size ≤ 1024) => w_read k hx)
  have HTR := hid_in (fun W g m x (k : FsA W g m (S1 x)) (hx : x.size ≤ 1024) => w_trunc k hx z)
  simp only [Does, pF, List.length_nil] at HNEW HWR HRD HTR
  go_enter Tryz.func7, Tryz.ntmps7
  go_upto_region 8 with (first | (go_at_call 8; refine HAW.out.mono ?_; rintro e w0 ⟨rfl, hb0⟩; have HB0 := hid_in hb0; clear hb0) | (go_at_call 10; refine (HNEW.out _).mono ?_; rintro e w1 ⟨g, m, rfl, hf1, hb1, hm1⟩; have HF1 := hid_in hf1; have HB1 := hid_in (HB0.out.trans (hb1.mono HB0.out.size)); have HM := hid_in (Nat.le_trans HB0.out.size hm1); clear hf1 hb1 hm1))
  clear HNEW HAW
  go_upto_region 9 with (first | (go_at_call 14; refine (HWR.out _ _ _ HF1.out).mono ?_; rintro e w2 ⟨c2, s2, x2, ⟨vp2, vc2, rfl, hf2, hg2⟩, hx2⟩; have HX2 := hid_in hx2; have HF2 := hid_in hf2; have HB2 := hid_in (HB1.out.grown hg2 HB1.out.size (fun k e => by obtain rfl := Option.some.inj e; exact HM.out)); clear hf2 hg2 hx2) | (refine Nd.wpList_store_new rfl rfl 37 5 _ _ rfl _ [Value.int .i64 c2, .bool false, .int .i64 s2, .string ⟨#[]⟩, .slice vp2 0 vc2] info37 rfl (hid_in rfl) (store37 _ _ _ _ _ _ _) rfl rfl ?_; intro w3 hr3 hb3 hs3; have HR3 := hid_in hr3; have HF3 := hid_in (HF2.out.below hb3); have HB3 := hid_in (HB2.out.trans (hb3.mono HB2.out.size)); clear hr3 hb3 hs3))
  have hx2s : x2.size ≤ 1024 := by
    rcases HX2.out with ⟨hw, _, _, rfl⟩ | ⟨_, _, rfl⟩
    · obtain ⟨q1, q2, q3⟩ := hw
      rw [wrD_size _ _ _ (by omega)]
      omega
    · exact HOX.out
  have HX2S := hid_in hx2s
  clear hx2s
  go_upto_region 10 with (first | (go_at_call 14; refine (HRD.out _ _ _ _ HF3.out HX2S.out).mono ?_; rintro e w4 ⟨vp4, vc4, rfl, hf4, hg4⟩; have HF4 := hid_in hf4; have HR34 := hid_in (row_stays HR3.out HF3.out hg4); have HB4 := hid_in (HB3.out.grown hg4 HB3.out.size (fun k e => by obtain rfl := Option.some.inj e; exact HM.out)); clear hf4 hg4) | (refine Nd.wpList_store_new rfl rfl 37 5 _ _ rfl _ [Value.int .i64 0, .bool false, .int .i64 (x2.size : Int), .string x2, .slice vp4 0 vc4] info37 rfl (hid_in rfl) (store37 _ _ _ _ _ _ _) rfl rfl ?_; intro w5 hr5 hb5 hs5; have HR5 := hid_in hr5; have HR35 := hid_in (HR34.out.below hb5 HR34.out.lt); have HF5 := hid_in (HF4.out.below hb5); have HB5 := hid_in (HB4.out.trans (hb5.mono HB4.out.size)); clear hr5 hb5 hs5))
  have m0 : w5.cell? ⟨w2.heap.size, 0, none⟩ = some (.int .i64 c2) := HR35.out.cell 0
  have m2 : w5.cell? ⟨w2.heap.size, 2, none⟩ = some (.int .i64 s2) := HR35.out.cell 2
  have n2 : w5.cell? ⟨w4.heap.size, 2, none⟩ = some (.int .i64 (x2.size : Int)) := HR5.out.cell 2
  have n3 : w5.cell? ⟨w4.heap.size, 3, none⟩ = some (.string x2) := HR5.out.cell 3
  rcases HX2.out with ⟨hw, hc2, hs2, hy2⟩ | ⟨hw, hc2, hy2⟩
  · obtain ⟨q1, q2, q3⟩ := hw
    have HY := hid_in hy2
    subst hc2 hs2
    have k1 : ¬ a < 0 := by omega
    have k2 : ¬ (old.size : Int) < a := by omega
    have k3 : ¬ (1024 - a < (d.size : Int)) := by omega
    have k4 : wrap64 (1024 - a) = 1024 - a := by unfold wrap64; omega
    have k5 : IntKind.i64.wrap (1024 - a) = 1024 - a := by rw [IntKind.wrap_i64]; omega
    have hs1 := str_to old a q1 q2
    obtain ⟨X, HX⟩ : ∃ X, Hid (old.extract 0 a.toNat = X) := ⟨_, hid_in rfl⟩
    have HXS : Hid (X.size = a.toNat) := by show _ = _; rw [← HX.out, ByteArray.size_extract]; omega
    rw [HX.out] at hs1
    obtain ⟨T, HT⟩ : ∃ T, Hid (X ++ d = T) := ⟨_, hid_in rfl⟩
    have HTS : Hid ((T.size : Int) = a + (d.size : Int)) := by show _ = _; rw [← HT.out, ByteArray.size_append, HXS.out]; omega
    have hxs1 : (X.size : Int) = a := by rw [HXS.out]; omega
    have hsum1 : ¬ (9223372036854775807 < a + (d.size : Int)) := by omega
    clear hy2
    have HLOOP : Hid (∀ (V : ByteArray), V = trD x2 z.toNat → 0 ≤ z → z ≤ 1024 → (V.size : Int) = z ∧ ∀ i : Nat, (i : Int) < z → (bl V)[i]? = if i < x2.size then (bl x2)[i]? else some 0) := by
      rintro V rfl h0 h1
      refine ⟨by rw [trD_size]; omega, fun i hi => trD_at x2 z.toNat i (by omega)⟩
    go_upto_region 13 with fail
    rw [HT.out]
    clear hxs1 hsum1 hs1
    by_cases h5 : (T.size : Int) < (old.size : Int)
    · have HWW : Hid (T ++ old.extract T.size old.size = x2) := by
        show _ = _
        rw [HY.out]
        unfold wrD
        have e1 : T.size = min (a.toNat + d.size) old.size := by have := HTS.out; omega
        rw [e1, HX.out, HT.out]
      have hsum2 : ¬ (9223372036854775807 < (T.size : Int) + ((old.size : Int) - (T.size : Int))) := by omega
      go_upto_region 15 with fail
      rw [HWW.out]
      clear HWW
      go_upto_region 17 with fail
      go_upto_region 18 with (first | (go_at_call 14; refine (HTR.out _ _ _ _ HF5.out HX2S.out).mono ?_; rintro e w6 ⟨c6, s6, y6, ⟨vp6, vc6, rfl, hf6, hg6⟩, hy6⟩; have HY6 := hid_in hy6; have HF6 := hid_in hf6; have HB6 := hid_in (HB5.out.grown hg6 HB5.out.size (fun k e => by obtain rfl := Option.some.inj e; exact HM.out)); clear hf6 hg6 hy6) | (refine Nd.wpList_store_new rfl rfl 37 5 _ _ rfl _ [Value.int .i64 c6, .bool false, .int .i64 s6, .string ⟨#[]⟩, .slice vp6 0 vc6] info37 rfl (hid_in rfl) (store37 _ _ _ _ _ _ _) rfl rfl ?_; intro w7 hr7 hb7 hs7; have HR7 := hid_in hr7; have HF7 := hid_in (HF6.out.below hb7); have HB7 := hid_in (HB6.out.trans (hb7.mono HB6.out.size)); clear hr7 hb7 hs7))
      have HY6S : Hid (y6.size ≤ 1024) := by
        rcases HY6.out with ⟨u0, u1, _, _, rfl⟩ | ⟨_, _, rfl⟩
        · show _ ≤ _
          rw [trD_size]; omega
        · exact HX2S.out
      go_upto_region 19 with (first | (go_at_call 14; refine (HRD.out _ _ _ _ HF7.out HY6S.out).mono ?_; rintro e w8 ⟨vp8, vc8, rfl, hf8, hg8⟩; have HF8 := hid_in hf8; have HR78 := hid_in (row_stays HR7.out HF7.out hg8); have HB8 := hid_in (HB7.out.grown hg8 HB7.out.size (fun k e => by obtain rfl := Option.some.inj e; exact HM.out)); clear hf8 hg8) | (refine Nd.wpList_store_new rfl rfl 37 5 _ _ rfl _ [Value.int .i64 0, .bool false, .int .i64 (y6.size : Int), .string y6, .slice vp8 0 vc8] info37 rfl (hid_in rfl) (store37 _ _ _ _ _ _ _) rfl rfl ?_; intro w9 hr9 hb9 hs9; have HR9 := hid_in hr9; have HR79 := hid_in (HR78.out.below hb9 HR78.out.lt); have HB9 := hid_in (HB8.out.trans (hb9.mono HB8.out.size)); clear hr9 hb9 hs9))
      clear m0 m2 n2 n3
      have p0 : w9.cell? ⟨w6.heap.size, 0, none⟩ = some (.int .i64 c6) := HR79.out.cell 0
      have p2 : w9.cell? ⟨w6.heap.size, 2, none⟩ = some (.int .i64 s6) := HR79.out.cell 2
      have p3 : w9.cell? ⟨w8.heap.size, 3, none⟩ = some (.string y6) := HR9.out.cell 3
      rcases HY6.out with ⟨u0, u1, hc6, hs6, hy6⟩ | ⟨hu, hc6, hy6⟩
      · subst hc6 hs6
        have v0 : ¬ s6 < 0 := by omega
        have v1 : ¬ 1024 < s6 := by omega
        obtain ⟨hV1, hV2⟩ := HLOOP.out y6 hy6 u0 u1
        have HV2 := hid_in hV2
        clear hy6 hV2
        go_wp2_with fail
        go_loopw [16] (fun vi W => ∃ i : Nat, (i : Int) ≤ s6 ∧ vi = .int .i64 (i : Int) ∧ Hid (∃ q, W = w9.drewN q)) (fun vi _ => s6.toNat - (intOf vi).toNat)
        case atStart => exact ⟨0, by omega, rfl, 0, rfl⟩
        case round =>
          obtain ⟨i, hi, rfl, hWQ⟩ := hrel
          obtain ⟨q, hq⟩ := hWQ.out
          have p3' : wr.cell? ⟨w8.heap.size, 3, none⟩ = some (.string y6) := by rw [hq]; exact p3
          have HQ : Hid (∃ q, wr = w9.drewN q) := ⟨q, hq⟩
          clear hq hWQ
          by_cases hlt : (i : Int) < s6
          · have hat := HV2.out i hlt
            by_cases hin : i < x2.size
            · rw [if_pos hin] at hat
              obtain ⟨c, hc⟩ : ∃ c, (bl x2)[i]? = some c := ⟨_, List.getElem?_eq_getElem (by rw [bl_len]; exact hin)⟩
              rw [hc] at hat
              have hi1 := Vp.index_str y6 i c hat (i : Int) rfl
              have hi2 := Vp.index_str x2 i c hc (i : Int) rfl
              have kin : (i : Int) < (x2.size : Int) := by omega
              have kin3 : decide ((x2.size : Int) ≤ (i : Int)) = false := decide_eq_false (by omega)
              have kin4 : decide (x2.size ≤ i) = false := decide_eq_false (by omega)
              have kin5 : ¬ x2.size ≤ i := by omega
              clear hat hc
              go_wp2_with fail
              go_quiet (fail)
              go_wp2
              obtain ⟨q0, hq0⟩ := HQ.out
              refine ⟨⟨i + 1, by omega, by go_num, q0 + nq, by rw [hq0]; simp [World.drewN, Nat.add_assoc]⟩, by simp [intOf]; omega⟩
            · rw [if_neg hin] at hat
              have hi1 := Vp.index_str y6 i 0 hat (i : Int) rfl
              have kin : ¬ (i : Int) < (x2.size : Int) := by omega
              have kin2 : (x2.size : Int) ≤ (i : Int) := by omega
              clear hat
              go_wp2_with fail
              go_quiet (fail)
              go_wp2
              obtain ⟨q0, hq0⟩ := HQ.out
              refine ⟨⟨i + 1, by omega, by go_num, q0 + nq, by rw [hq0]; simp [World.drewN, Nat.add_assoc]⟩, by simp [intOf]; omega⟩
          · go_wp2
            go_ret
            refine ⟨rfl, ?_⟩
            obtain ⟨q0, hq0⟩ := HQ.out
            rw [hq0]
            exact below_drewN HB9.out q0
      · subst hy6
        have hc7 : (c6 != 0) = true := by simpa using hc6
        clear hc6
        by_cases v0 : z < 0
        · go_wp2
          go_ret
          exact ⟨by simp, HB9.out⟩
        · have v1 : 1024 < z := by omega
          go_wp2
          go_ret
          exact ⟨by simp, HB9.out⟩
    · have HWW : Hid (T = x2) := by
        show _ = _
        rw [HY.out]
        unfold wrD
        have e1 : min (a.toNat + d.size) old.size = old.size := by have := HTS.out; omega
        rw [e1, HX.out, HT.out]
        simp
      go_upto_region 15 with fail
      rw [HWW.out]
      clear HWW
      go_upto_region 17 with fail
      go_upto_region 18 with (first | (go_at_call 14; refine (HTR.out _ _ _ _ HF5.out HX2S.out).mono ?_; rintro e w6 ⟨c6, s6, y6, ⟨vp6, vc6, rfl, hf6, hg6⟩, hy6⟩; have HY6 := hid_in hy6; have HF6 := hid_in hf6; have HB6 := hid_in (HB5.out.grown hg6 HB5.out.size (fun k e => by obtain rfl := Option.some.inj e; exact HM.out)); clear hf6 hg6 hy6) | (refine Nd.wpList_store_new rfl rfl 37 5 _ _ rfl _ [Value.int .i64 c6, .bool false, .int .i64 s6, .string ⟨#[]⟩, .slice vp6 0 vc6] info37 rfl (hid_in rfl) (store37 _ _ _ _ _ _ _) rfl rfl ?_; intro w7 hr7 hb7 hs7; have HR7 := hid_in hr7; have HF7 := hid_in (HF6.out.below hb7); have HB7 := hid_in (HB6.out.trans (hb7.mono HB6.out.size)); clear hr7 hb7 hs7))
      have HY6S : Hid (y6.size ≤ 1024) := by
        rcases HY6.out with ⟨u0, u1, _, _, rfl⟩ | ⟨_, _, rfl⟩
        · show _ ≤ _
          rw [trD_size]; omega
        · exact HX2S.out
      go_upto_region 19 with (first | (go_at_call 14; refine (HRD.out _ _ _ _ HF7.out HY6S.out).mono ?_; rintro e w8 ⟨vp8, vc8, rfl, hf8, hg8⟩; have HF8 := hid_in hf8; have HR78 := hid_in (row_stays HR7.out HF7.out hg8); have HB8 := hid_in (HB7.out.grown hg8 HB7.out.size (fun k e => by obtain rfl := Option.some.inj e; exact HM.out)); clear hf8 hg8) | (refine Nd.wpList_store_new rfl rfl 37 5 _ _ rfl _ [Value.int .i64 0, .bool false, .int .i64 (y6.size : Int), .string y6, .slice vp8 0 vc8] info37 rfl (hid_in rfl) (store37 _ _ _ _ _ _ _) rfl rfl ?_; intro w9 hr9 hb9 hs9; have HR9 := hid_in hr9; have HR79 := hid_in (HR78.out.below hb9 HR78.out.lt); have HB9 := hid_in (HB8.out.trans (hb9.mono HB8.out.size)); clear hr9 hb9 hs9))
      clear m0 m2 n2 n3
      have p0 : w9.cell? ⟨w6.heap.size, 0, none⟩ = some (.int .i64 c6) := HR79.out.cell 0
      have p2 : w9.cell? ⟨w6.heap.size, 2, none⟩ = some (.int .i64 s6) := HR79.out.cell 2
      have p3 : w9.cell? ⟨w8.heap.size, 3, none⟩ = some (.string y6) := HR9.out.cell 3
      rcases HY6.out with ⟨u0, u1, hc6, hs6, hy6⟩ | ⟨hu, hc6, hy6⟩
      · subst hc6 hs6
        have v0 : ¬ s6 < 0 := by omega
        have v1 : ¬ 1024 < s6 := by omega
        obtain ⟨hV1, hV2⟩ := HLOOP.out y6 hy6 u0 u1
        have HV2 := hid_in hV2
        clear hy6 hV2
        go_wp2_with fail
        go_loopw [16] (fun vi W => ∃ i : Nat, (i : Int) ≤ s6 ∧ vi = .int .i64 (i : Int) ∧ Hid (∃ q, W = w9.drewN q)) (fun vi _ => s6.toNat - (intOf vi).toNat)
        case atStart => exact ⟨0, by omega, rfl, 0, rfl⟩
        case round =>
          obtain ⟨i, hi, rfl, hWQ⟩ := hrel
          obtain ⟨q, hq⟩ := hWQ.out
          have p3' : wr.cell? ⟨w8.heap.size, 3, none⟩ = some (.string y6) := by rw [hq]; exact p3
          have HQ : Hid (∃ q, wr = w9.drewN q) := ⟨q, hq⟩
          clear hq hWQ
          by_cases hlt : (i : Int) < s6
          · have hat := HV2.out i hlt
            by_cases hin : i < x2.size
            · rw [if_pos hin] at hat
              obtain ⟨c, hc⟩ : ∃ c, (bl x2)[i]? = some c := ⟨_, List.getElem?_eq_getElem (by rw [bl_len]; exact hin)⟩
              rw [hc] at hat
              have hi1 := Vp.index_str y6 i c hat (i : Int) rfl
              have hi2 := Vp.index_str x2 i c hc (i : Int) rfl
              have kin : (i : Int) < (x2.size : Int) := by omega
              have kin3 : decide ((x2.size : Int) ≤ (i : Int)) = false := decide_eq_false (by omega)
              have kin4 : decide (x2.size ≤ i) = false := decide_eq_false (by omega)
              have kin5 : ¬ x2.size ≤ i := by omega
              clear hat hc
              go_wp2_with fail
              go_quiet (fail)
              go_wp2
              obtain ⟨q0, hq0⟩ := HQ.out
              refine ⟨⟨i + 1, by omega, by go_num, q0 + nq, by rw [hq0]; simp [World.drewN, Nat.add_assoc]⟩, by simp [intOf]; omega⟩
            · rw [if_neg hin] at hat
              have hi1 := Vp.index_str y6 i 0 hat (i : Int) rfl
              have kin : ¬ (i : Int) < (x2.size : Int) := by omega
              have kin2 : (x2.size : Int) ≤ (i : Int) := by omega
              clear hat
              go_wp2_with fail
              go_quiet (fail)
              go_wp2
              obtain ⟨q0, hq0⟩ := HQ.out
              refine ⟨⟨i + 1, by omega, by go_num, q0 + nq, by rw [hq0]; simp [World.drewN, Nat.add_assoc]⟩, by simp [intOf]; omega⟩
          · go_wp2
            go_ret
            refine ⟨rfl, ?_⟩
            obtain ⟨q0, hq0⟩ := HQ.out
            rw [hq0]
            exact below_drewN HB9.out q0
      · subst hy6
        have hc7 : (c6 != 0) = true := by simpa using hc6
        clear hc6
        by_cases v0 : z < 0
        · go_wp2
          go_ret
          exact ⟨by simp, HB9.out⟩
        · have v1 : 1024 < z := by omega
          go_wp2
          go_ret
          exact ⟨by simp, HB9.out⟩
  · subst hy2
    have hc3 : (c2 != 0) = true := by simpa using hc2
    clear hc2
    by_cases k1 : a < 0
    · go_wp2
      go_ret
      exact ⟨by simp, HB5.out⟩
    · by_cases k2 : (x2.size : Int) < a
      · go_wp2
        go_ret
        exact ⟨by simp, HB5.out⟩
      · have k3 : 1024 - a < (d.size : Int) := by unfold wGood at hw; omega
        have k4 : wrap64 (1024 - a) = 1024 - a := by unfold wrap64; omega
        have k5 : IntKind.i64.wrap (1024 - a) = 1024 - a := by rw [IntKind.wrap_i64]; omega
        go_wp2
        go_ret
        exact ⟨by simp, HB5.out⟩
end Go.Proofs.YtngehkmdanhgpaaGreat.Pl
