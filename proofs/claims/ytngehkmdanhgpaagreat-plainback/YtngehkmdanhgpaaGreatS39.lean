/-
  The walk of awake.
-/
import Derived.Lib.SlBytesConst
import Derived.Lib.AppendZeros
import Derived.Deep.DrawnRows
import Derived.Laws.Tables
import Derived.Laws.CopyOwn
import Derived.Deep.RegionLaw
import Derived.Shelf.Strings.Repeat
import Derived.Test.YtngehkmdanhgpaaGreatRows
import Derived.Test.YtngehkmdanhgpaaGreatS00
import Derived.Test.YtngehkmdanhgpaaGreatS01
import Derived.Test.YtngehkmdanhgpaaGreatS02
import Derived.Test.YtngehkmdanhgpaaGreatS03
import Derived.Test.YtngehkmdanhgpaaGreatS04
import Derived.Test.YtngehkmdanhgpaaGreatS05
import Derived.Test.YtngehkmdanhgpaaGreatS06
import Derived.Test.YtngehkmdanhgpaaGreatS07
import Derived.Test.YtngehkmdanhgpaaGreatS08
import Derived.Test.YtngehkmdanhgpaaGreatS09
import Derived.Test.YtngehkmdanhgpaaGreatS10
import Derived.Test.YtngehkmdanhgpaaGreatS11
import Derived.Test.YtngehkmdanhgpaaGreatS12
import Derived.Test.YtngehkmdanhgpaaGreatS13
import Derived.Test.YtngehkmdanhgpaaGreatS14
import Derived.Test.YtngehkmdanhgpaaGreatS15
import Derived.Test.YtngehkmdanhgpaaGreatS16
import Derived.Test.YtngehkmdanhgpaaGreatS17
import Derived.Test.YtngehkmdanhgpaaGreatS18
import Derived.Test.YtngehkmdanhgpaaGreatS20
import Derived.Test.YtngehkmdanhgpaaGreatS21
import Derived.Test.YtngehkmdanhgpaaGreatS22
import Derived.Test.YtngehkmdanhgpaaGreatS23
import Derived.Test.YtngehkmdanhgpaaGreatS24
import Derived.Test.YtngehkmdanhgpaaGreatS25
import Derived.Test.YtngehkmdanhgpaaGreatS33
import Derived.Test.YtngehkmdanhgpaaGreatS34
import Derived.Test.YtngehkmdanhgpaaGreatS35
import Derived.Test.YtngehkmdanhgpaaGreatS36
import Derived.Test.YtngehkmdanhgpaaGreatS37
import Derived.Test.YtngehkmdanhgpaaGreatS38
namespace Go.Proofs.YtngehkmdanhgpaaGreat.Pl
open Go.RowKit
open Vp (Str B bl Val cmpL parseS showS splitS withinS IsPath)
open Nd (Row wp_world post_Row post_Row2 grownBy_setCell below_of_grown Opn checkS)
open Rf (Fil Fls)
/-- a file system, by what is there -/
def FsA (w : World) (g m : Nat) (A : List Ent) : Prop := ∃ L, Fs w g m L ∧ L.map Spot.ent = A
theorem FsA.below {w w' : World} {g m : Nat} {A : List Ent} (h : FsA w g m A) (k : Below w.heap.size w w') : FsA w' g m A := by
  obtain ⟨L, h1, h2⟩ := h
  exact ⟨L, h1.below k, h2⟩
/-- a file system of one path -/
theorem new_one (f : Fil) (w : World) (hp : f.path.size ≤ 9223372036854775807) (hE : newE [f] = 0) :
    Calls Tryz.prog 10 #[.slice (some ⟨w.heap.size, 0, none⟩) 1 1] (w.alloc (.cells #[.string f.path, .bool f.dir, .string f.data] 48)) fun e w' => ∃ g m, e = .returned (.tuple #[.pointer (some ⟨g, 0, none⟩), .int .i64 0]) ∧ FsA w' g m (newA [f]) ∧ Below w.heap.size w w' ∧ w.heap.size ≤ m := by
  have hb : Below w.heap.size w (w.alloc (.cells #[.string f.path, .bool f.dir, .string f.data] 48)) := (Below.refl _ _).alloc (Nat.le_refl _) _
  refine (new_any [f] _ _ (Rf.fls_one w f) (by simp) (by intro x hx; rw [List.mem_singleton.1 hx]; exact hp)).mono ?_
  rintro e w' ⟨h1, ⟨h2, _⟩ | ⟨_, g, m, L, h3, h4, h5, h6, h7⟩⟩
  · exact absurd hE h2
  · exact ⟨g, m, h3, ⟨L, h4, h7⟩, hb.trans (h1.mono hb.size), Nat.le_trans hb.size h6⟩
/-- what was told stays told while a file system goes on -/
theorem row_stays {w w' : World} {g m b : Nat} {A : List Ent} {vs : List Value} {t : TypeId} (h : Row w b vs t) (hf : FsA w g m A) (hg : w.grownBy w' (some m)) : Row w' b vs t := by
  obtain ⟨L, h1, _⟩ := hf
  exact Row.map h h1.map hg
/-- one call of Do: its result and what is there -/
def Does (w : World) (g m : Nat) (R : RA) (A' : List Ent) (e : Ending) (w' : World) : Prop := ∃ vp vc, e = .returned (.agg #[.int .i64 R.code, .bool R.dir, .int .i64 R.size, .string R.data, .slice vp R.names.length vc]) ∧ FsA w' g m A' ∧ w.grownBy w' (some m)
theorem Did.does {w : World} {g m : Nat} {R : RA} {A' : List Ent} {e : Ending} {w' : World} (h : Did w g m R A' e w') : Does w g m R A' e w' := by
  obtain ⟨v, rfl, h1, h2, h3⟩ := h
  obtain ⟨p, c, rfl⟩ := h1.form
  exact ⟨p, c, rfl, h2, h3⟩
theorem aw_d1 {w : World} {g m : Nat} (h : FsA w g m aw0) : Calls Tryz.prog 14 #[.pointer (some ⟨g, 0, none⟩), .agg #[.int .i64 2, .string pAF, .string ⟨#[]⟩, .string ⟨#[]⟩, .int .i64 0, .int .i64 0]] w fun e w' => Does w g m (RA.err 0) aw1 e w' := by
  obtain ⟨L, h1, h2⟩ := h
  have hh := do_create h1 0 0 pAF ⟨#[]⟩ ⟨#[]⟩ (by decide) (by decide) aw_c1
  rw [h2, aw_e1] at hh
  exact hh.mono fun e w' k => Did.does k
theorem aw_d2 {w : World} {g m : Nat} (h : FsA w g m aw1) : Calls Tryz.prog 14 #[.pointer (some ⟨g, 0, none⟩), .agg #[.int .i64 3, .string pAF, .string ⟨#[]⟩, .string ⟨#[104, 105]⟩, .int .i64 0, .int .i64 0]] w fun e w' => Does w g m ⟨0, false, 2, ⟨#[]⟩, []⟩ aw2 e w' := by
  obtain ⟨L, h1, h2⟩ := h
  have hh := do_write h1 (by rw [h2]; exact aw_s1) 0 0 pAF ⟨#[]⟩ ⟨#[104, 105]⟩ (by decide) (by decide) aw_c2 (by decide) (by decide)
  rw [h2, aw_e2.1, aw_e2.2] at hh
  exact hh.mono fun e w' k => Did.does k
theorem aw_d3 {w : World} {g m : Nat} (h : FsA w g m aw2) : Calls Tryz.prog 14 #[.pointer (some ⟨g, 0, none⟩), .agg #[.int .i64 8, .string pAF, .string ⟨#[]⟩, .string ⟨#[]⟩, .int .i64 1, .int .i64 9]] w fun e w' => Does w g m ⟨0, false, 2, ⟨#[105]⟩, []⟩ aw2 e w' := by
  obtain ⟨L, h1, h2⟩ := h
  have hh := do_read h1 1 9 pAF ⟨#[]⟩ ⟨#[]⟩ (by decide) (by decide) aw_c3 (by decide) (by decide)
  rw [h2, aw_e3.1, aw_e3.2.1, aw_e3.2.2] at hh
  exact hh.mono fun e w' k => Did.does k
theorem aw_d4 {w : World} {g m : Nat} (h : FsA w g m aw2) : Calls Tryz.prog 14 #[.pointer (some ⟨g, 0, none⟩), .agg #[.int .i64 6, .string pA, .string ⟨#[]⟩, .string ⟨#[]⟩, .int .i64 0, .int .i64 0]] w fun e w' => Does w g m (RA.err 130) (rmA aw2 (nmsOf pA)) e w' := by
  obtain ⟨L, h1, h2⟩ := h
  have hh := do_rmdir h1 (by have := aw_l2; rw [← h2, List.length_map] at this; exact this) 0 0 pA ⟨#[]⟩ ⟨#[]⟩ (by decide) (by decide) aw_c4
  rw [h2, aw_e4] at hh
  exact hh.mono fun e w' k => Did.does k
theorem field37 (c z : Int) (b : Bool) (x : ByteArray) (p : Option Addr) (n q : Nat) (w : World) : (Instr.field 37 (.agg #[.int .i64 c, .bool b, .int .i64 z, .string x, .slice p n q]) 0).run Tryz.prog w = .ok (.int .i64 c) w := by kernel_rfl
set_option maxHeartbeats 4000000 in
set_option maxRecDepth 100000 in
theorem awake_any (w : World) : Calls Tryz.prog 8 #[] w fun e w' => e = .returned (.bool true) ∧ Below w.heap.size w w' := by
  have HNEW := hid_in (new_one ⟨pA, true, ⟨#[]⟩⟩ w (by decide) aw_new)
  have H1 := hid_in (fun W g m (k : FsA W g m aw0) => aw_d1 k)
  have H2 := hid_in (fun W g m (k : FsA W g m aw1) => aw_d2 k)
  have H3 := hid_in (fun W g m (k : FsA W g m aw2) => aw_d3 k)
  have H4 := hid_in (fun W g m (k : FsA W g m aw2) => aw_d4 k)
  have e0 : newA [⟨pA, true, ⟨#[]⟩⟩] = aw0 := rfl
  rw [e0] at HNEW
  clear e0
  simp only [Does, RA.err, pA, pAF, List.length_nil] at HNEW H1 H2 H3 H4
  go_enter Tryz.func8, Tryz.ntmps8
  go_upto_region 4 with (first | (go_at_call 10; refine HNEW.out.mono ?_; rintro e w1 ⟨g, m, rfl, hf1, hb1, hm1⟩; have HF1 := hid_in hf1; have HB1 := hid_in hb1; have HM := hid_in hm1; clear hf1 hb1 hm1))
  go_upto_region 5 with (first | (go_at_call 14; refine (H1.out _ _ _ HF1.out).mono ?_; rintro e w2 ⟨vp2, vc2, rfl, hf2, hg2⟩; have HF2 := hid_in hf2; have HB2 := hid_in (HB1.out.grown hg2 HB1.out.size (fun k e => by obtain rfl := Option.some.inj e; exact HM.out)); clear hf2 hg2) | (refine Nd.wpList_store_new rfl rfl 37 5 _ _ rfl _ [Value.int .i64 0, .bool false, .int .i64 0, .string ⟨#[]⟩, .slice vp2 0 vc2] info37 rfl (hid_in rfl) (hid_in (by intro v hv; simp only [List.mem_cons, List.not_mem_nil, or_false] at hv; rcases hv with rfl | rfl | rfl | rfl | rfl <;> rfl)) rfl rfl ?_; intro w3 hr3 hb3 hs3; have HR3 := hid_in hr3; have HF3 := hid_in (HF2.out.below hb3); have HB3 := hid_in (HB2.out.trans (hb3.mono HB2.out.size)); clear hr3 hb3 hs3))
  go_upto_region 6 with (first | (go_at_call 14; refine (H2.out _ _ _ HF3.out).mono ?_; rintro e w4 ⟨vp4, vc4, rfl, hf4, hg4⟩; have HF4 := hid_in hf4; have HR34 := hid_in (row_stays HR3.out HF3.out hg4); have HB4 := hid_in (HB3.out.grown hg4 HB3.out.size (fun k e => by obtain rfl := Option.some.inj e; exact HM.out)); clear hf4 hg4) | (refine Nd.wpList_store_new rfl rfl 37 5 _ _ rfl _ [Value.int .i64 0, .bool false, .int .i64 2, .string ⟨#[]⟩, .slice vp4 0 vc4] info37 rfl (hid_in rfl) (hid_in (by intro v hv; simp only [List.mem_cons, List.not_mem_nil, or_false] at hv; rcases hv with rfl | rfl | rfl | rfl | rfl <;> rfl)) rfl rfl ?_; intro w5 hr5 hb5 hs5; have HR5 := hid_in hr5; have HR35 := hid_in (HR34.out.below hb5 HR34.out.lt); have HF5 := hid_in (HF4.out.below hb5); have HB5 := hid_in (HB4.out.trans (hb5.mono HB4.out.size)); clear hr5 hb5 hs5))
  go_upto_region 7 with (first | (go_at_call 14; refine (H3.out _ _ _ HF5.out).mono ?_; rintro e w6 ⟨vp6, vc6, rfl, hf6, hg6⟩; have HF6 := hid_in hf6; have HR36 := hid_in (row_stays HR35.out HF5.out hg6); have HR56 := hid_in (row_stays HR5.out HF5.out hg6); have HB6 := hid_in (HB5.out.grown hg6 HB5.out.size (fun k e => by obtain rfl := Option.some.inj e; exact HM.out)); clear hf6 hg6) | (refine Nd.wpList_store_new rfl rfl 37 5 _ _ rfl _ [Value.int .i64 0, .bool false, .int .i64 2, .string ⟨#[105]⟩, .slice vp6 0 vc6] info37 rfl (hid_in rfl) (hid_in (by intro v hv; simp only [List.mem_cons, List.not_mem_nil, or_false] at hv; rcases hv with rfl | rfl | rfl | rfl | rfl <;> rfl)) rfl rfl ?_; intro w7 hr7 hb7 hs7; have HR7 := hid_in hr7; have HR37 := hid_in (HR36.out.below hb7 HR36.out.lt); have HR57 := hid_in (HR56.out.below hb7 HR56.out.lt); have HF7 := hid_in (HF6.out.below hb7); have HB7 := hid_in (HB6.out.trans (hb7.mono HB6.out.size)); clear hr7 hb7 hs7))
  have m0 : w7.cell? ⟨w2.heap.size, 0, none⟩ = some (.int .i64 0) := HR37.out.cell 0
  have m1 : w7.cell? ⟨w4.heap.size, 2, none⟩ = some (.int .i64 2) := HR57.out.cell 2
  have m2 : w7.cell? ⟨w6.heap.size, 3, none⟩ = some (.string ⟨#[105]⟩) := HR7.out.cell 3
  have m3 : w7.cell? ⟨w6.heap.size, 2, none⟩ = some (.int .i64 2) := HR7.out.cell 2
  have hfd := field37 130 0 false ⟨#[]⟩
  go_wp2_with (first | (go_at_call 14; refine (H4.out _ _ _ HF7.out).mono ?_; rintro e w8 ⟨vp8, vc8, rfl, hf8, hg8⟩; have HB8 := hid_in (HB7.out.grown hg8 HB7.out.size (fun k e => by obtain rfl := Option.some.inj e; exact HM.out)); clear hf8 hg8))
  go_ret
  exact ⟨rfl, HB8.out⟩
end Go.Proofs.YtngehkmdanhgpaaGreat.Pl
