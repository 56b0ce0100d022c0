/-
  Reading a record.
-/
import Derived.Laws.Tables
import Derived.OwnWalk
import Derived.Deep.CutRange
import Derived.Laws.CopyOwn
import Derived.Deep.RegionLaw
import Derived.Deep.DrawnRows
import Derived.Laws.StructEq
import Derived.Lib.SlBytesConst
import Derived.Test.YtjjofjnhhajjjaaC00
import Derived.Test.YtjjofjnhhajjjaaC01
import Derived.Test.YtjjofjnhhajjjaaC02
import Derived.Test.YtjjofjnhhajjjaaC03
import Derived.Test.YtjjofjnhhajjjaaC04
import Derived.Test.YtjjofjnhhajjjaaC05
import Derived.Test.YtjjofjnhhajjjaaC06
import Derived.Test.YtjjofjnhhajjjaaC07
import Derived.Test.YtjjofjnhhajjjaaC08
import Derived.Test.YtjjofjnhhajjjaaC09
import Derived.Test.YtjjofjnhhajjjaaC10
import Derived.Test.YtjjofjnhhajjjaaC11
import Derived.Test.YtjjofjnhhajjjaaC12
import Derived.Test.YtjjofjnhhajjjaaC13
import Derived.Test.YtjjofjnhhajjjaaC14
import Derived.Test.YtjjofjnhhajjjaaC15
import Derived.Test.YtjjofjnhhajjjaaC16
import Derived.Test.YtjjofjnhhajjjaaC17
import Derived.Test.YtjjofjnhhajjjaaC18
import Derived.Test.YtjjofjnhhajjjaaC19
import Derived.Test.YtjjofjnhhajjjaaC20
import Derived.Test.YtjjofjnhhajjjaaC21
import Derived.Test.YtjjofjnhhajjjaaC22
import Derived.Test.YtjjofjnhhajjjaaC23
import Derived.Test.YtjjofjnhhajjjaaC24
import Derived.Test.YtjjofjnhhajjjaaC25
import Derived.Test.YtjjofjnhhajjjaaC26
import Derived.Test.YtjjofjnhhajjjaaC29
namespace Go.Proofs.Ytjjofjnhhajjjaa.Jr
open Go.RowKit
open Nd (Row wp_world post_Row grownBy_setCell grownBy_trans below_of_grown u8v Grew Sl hid_in i64r bytesS str encO In)
def z7 : List Value := [.int .i64 0, .int .i64 0, .int .i64 0, .int .i64 0, .int .i64 0, .string ⟨#[]⟩, .slice none 0 0]
/-- while a record is read -/
structure RS (w W : World) (B g m : Nat) (vs : List Value) (rest : List Nat) : Prop where
  inn : In B W g (rest, 0)
  zr : Row W w.heap.size z7 77
  mr : Row W m vs 77
  bel : Below w.heap.size w W
  hg : w.heap.size < g
  hm : g < m
  hB : B ≤ m
theorem RS.step {w W W' : World} {B g m : Nat} {vs : List Value} {rest rest' : List Nat} (h : RS w W B g m vs rest) (hi : In B W' g (rest', 0)) (hg : Grew W W' (· = g)) : RS w W' B g m vs rest' :=
  ⟨hi, h.zr.grew hg (by have := h.hg; omega), h.mr.grew hg (by have := h.hm; omega), hg.below h.bel h.bel.size (fun k hk => by have := h.hg; omega), h.hg, h.hm, h.hB⟩
theorem RS.set {w W : World} {B g m : Nat} {vs : List Value} {rest : List Nat} (h : RS w W B g m vs rest) (i : Nat) (v : Value) : RS w (W.setCell ⟨m, i, none⟩ v) B g m (vs.set i v) rest := by
  have hgr := grownBy_setCell W ⟨m, i, none⟩ v
  have h1 := h.hg
  have h2 := h.hm
  exact ⟨in_set h.inn hgr (by show ¬ g = m; omega) h.hB, h.zr.grew (Grew.of_grown hgr) (fun e => by simp at e; omega), h.mr.set_same i v, h.bel.grown hgr h.bel.size (fun k e => by cases e; show w.heap.size ≤ m; omega), h1, h2, h.hB⟩
theorem RS.size {w W : World} {B g m : Nat} {vs : List Value} {rest : List Nat} (h : RS w W B g m vs rest) : B ≤ W.heap.size := Nat.le_trans h.hB (Nat.le_of_lt h.mr.lt)
theorem text_c {B : Nat} (w : World) (g m : Nat) (S : ByteArray) (r : List Nat) (hS : S.size ≤ m) (hm : m ≤ 9223372036854775807) (hi : In B w g ((Nd.Wire.num S.size ++ bytesS S) ++ r, 0)) : Calls Try.prog 65 #[.pointer (some ⟨g, 0, none⟩), .int .i64 (m : Int)] w fun x w' => x = .returned (.string S) ∧ In B w' g (r, 0) ∧ Grew w w' (· = g) := by
  have h := Nd.text_s w g B _ m hm hi
  rw [Nd.sText_text m S r hS hm] at h
  simp only [Nd.str_bytesS] at h
  exact h
theorem info77 : (Try.prog.info? 77).map (·.size) = some 7 := by kernel_rfl
theorem set7 {W : World} {Z : Nat} {t : TypeId} {a0 a1 a2 a3 a4 a5 a6 : Value} (h : Row W Z [a0, a1, a2, a3, a4, a5, a6] t) (b0 b1 b2 b3 b4 b5 b6 : Value) :
    Row (((((((W.setCell ⟨Z, 0, none⟩ b0).setCell ⟨Z, 1, none⟩ b1).setCell ⟨Z, 2, none⟩ b2).setCell ⟨Z, 3, none⟩ b3).setCell ⟨Z, 4, none⟩ b4).setCell ⟨Z, 5, none⟩ b5).setCell ⟨Z, 6, none⟩ b6) Z [b0, b1, b2, b3, b4, b5, b6] t ∧ W.grownBy (((((((W.setCell ⟨Z, 0, none⟩ b0).setCell ⟨Z, 1, none⟩ b1).setCell ⟨Z, 2, none⟩ b2).setCell ⟨Z, 3, none⟩ b3).setCell ⟨Z, 4, none⟩ b4).setCell ⟨Z, 5, none⟩ b5).setCell ⟨Z, 6, none⟩ b6) (some Z) :=
  ⟨((((((h.set_same 0 b0).set_same 1 b1).set_same 2 b2).set_same 3 b3).set_same 4 b4).set_same 5 b5).set_same 6 b6,
    grownBy_trans (grownBy_trans (grownBy_trans (grownBy_trans (grownBy_trans (grownBy_trans (grownBy_setCell W ⟨Z, 0, none⟩ b0) (grownBy_setCell _ ⟨Z, 1, none⟩ b1)) (grownBy_setCell _ ⟨Z, 2, none⟩ b2)) (grownBy_setCell _ ⟨Z, 3, none⟩ b3)) (grownBy_setCell _ ⟨Z, 4, none⟩ b4)) (grownBy_setCell _ ⟨Z, 5, none⟩ b5)) (grownBy_setCell _ ⟨Z, 6, none⟩ b6)⟩
/-- what reading a record answers -/
def RdR (w : World) (kd fr : Int) (tv tn tb : Int) (ts : ByteArray) (te : List Ent) (x : Ending) (w' : World) : Prop :=
  ∃ v, x = .returned (.agg #[.int .i64 kd, .int .i64 fr, .int .i64 tv, .int .i64 tn, .int .i64 tb, .string ts, v]) ∧ EO w' w.heap.size v te ∧ Below w.heap.size w w'
set_option maxHeartbeats 8000000 in
set_option maxRecDepth 100000 in
theorem read_1 (tv : Nat) (h2 : tv ≤ 1099511627776) (w : World) (bs : List Nat) (hbs : bs = Nd.Wire.num 1 ++ Nd.Wire.num tv) (p : Option Addr) (cap b off : Nat) (hsl : Sl w p bs cap b off) (hno : p = none → bs.length = 0 ∧ cap = 0) (hre : bs.length ≤ 262144) :
    Calls Try.prog 43 #[.slice p bs.length cap] w (RdR w 1 0 tv 0 0 ⟨#[]⟩ []) := by
  obtain ⟨W1, H1, R1, B1, S1⟩ := row_new w z7 77
  have HRA := hid_in (Nd.read_any bs p cap b off W1 (hsl.below B1.out) hno (by omega))
  have hb2 : bs = Nd.Wire.num 1 ++ (Nd.Wire.num tv ++ []) := by rw [hbs]; simp
  have HN := hid_in (fun W B g (h : In B W g (Nd.Wire.num 1 ++ (Nd.Wire.num tv ++ []), 0)) => number_c W g 1 4 _ (by decide) (by decide) h)
  have HB2 := hid_in hb2
  obtain ⟨len, HLEN⟩ : ∃ len, Hid (bs.length = len) := ⟨_, hid_in rfl⟩
  rw [HLEN.out] at HRA ⊢
  clear hsl hno hre hbs hb2
  go_enter Try.func43, Try.ntmps43
  go_upto_region 1 with fail
  refine wp_world H1.out ?_
  go_upto_region 3 with (first | (go_at_call 61; refine HRA.out.mono ?_; rintro x w2 ⟨g, rfl, h1, h2, h3⟩; have HG2 := hid_in h2; have HBE := hid_in h3; have HI2 : Hid (In w2.heap.size w2 g (Nd.Wire.num 1 ++ (Nd.Wire.num tv ++ []), 0)) := hid_in (by rw [← HB2.out]; exact h1); have HN2 := hid_in (HN.out w2 w2.heap.size g HI2.out); clear h1 h2 h3) | (go_at_call 62; refine HN2.out.mono ?_; rintro x w3 ⟨rfl, h1, h2⟩; have HI3 := hid_in h1; have HG3 := hid_in h2; clear h1 h2))
  obtain ⟨w4, H4, R4, B4, S4⟩ := row_new w3 [.int .i64 1, .int .i64 0, .int .i64 0, .int .i64 0, .int .i64 0, .string ⟨#[]⟩, .slice none 0 0] 77
  have hs1 := S1.out
  have hz2 := HG3.out.size
  have hgl : g < w2.heap.size := Nd.InIs.blk HI2.out
  have hge := HG2.out
  have RS0 : Hid (RS w w4 w2.heap.size g w3.heap.size [.int .i64 1, .int .i64 0, .int .i64 0, .int .i64 0, .int .i64 0, .string ⟨#[]⟩, .slice none 0 0] (Nd.Wire.num tv ++ [])) := by
    have hr2 : Row w2 w.heap.size z7 77 := R1.out.below HBE.out (by omega)
    have hr3 : Row w3 w.heap.size z7 77 := hr2.grew HG3.out (by omega)
    exact ⟨in_below HI3.out B4.out, hr3.below B4.out (by have := HBE.out.size; omega), R4.out, (HG3.out.below (B1.out.trans (HBE.out.mono B1.out.size)) (by have := HBE.out.size; omega) (fun k hk => by omega)).trans (B4.out.mono (by have := HBE.out.size; omega)), by omega, by omega, hz2⟩
  generalize w2.heap.size = B at *
  have hmz : w.heap.size < w3.heap.size := Nat.lt_trans RS0.out.hg RS0.out.hm
  have hne1 : ¬ w.heap.size = w3.heap.size := Nat.ne_of_lt hmz
  have hne2 : ¬ w3.heap.size = w.heap.size := fun e => hne1 e.symm
  have HMZ := hid_in hmz
  generalize w3.heap.size = m at *
  clear hs1 hz2 hgl hge hmz
  have HC0 := hid_in (number_c w4 g tv 1099511627776 [] (by omega) (by decide) RS0.out.inn)
  refine wp_world H4.out ?_
  have m0 : w4.cell? ⟨m, 0, none⟩ = some (.int .i64 1) := RS0.out.mr.cell 0; have fm0 := RS0.out.mr.frozen 0; have m1 : w4.cell? ⟨m, 1, none⟩ = some (.int .i64 0) := RS0.out.mr.cell 1; have fm1 := RS0.out.mr.frozen 1; have m2 : w4.cell? ⟨m, 2, none⟩ = some (.int .i64 0) := RS0.out.mr.cell 2; have fm2 := RS0.out.mr.frozen 2; have m3 : w4.cell? ⟨m, 3, none⟩ = some (.int .i64 0) := RS0.out.mr.cell 3; have fm3 := RS0.out.mr.frozen 3; have m4 : w4.cell? ⟨m, 4, none⟩ = some (.int .i64 0) := RS0.out.mr.cell 4; have fm4 := RS0.out.mr.frozen 4; have m5 : w4.cell? ⟨m, 5, none⟩ = some (.string ⟨#[]⟩) := RS0.out.mr.cell 5; have fm5 := RS0.out.mr.frozen 5; have m6 : w4.cell? ⟨m, 6, none⟩ = some (.slice none 0 0) := RS0.out.mr.cell 6; have fm6 := RS0.out.mr.frozen 6
  go_upto_region 19 with (first | (go_at_call 62; refine HC0.out.mono ?_; rintro x v0 ⟨rfl, h1, h2⟩; clear m0 fm0 m1 fm1 m2 fm2 m3 fm3 m4 fm4 m5 fm5 m6 fm6; have RSA0 := hid_in (RS0.out.step h1 h2); have m0 : v0.cell? ⟨m, 0, none⟩ = some (.int .i64 1) := RSA0.out.mr.cell 0; have fm0 := RSA0.out.mr.frozen 0; have m1 : v0.cell? ⟨m, 1, none⟩ = some (.int .i64 0) := RSA0.out.mr.cell 1; have fm1 := RSA0.out.mr.frozen 1; have m2 : v0.cell? ⟨m, 2, none⟩ = some (.int .i64 0) := RSA0.out.mr.cell 2; have fm2 := RSA0.out.mr.frozen 2; have m3 : v0.cell? ⟨m, 3, none⟩ = some (.int .i64 0) := RSA0.out.mr.cell 3; have fm3 := RSA0.out.mr.frozen 3; have m4 : v0.cell? ⟨m, 4, none⟩ = some (.int .i64 0) := RSA0.out.mr.cell 4; have fm4 := RSA0.out.mr.frozen 4; have m5 : v0.cell? ⟨m, 5, none⟩ = some (.string ⟨#[]⟩) := RSA0.out.mr.cell 5; have fm5 := RSA0.out.mr.frozen 5; have m6 : v0.cell? ⟨m, 6, none⟩ = some (.slice none 0 0) := RSA0.out.mr.cell 6; have fm6 := RSA0.out.mr.frozen 6; have RS1 := hid_in (RSA0.out.set 2 (.int .i64 (tv : Int))); clear h1 h2 HC0))
  obtain ⟨w8, HW8⟩ : ∃ w8, Hid (v0.setCell ⟨m, 2, none⟩ (.int .i64 (tv : Int)) = w8) := ⟨_, hid_in rfl⟩
  have hrs := RS1.out
  rw [HW8.out] at hrs
  have HRS := hid_in hrs
  have HEN := hid_in (Nd.iend_any w8 g 0 [] hrs.inn)
  have hdt : decide ((0 : Nat) = 0 ∧ ([] : List Nat).length = 0) = true := by decide
  rw [hdt] at HEN
  have HEO8 : Hid (EO w8 (m + 1) (.slice none 0 0) []) := EO.nil _ _
  refine wp_world HW8.out ?_
  clear hdt m0 fm0 m1 fm1 m2 fm2 m3 fm3 m4 fm4 m5 fm5 m6 fm6
  have q0 : w8.cell? ⟨m, 0, none⟩ = some (.int .i64 1) := hrs.mr.cell 0
  have fq0 := hrs.mr.frozen 0
  have q1 : w8.cell? ⟨m, 1, none⟩ = some (.int .i64 0) := hrs.mr.cell 1
  have fq1 := hrs.mr.frozen 1
  have q2 : w8.cell? ⟨m, 2, none⟩ = some (.int .i64 (tv : Int)) := hrs.mr.cell 2
  have fq2 := hrs.mr.frozen 2
  have q3 : w8.cell? ⟨m, 3, none⟩ = some (.int .i64 0) := hrs.mr.cell 3
  have fq3 := hrs.mr.frozen 3
  have q4 : w8.cell? ⟨m, 4, none⟩ = some (.int .i64 0) := hrs.mr.cell 4
  have fq4 := hrs.mr.frozen 4
  have q5 : w8.cell? ⟨m, 5, none⟩ = some (.string ⟨#[]⟩) := hrs.mr.cell 5
  have fq5 := hrs.mr.frozen 5
  have q6 : w8.cell? ⟨m, 6, none⟩ = some (.slice none 0 0) := hrs.mr.cell 6
  have fq6 := hrs.mr.frozen 6
  have z0 : w8.cell? ⟨w.heap.size, 0, none⟩ = some (.int .i64 0) := hrs.zr.cell 0
  have fz0 := hrs.zr.frozen 0
  have z1 : w8.cell? ⟨w.heap.size, 1, none⟩ = some (.int .i64 0) := hrs.zr.cell 1
  have fz1 := hrs.zr.frozen 1
  have z2 : w8.cell? ⟨w.heap.size, 2, none⟩ = some (.int .i64 0) := hrs.zr.cell 2
  have fz2 := hrs.zr.frozen 2
  have z3 : w8.cell? ⟨w.heap.size, 3, none⟩ = some (.int .i64 0) := hrs.zr.cell 3
  have fz3 := hrs.zr.frozen 3
  have z4 : w8.cell? ⟨w.heap.size, 4, none⟩ = some (.int .i64 0) := hrs.zr.cell 4
  have fz4 := hrs.zr.frozen 4
  have z5 : w8.cell? ⟨w.heap.size, 5, none⟩ = some (.string ⟨#[]⟩) := hrs.zr.cell 5
  have fz5 := hrs.zr.frozen 5
  have z6 : w8.cell? ⟨w.heap.size, 6, none⟩ = some (.slice none 0 0) := hrs.zr.cell 6
  have fz6 := hrs.zr.frozen 6
  clear hrs
  go_wp2_with (first | (go_at_call 66; refine HEN.out.mono ?_; rintro x w9 ⟨rfl, rfl⟩))
  have HF := set7 HRS.out.zr (.int .i64 1) (.int .i64 0) (.int .i64 (tv : Int)) (.int .i64 0) (.int .i64 0) (.string ⟨#[]⟩) (.slice none 0 0)
  refine post_Row 2 77 Try.results43 w.heap.size rfl 77 _ HF.1 _ Try.underlying77 rfl 7 info77 rfl rfl ?_
  have hmz := HMZ.out
  exact ⟨_, rfl, EO.mono (EO.keepN HEO8.out HF.2 (by omega)) (by omega), HRS.out.bel.grown HF.2 HRS.out.bel.size (fun k e => by cases e; exact Nat.le_refl _)⟩
set_option maxHeartbeats 8000000 in
set_option maxRecDepth 100000 in
theorem read_3 (fr tv : Nat) (te : List Ent) (h1 : fr ≤ 1099511627776) (h2 : tv ≤ 1099511627776) (h6 : te.length ≤ 32) (hok : ∀ e ∈ te, e.ok) (hsh : ∀ e ∈ te, e.op.short) (w : World) (bs : List Nat) (hbs : bs = Nd.Wire.num 3 ++ (Nd.Wire.num tv ++ Nd.Wire.num fr ++ manyS te)) (p : Option Addr) (cap b off : Nat) (hsl : Sl w p bs cap b off) (hno : p = none → bs.length = 0 ∧ cap = 0) (hre : bs.length ≤ 262144) :
    Calls Try.prog 43 #[.slice p bs.length cap] w (RdR w 3 fr tv 0 0 ⟨#[]⟩ te) := by
  obtain ⟨W1, H1, R1, B1, S1⟩ := row_new w z7 77
  have HRA := hid_in (Nd.read_any bs p cap b off W1 (hsl.below B1.out) hno (by omega))
  have HOK := hid_in hok
  have HSH := hid_in hsh
  clear hok hsh
  have hb2 : bs = Nd.Wire.num 3 ++ (Nd.Wire.num tv ++ (Nd.Wire.num fr ++ (manyS te ++ []))) := by rw [hbs]; simp [List.append_assoc]
  have HN := hid_in (fun W B g (h : In B W g (Nd.Wire.num 3 ++ (Nd.Wire.num tv ++ (Nd.Wire.num fr ++ (manyS te ++ []))), 0)) => number_c W g 3 4 _ (by decide) (by decide) h)
  have HB2 := hid_in hb2
  obtain ⟨len, HLEN⟩ : ∃ len, Hid (bs.length = len) := ⟨_, hid_in rfl⟩
  rw [HLEN.out] at HRA ⊢
  clear hsl hno hre hbs hb2
  go_enter Try.func43, Try.ntmps43
  go_upto_region 1 with fail
  refine wp_world H1.out ?_
  go_upto_region 3 with (first | (go_at_call 61; refine HRA.out.mono ?_; rintro x w2 ⟨g, rfl, h1, h2, h3⟩; have HG2 := hid_in h2; have HBE := hid_in h3; have HI2 : Hid (In w2.heap.size w2 g (Nd.Wire.num 3 ++ (Nd.Wire.num tv ++ (Nd.Wire.num fr ++ (manyS te ++ []))), 0)) := hid_in (by rw [← HB2.out]; exact h1); have HN2 := hid_in (HN.out w2 w2.heap.size g HI2.out); clear h1 h2 h3) | (go_at_call 62; refine HN2.out.mono ?_; rintro x w3 ⟨rfl, h1, h2⟩; have HI3 := hid_in h1; have HG3 := hid_in h2; clear h1 h2))
  obtain ⟨w4, H4, R4, B4, S4⟩ := row_new w3 [.int .i64 3, .int .i64 0, .int .i64 0, .int .i64 0, .int .i64 0, .string ⟨#[]⟩, .slice none 0 0] 77
  have hs1 := S1.out
  have hz2 := HG3.out.size
  have hgl : g < w2.heap.size := Nd.InIs.blk HI2.out
  have hge := HG2.out
  have RS0 : Hid (RS w w4 w2.heap.size g w3.heap.size [.int .i64 3, .int .i64 0, .int .i64 0, .int .i64 0, .int .i64 0, .string ⟨#[]⟩, .slice none 0 0] (Nd.Wire.num tv ++ (Nd.Wire.num fr ++ (manyS te ++ [])))) := by
    have hr2 : Row w2 w.heap.size z7 77 := R1.out.below HBE.out (by omega)
    have hr3 : Row w3 w.heap.size z7 77 := hr2.grew HG3.out (by omega)
    exact ⟨in_below HI3.out B4.out, hr3.below B4.out (by have := HBE.out.size; omega), R4.out, (HG3.out.below (B1.out.trans (HBE.out.mono B1.out.size)) (by have := HBE.out.size; omega) (fun k hk => by omega)).trans (B4.out.mono (by have := HBE.out.size; omega)), by omega, by omega, hz2⟩
  generalize w2.heap.size = B at *
  have hmz : w.heap.size < w3.heap.size := Nat.lt_trans RS0.out.hg RS0.out.hm
  have hne1 : ¬ w.heap.size = w3.heap.size := Nat.ne_of_lt hmz
  have hne2 : ¬ w3.heap.size = w.heap.size := fun e => hne1 e.symm
  have HMZ := hid_in hmz
  generalize w3.heap.size = m at *
  clear hs1 hz2 hgl hge hmz
  have HC0 := hid_in (number_c w4 g tv 1099511627776 (Nd.Wire.num fr ++ (manyS te ++ [])) (by omega) (by decide) RS0.out.inn)
  refine wp_world H4.out ?_
  have m0 : w4.cell? ⟨m, 0, none⟩ = some (.int .i64 3) := RS0.out.mr.cell 0; have fm0 := RS0.out.mr.frozen 0; have m1 : w4.cell? ⟨m, 1, none⟩ = some (.int .i64 0) := RS0.out.mr.cell 1; have fm1 := RS0.out.mr.frozen 1; have m2 : w4.cell? ⟨m, 2, none⟩ = some (.int .i64 0) := RS0.out.mr.cell 2; have fm2 := RS0.out.mr.frozen 2; have m3 : w4.cell? ⟨m, 3, none⟩ = some (.int .i64 0) := RS0.out.mr.cell 3; have fm3 := RS0.out.mr.frozen 3; have m4 : w4.cell? ⟨m, 4, none⟩ = some (.int .i64 0) := RS0.out.mr.cell 4; have fm4 := RS0.out.mr.frozen 4; have m5 : w4.cell? ⟨m, 5, none⟩ = some (.string ⟨#[]⟩) := RS0.out.mr.cell 5; have fm5 := RS0.out.mr.frozen 5; have m6 : w4.cell? ⟨m, 6, none⟩ = some (.slice none 0 0) := RS0.out.mr.cell 6; have fm6 := RS0.out.mr.frozen 6
  go_upto_region 19 with (first | (go_at_call 62; refine HC0.out.mono ?_; rintro x v0 ⟨rfl, h1, h2⟩; clear m0 fm0 m1 fm1 m2 fm2 m3 fm3 m4 fm4 m5 fm5 m6 fm6; have RSA0 := hid_in (RS0.out.step h1 h2); have m0 : v0.cell? ⟨m, 0, none⟩ = some (.int .i64 3) := RSA0.out.mr.cell 0; have fm0 := RSA0.out.mr.frozen 0; have m1 : v0.cell? ⟨m, 1, none⟩ = some (.int .i64 0) := RSA0.out.mr.cell 1; have fm1 := RSA0.out.mr.frozen 1; have m2 : v0.cell? ⟨m, 2, none⟩ = some (.int .i64 0) := RSA0.out.mr.cell 2; have fm2 := RSA0.out.mr.frozen 2; have m3 : v0.cell? ⟨m, 3, none⟩ = some (.int .i64 0) := RSA0.out.mr.cell 3; have fm3 := RSA0.out.mr.frozen 3; have m4 : v0.cell? ⟨m, 4, none⟩ = some (.int .i64 0) := RSA0.out.mr.cell 4; have fm4 := RSA0.out.mr.frozen 4; have m5 : v0.cell? ⟨m, 5, none⟩ = some (.string ⟨#[]⟩) := RSA0.out.mr.cell 5; have fm5 := RSA0.out.mr.frozen 5; have m6 : v0.cell? ⟨m, 6, none⟩ = some (.slice none 0 0) := RSA0.out.mr.cell 6; have fm6 := RSA0.out.mr.frozen 6; have RS1 := hid_in (RSA0.out.set 2 (.int .i64 (tv : Int))); have HC1 := hid_in (number_c _ g fr 1099511627776 (manyS te ++ []) (by omega) (by decide) RS1.out.inn); clear h1 h2 HC0) | (go_at_call 62; refine HC1.out.mono ?_; rintro x v1 ⟨rfl, h1, h2⟩; clear m0 fm0 m1 fm1 m2 fm2 m3 fm3 m4 fm4 m5 fm5 m6 fm6; have RSA1 := hid_in (RS1.out.step h1 h2); have m0 : v1.cell? ⟨m, 0, none⟩ = some (.int .i64 3) := RSA1.out.mr.cell 0; have fm0 := RSA1.out.mr.frozen 0; have m1 : v1.cell? ⟨m, 1, none⟩ = some (.int .i64 0) := RSA1.out.mr.cell 1; have fm1 := RSA1.out.mr.frozen 1; have m2 : v1.cell? ⟨m, 2, none⟩ = some (.int .i64 (tv : Int)) := RSA1.out.mr.cell 2; have fm2 := RSA1.out.mr.frozen 2; have m3 : v1.cell? ⟨m, 3, none⟩ = some (.int .i64 0) := RSA1.out.mr.cell 3; have fm3 := RSA1.out.mr.frozen 3; have m4 : v1.cell? ⟨m, 4, none⟩ = some (.int .i64 0) := RSA1.out.mr.cell 4; have fm4 := RSA1.out.mr.frozen 4; have m5 : v1.cell? ⟨m, 5, none⟩ = some (.string ⟨#[]⟩) := RSA1.out.mr.cell 5; have fm5 := RSA1.out.mr.frozen 5; have m6 : v1.cell? ⟨m, 6, none⟩ = some (.slice none 0 0) := RSA1.out.mr.cell 6; have fm6 := RSA1.out.mr.frozen 6; have RS2 := hid_in (RSA1.out.set 1 (.int .i64 (fr : Int))); have HC2 := hid_in (readEntries_c _ g te [] RS2.out.size HOK.out HSH.out h6 (by decide) RS2.out.inn); clear h1 h2 HC1) | (go_at_call 64; refine HC2.out.mono ?_; rintro x v2 ⟨ev, rfl, h0, h1, h2⟩; obtain ⟨ep, ec, rfl⟩ := EO.form h0; clear m0 fm0 m1 fm1 m2 fm2 m3 fm3 m4 fm4 m5 fm5 m6 fm6; have HEV := hid_in h0; have RSA2 := hid_in (RS2.out.step h1 h2); have m0 : v2.cell? ⟨m, 0, none⟩ = some (.int .i64 3) := RSA2.out.mr.cell 0; have fm0 := RSA2.out.mr.frozen 0; have m1 : v2.cell? ⟨m, 1, none⟩ = some (.int .i64 (fr : Int)) := RSA2.out.mr.cell 1; have fm1 := RSA2.out.mr.frozen 1; have m2 : v2.cell? ⟨m, 2, none⟩ = some (.int .i64 (tv : Int)) := RSA2.out.mr.cell 2; have fm2 := RSA2.out.mr.frozen 2; have m3 : v2.cell? ⟨m, 3, none⟩ = some (.int .i64 0) := RSA2.out.mr.cell 3; have fm3 := RSA2.out.mr.frozen 3; have m4 : v2.cell? ⟨m, 4, none⟩ = some (.int .i64 0) := RSA2.out.mr.cell 4; have fm4 := RSA2.out.mr.frozen 4; have m5 : v2.cell? ⟨m, 5, none⟩ = some (.string ⟨#[]⟩) := RSA2.out.mr.cell 5; have fm5 := RSA2.out.mr.frozen 5; have m6 : v2.cell? ⟨m, 6, none⟩ = some (.slice none 0 0) := RSA2.out.mr.cell 6; have fm6 := RSA2.out.mr.frozen 6; have RS3 := hid_in (RSA2.out.set 6 (.slice ep te.length ec)); clear h1 h2 h0 HC2))
  obtain ⟨w8, HW8⟩ : ∃ w8, Hid (v2.setCell ⟨m, 6, none⟩ (.slice ep te.length ec) = w8) := ⟨_, hid_in rfl⟩
  have hrs := RS3.out
  rw [HW8.out] at hrs
  have HRS := hid_in hrs
  have HEN := hid_in (Nd.iend_any w8 g 0 [] hrs.inn)
  have hdt : decide ((0 : Nat) = 0 ∧ ([] : List Nat).length = 0) = true := by decide
  rw [hdt] at HEN
  have HEO8 : Hid (EO w8 (m + 1) (.slice ep te.length ec) te) := hid_in (by
    rw [← HW8.out]
    exact EO.keepN (EO.mono HEV.out (RS2.out.mr.lt)) (grownBy_setCell _ _ _) (by show m < m + 1; omega))
  refine wp_world HW8.out ?_
  clear hdt m0 fm0 m1 fm1 m2 fm2 m3 fm3 m4 fm4 m5 fm5 m6 fm6
  have q0 : w8.cell? ⟨m, 0, none⟩ = some (.int .i64 3) := hrs.mr.cell 0
  have fq0 := hrs.mr.frozen 0
  have q1 : w8.cell? ⟨m, 1, none⟩ = some (.int .i64 (fr : Int)) := hrs.mr.cell 1
  have fq1 := hrs.mr.frozen 1
  have q2 : w8.cell? ⟨m, 2, none⟩ = some (.int .i64 (tv : Int)) := hrs.mr.cell 2
  have fq2 := hrs.mr.frozen 2
  have q3 : w8.cell? ⟨m, 3, none⟩ = some (.int .i64 0) := hrs.mr.cell 3
  have fq3 := hrs.mr.frozen 3
  have q4 : w8.cell? ⟨m, 4, none⟩ = some (.int .i64 0) := hrs.mr.cell 4
  have fq4 := hrs.mr.frozen 4
  have q5 : w8.cell? ⟨m, 5, none⟩ = some (.string ⟨#[]⟩) := hrs.mr.cell 5
  have fq5 := hrs.mr.frozen 5
  have q6 : w8.cell? ⟨m, 6, none⟩ = some (.slice ep te.length ec) := hrs.mr.cell 6
  have fq6 := hrs.mr.frozen 6
  have z0 : w8.cell? ⟨w.heap.size, 0, none⟩ = some (.int .i64 0) := hrs.zr.cell 0
  have fz0 := hrs.zr.frozen 0
  have z1 : w8.cell? ⟨w.heap.size, 1, none⟩ = some (.int .i64 0) := hrs.zr.cell 1
  have fz1 := hrs.zr.frozen 1
  have z2 : w8.cell? ⟨w.heap.size, 2, none⟩ = some (.int .i64 0) := hrs.zr.cell 2
  have fz2 := hrs.zr.frozen 2
  have z3 : w8.cell? ⟨w.heap.size, 3, none⟩ = some (.int .i64 0) := hrs.zr.cell 3
  have fz3 := hrs.zr.frozen 3
  have z4 : w8.cell? ⟨w.heap.size, 4, none⟩ = some (.int .i64 0) := hrs.zr.cell 4
  have fz4 := hrs.zr.frozen 4
  have z5 : w8.cell? ⟨w.heap.size, 5, none⟩ = some (.string ⟨#[]⟩) := hrs.zr.cell 5
  have fz5 := hrs.zr.frozen 5
  have z6 : w8.cell? ⟨w.heap.size, 6, none⟩ = some (.slice none 0 0) := hrs.zr.cell 6
  have fz6 := hrs.zr.frozen 6
  clear hrs
  go_wp2_with (first | (go_at_call 66; refine HEN.out.mono ?_; rintro x w9 ⟨rfl, rfl⟩))
  have HF := set7 HRS.out.zr (.int .i64 3) (.int .i64 (fr : Int)) (.int .i64 (tv : Int)) (.int .i64 0) (.int .i64 0) (.string ⟨#[]⟩) (.slice ep te.length ec)
  refine post_Row 2 77 Try.results43 w.heap.size rfl 77 _ HF.1 _ Try.underlying77 rfl 7 info77 rfl rfl ?_
  have hmz := HMZ.out
  exact ⟨_, rfl, EO.mono (EO.keepN HEO8.out HF.2 (by omega)) (by omega), HRS.out.bel.grown HF.2 HRS.out.bel.size (fun k e => by cases e; exact Nat.le_refl _)⟩
set_option maxHeartbeats 8000000 in
set_option maxRecDepth 100000 in
theorem read_4 (tv tn tb : Nat) (ts : ByteArray) (te : List Ent) (h2 : tv ≤ 1099511627776) (h3 : tn ≤ 1099511627776) (h4 : tb ≤ 1099511627776) (h5 : ts.size ≤ 65536) (h6 : te.length ≤ 32) (hok : ∀ e ∈ te, e.ok) (hsh : ∀ e ∈ te, e.op.short) (w : World) (bs : List Nat) (hbs : bs = Nd.Wire.num 4 ++ (Nd.Wire.num tv ++ Nd.Wire.num tn ++ Nd.Wire.num tb ++ (Nd.Wire.num ts.size ++ bytesS ts) ++ manyS te)) (p : Option Addr) (cap b off : Nat) (hsl : Sl w p bs cap b off) (hno : p = none → bs.length = 0 ∧ cap = 0) (hre : bs.length ≤ 262144) :
    Calls Try.prog 43 #[.slice p bs.length cap] w (RdR w 4 0 tv tn tb ts te) := by
  obtain ⟨W1, H1, R1, B1, S1⟩ := row_new w z7 77
  have HRA := hid_in (Nd.read_any bs p cap b off W1 (hsl.below B1.out) hno (by omega))
  have HOK := hid_in hok
  have HSH := hid_in hsh
  clear hok hsh
  have hb2 : bs = Nd.Wire.num 4 ++ (Nd.Wire.num tv ++ (Nd.Wire.num tn ++ (Nd.Wire.num tb ++ ((Nd.Wire.num ts.size ++ bytesS ts) ++ (manyS te ++ []))))) := by rw [hbs]; simp [List.append_assoc]
  have HN := hid_in (fun W B g (h : In B W g (Nd.Wire.num 4 ++ (Nd.Wire.num tv ++ (Nd.Wire.num tn ++ (Nd.Wire.num tb ++ ((Nd.Wire.num ts.size ++ bytesS ts) ++ (manyS te ++ []))))), 0)) => number_c W g 4 4 _ (by decide) (by decide) h)
  have HB2 := hid_in hb2
  obtain ⟨len, HLEN⟩ : ∃ len, Hid (bs.length = len) := ⟨_, hid_in rfl⟩
  rw [HLEN.out] at HRA ⊢
  clear hsl hno hre hbs hb2
  go_enter Try.func43, Try.ntmps43
  go_upto_region 1 with fail
  refine wp_world H1.out ?_
  go_upto_region 3 with (first | (go_at_call 61; refine HRA.out.mono ?_; rintro x w2 ⟨g, rfl, h1, h2, h3⟩; have HG2 := hid_in h2; have HBE := hid_in h3; have HI2 : Hid (In w2.heap.size w2 g (Nd.Wire.num 4 ++ (Nd.Wire.num tv ++ (Nd.Wire.num tn ++ (Nd.Wire.num tb ++ ((Nd.Wire.num ts.size ++ bytesS ts) ++ (manyS te ++ []))))), 0)) := hid_in (by rw [← HB2.out]; exact h1); have HN2 := hid_in (HN.out w2 w2.heap.size g HI2.out); clear h1 h2 h3) | (go_at_call 62; refine HN2.out.mono ?_; rintro x w3 ⟨rfl, h1, h2⟩; have HI3 := hid_in h1; have HG3 := hid_in h2; clear h1 h2))
  obtain ⟨w4, H4, R4, B4, S4⟩ := row_new w3 [.int .i64 4, .int .i64 0, .int .i64 0, .int .i64 0, .int .i64 0, .string ⟨#[]⟩, .slice none 0 0] 77
  have hs1 := S1.out
  have hz2 := HG3.out.size
  have hgl : g < w2.heap.size := Nd.InIs.blk HI2.out
  have hge := HG2.out
  have RS0 : Hid (RS w w4 w2.heap.size g w3.heap.size [.int .i64 4, .int .i64 0, .int .i64 0, .int .i64 0, .int .i64 0, .string ⟨#[]⟩, .slice none 0 0] (Nd.Wire.num tv ++ (Nd.Wire.num tn ++ (Nd.Wire.num tb ++ ((Nd.Wire.num ts.size ++ bytesS ts) ++ (manyS te ++ [])))))) := by
    have hr2 : Row w2 w.heap.size z7 77 := R1.out.below HBE.out (by omega)
    have hr3 : Row w3 w.heap.size z7 77 := hr2.grew HG3.out (by omega)
    exact ⟨in_below HI3.out B4.out, hr3.below B4.out (by have := HBE.out.size; omega), R4.out, (HG3.out.below (B1.out.trans (HBE.out.mono B1.out.size)) (by have := HBE.out.size; omega) (fun k hk => by omega)).trans (B4.out.mono (by have := HBE.out.size; omega)), by omega, by omega, hz2⟩
  generalize w2.heap.size = B at *
  have hmz : w.heap.size < w3.heap.size := Nat.lt_trans RS0.out.hg RS0.out.hm
  have hne1 : ¬ w.heap.size = w3.heap.size := Nat.ne_of_lt hmz
  have hne2 : ¬ w3.heap.size = w.heap.size := fun e => hne1 e.symm
  have HMZ := hid_in hmz
  generalize w3.heap.size = m at *
  clear hs1 hz2 hgl hge hmz
  have HC0 := hid_in (number_c w4 g tv 1099511627776 (Nd.Wire.num tn ++ (Nd.Wire.num tb ++ ((Nd.Wire.num ts.size ++ bytesS ts) ++ (manyS te ++ [])))) (by omega) (by decide) RS0.out.inn)
  refine wp_world H4.out ?_
  have m0 : w4.cell? ⟨m, 0, none⟩ = some (.int .i64 4) := RS0.out.mr.cell 0; have fm0 := RS0.out.mr.frozen 0; have m1 : w4.cell? ⟨m, 1, none⟩ = some (.int .i64 0) := RS0.out.mr.cell 1; have fm1 := RS0.out.mr.frozen 1; have m2 : w4.cell? ⟨m, 2, none⟩ = some (.int .i64 0) := RS0.out.mr.cell 2; have fm2 := RS0.out.mr.frozen 2; have m3 : w4.cell? ⟨m, 3, none⟩ = some (.int .i64 0) := RS0.out.mr.cell 3; have fm3 := RS0.out.mr.frozen 3; have m4 : w4.cell? ⟨m, 4, none⟩ = some (.int .i64 0) := RS0.out.mr.cell 4; have fm4 := RS0.out.mr.frozen 4; have m5 : w4.cell? ⟨m, 5, none⟩ = some (.string ⟨#[]⟩) := RS0.out.mr.cell 5; have fm5 := RS0.out.mr.frozen 5; have m6 : w4.cell? ⟨m, 6, none⟩ = some (.slice none 0 0) := RS0.out.mr.cell 6; have fm6 := RS0.out.mr.frozen 6
  go_upto_region 19 with (first | (go_at_call 62; refine HC0.out.mono ?_; rintro x v0 ⟨rfl, h1, h2⟩; clear m0 fm0 m1 fm1 m2 fm2 m3 fm3 m4 fm4 m5 fm5 m6 fm6; have RSA0 := hid_in (RS0.out.step h1 h2); have m0 : v0.cell? ⟨m, 0, none⟩ = some (.int .i64 4) := RSA0.out.mr.cell 0; have fm0 := RSA0.out.mr.frozen 0; have m1 : v0.cell? ⟨m, 1, none⟩ = some (.int .i64 0) := RSA0.out.mr.cell 1; have fm1 := RSA0.out.mr.frozen 1; have m2 : v0.cell? ⟨m, 2, none⟩ = some (.int .i64 0) := RSA0.out.mr.cell 2; have fm2 := RSA0.out.mr.frozen 2; have m3 : v0.cell? ⟨m, 3, none⟩ = some (.int .i64 0) := RSA0.out.mr.cell 3; have fm3 := RSA0.out.mr.frozen 3; have m4 : v0.cell? ⟨m, 4, none⟩ = some (.int .i64 0) := RSA0.out.mr.cell 4; have fm4 := RSA0.out.mr.frozen 4; have m5 : v0.cell? ⟨m, 5, none⟩ = some (.string ⟨#[]⟩) := RSA0.out.mr.cell 5; have fm5 := RSA0.out.mr.frozen 5; have m6 : v0.cell? ⟨m, 6, none⟩ = some (.slice none 0 0) := RSA0.out.mr.cell 6; have fm6 := RSA0.out.mr.frozen 6; have RS1 := hid_in (RSA0.out.set 2 (.int .i64 (tv : Int))); have HC1 := hid_in (number_c _ g tn 1099511627776 (Nd.Wire.num tb ++ ((Nd.Wire.num ts.size ++ bytesS ts) ++ (manyS te ++ []))) (by omega) (by decide) RS1.out.inn); clear h1 h2 HC0) | (go_at_call 62; refine HC1.out.mono ?_; rintro x v1 ⟨rfl, h1, h2⟩; clear m0 fm0 m1 fm1 m2 fm2 m3 fm3 m4 fm4 m5 fm5 m6 fm6; have RSA1 := hid_in (RS1.out.step h1 h2); have m0 : v1.cell? ⟨m, 0, none⟩ = some (.int .i64 4) := RSA1.out.mr.cell 0; have fm0 := RSA1.out.mr.frozen 0; have m1 : v1.cell? ⟨m, 1, none⟩ = some (.int .i64 0) := RSA1.out.mr.cell 1; have fm1 := RSA1.out.mr.frozen 1; have m2 : v1.cell? ⟨m, 2, none⟩ = some (.int .i64 (tv : Int)) := RSA1.out.mr.cell 2; have fm2 := RSA1.out.mr.frozen 2; have m3 : v1.cell? ⟨m, 3, none⟩ = some (.int .i64 0) := RSA1.out.mr.cell 3; have fm3 := RSA1.out.mr.frozen 3; have m4 : v1.cell? ⟨m, 4, none⟩ = some (.int .i64 0) := RSA1.out.mr.cell 4; have fm4 := RSA1.out.mr.frozen 4; have m5 : v1.cell? ⟨m, 5, none⟩ = some (.string ⟨#[]⟩) := RSA1.out.mr.cell 5; have fm5 := RSA1.out.mr.frozen 5; have m6 : v1.cell? ⟨m, 6, none⟩ = some (.slice none 0 0) := RSA1.out.mr.cell 6; have fm6 := RSA1.out.mr.frozen 6; have RS2 := hid_in (RSA1.out.set 3 (.int .i64 (tn : Int))); have HC2 := hid_in (number_c _ g tb 1099511627776 ((Nd.Wire.num ts.size ++ bytesS ts) ++ (manyS te ++ [])) (by omega) (by decide) RS2.out.inn); clear h1 h2 HC1) | (go_at_call 62; refine HC2.out.mono ?_; rintro x v2 ⟨rfl, h1, h2⟩; clear m0 fm0 m1 fm1 m2 fm2 m3 fm3 m4 fm4 m5 fm5 m6 fm6; have RSA2 := hid_in (RS2.out.step h1 h2); have m0 : v2.cell? ⟨m, 0, none⟩ = some (.int .i64 4) := RSA2.out.mr.cell 0; have fm0 := RSA2.out.mr.frozen 0; have m1 : v2.cell? ⟨m, 1, none⟩ = some (.int .i64 0) := RSA2.out.mr.cell 1; have fm1 := RSA2.out.mr.frozen 1; have m2 : v2.cell? ⟨m, 2, none⟩ = some (.int .i64 (tv : Int)) := RSA2.out.mr.cell 2; have fm2 := RSA2.out.mr.frozen 2; have m3 : v2.cell? ⟨m, 3, none⟩ = some (.int .i64 (tn : Int)) := RSA2.out.mr.cell 3; have fm3 := RSA2.out.mr.frozen 3; have m4 : v2.cell? ⟨m, 4, none⟩ = some (.int .i64 0) := RSA2.out.mr.cell 4; have fm4 := RSA2.out.mr.frozen 4; have m5 : v2.cell? ⟨m, 5, none⟩ = some (.string ⟨#[]⟩) := RSA2.out.mr.cell 5; have fm5 := RSA2.out.mr.frozen 5; have m6 : v2.cell? ⟨m, 6, none⟩ = some (.slice none 0 0) := RSA2.out.mr.cell 6; have fm6 := RSA2.out.mr.frozen 6; have RS3 := hid_in (RSA2.out.set 4 (.int .i64 (tb : Int))); have HC3 := hid_in (text_c _ g 65536 ts (manyS te ++ []) h5 (by decide) RS3.out.inn); clear h1 h2 HC2) | (go_at_call 65; refine HC3.out.mono ?_; rintro x v3 ⟨rfl, h1, h2⟩; clear m0 fm0 m1 fm1 m2 fm2 m3 fm3 m4 fm4 m5 fm5 m6 fm6; have RSA3 := hid_in (RS3.out.step h1 h2); have m0 : v3.cell? ⟨m, 0, none⟩ = some (.int .i64 4) := RSA3.out.mr.cell 0; have fm0 := RSA3.out.mr.frozen 0; have m1 : v3.cell? ⟨m, 1, none⟩ = some (.int .i64 0) := RSA3.out.mr.cell 1; have fm1 := RSA3.out.mr.frozen 1; have m2 : v3.cell? ⟨m, 2, none⟩ = some (.int .i64 (tv : Int)) := RSA3.out.mr.cell 2; have fm2 := RSA3.out.mr.frozen 2; have m3 : v3.cell? ⟨m, 3, none⟩ = some (.int .i64 (tn : Int)) := RSA3.out.mr.cell 3; have fm3 := RSA3.out.mr.frozen 3; have m4 : v3.cell? ⟨m, 4, none⟩ = some (.int .i64 (tb : Int)) := RSA3.out.mr.cell 4; have fm4 := RSA3.out.mr.frozen 4; have m5 : v3.cell? ⟨m, 5, none⟩ = some (.string ⟨#[]⟩) := RSA3.out.mr.cell 5; have fm5 := RSA3.out.mr.frozen 5; have m6 : v3.cell? ⟨m, 6, none⟩ = some (.slice none 0 0) := RSA3.out.mr.cell 6; have fm6 := RSA3.out.mr.frozen 6; have RS4 := hid_in (RSA3.out.set 5 (.string ts)); have HC4 := hid_in (readEntries_c _ g te [] RS4.out.size HOK.out HSH.out h6 (by decide) RS4.out.inn); clear h1 h2 HC3) | (go_at_call 64; refine HC4.out.mono ?_; rintro x v4 ⟨ev, rfl, h0, h1, h2⟩; obtain ⟨ep, ec, rfl⟩ := EO.form h0; clear m0 fm0 m1 fm1 m2 fm2 m3 fm3 m4 fm4 m5 fm5 m6 fm6; have HEV := hid_in h0; have RSA4 := hid_in (RS4.out.step h1 h2); have m0 : v4.cell? ⟨m, 0, none⟩ = some (.int .i64 4) := RSA4.out.mr.cell 0; have fm0 := RSA4.out.mr.frozen 0; have m1 : v4.cell? ⟨m, 1, none⟩ = some (.int .i64 0) := RSA4.out.mr.cell 1; have fm1 := RSA4.out.mr.frozen 1; have m2 : v4.cell? ⟨m, 2, none⟩ = some (.int .i64 (tv : Int)) := RSA4.out.mr.cell 2; have fm2 := RSA4.out.mr.frozen 2; have m3 : v4.cell? ⟨m, 3, none⟩ = some (.int .i64 (tn : Int)) := RSA4.out.mr.cell 3; have fm3 := RSA4.out.mr.frozen 3; have m4 : v4.cell? ⟨m, 4, none⟩ = some (.int .i64 (tb : Int)) := RSA4.out.mr.cell 4; have fm4 := RSA4.out.mr.frozen 4; have m5 : v4.cell? ⟨m, 5, none⟩ = some (.string ts) := RSA4.out.mr.cell 5; have fm5 := RSA4.out.mr.frozen 5; have m6 : v4.cell? ⟨m, 6, none⟩ = some (.slice none 0 0) := RSA4.out.mr.cell 6; have fm6 := RSA4.out.mr.frozen 6; have RS5 := hid_in (RSA4.out.set 6 (.slice ep te.length ec)); clear h1 h2 h0 HC4))
  obtain ⟨w8, HW8⟩ : ∃ w8, Hid (v4.setCell ⟨m, 6, none⟩ (.slice ep te.length ec) = w8) := ⟨_, hid_in rfl⟩
  have hrs := RS5.out
  rw [HW8.out] at hrs
  have HRS := hid_in hrs
  have HEN := hid_in (Nd.iend_any w8 g 0 [] hrs.inn)
  have hdt : decide ((0 : Nat) = 0 ∧ ([] : List Nat).length = 0) = true := by decide
  rw [hdt] at HEN
  have HEO8 : Hid (EO w8 (m + 1) (.slice ep te.length ec) te) := hid_in (by
    rw [← HW8.out]
    exact EO.keepN (EO.mono HEV.out (RS4.out.mr.lt)) (grownBy_setCell _ _ _) (by show m < m + 1; omega))
  refine wp_world HW8.out ?_
  clear hdt m0 fm0 m1 fm1 m2 fm2 m3 fm3 m4 fm4 m5 fm5 m6 fm6
  have q0 : w8.cell? ⟨m, 0, none⟩ = some (.int .i64 4) := hrs.mr.cell 0
  have fq0 := hrs.mr.frozen 0
  have q1 : w8.cell? ⟨m, 1, none⟩ = some (.int .i64 0) := hrs.mr.cell 1
  have fq1 := hrs.mr.frozen 1
  have q2 : w8.cell? ⟨m, 2, none⟩ = some (.int .i64 (tv : Int)) := hrs.mr.cell 2
  have fq2 := hrs.mr.frozen 2
  have q3 : w8.cell? ⟨m, 3, none⟩ = some (.int .i64 (tn : Int)) := hrs.mr.cell 3
  have fq3 := hrs.mr.frozen 3
  have q4 : w8.cell? ⟨m, 4, none⟩ = some (.int .i64 (tb : Int)) := hrs.mr.cell 4
  have fq4 := hrs.mr.frozen 4
  have q5 : w8.cell? ⟨m, 5, none⟩ = some (.string ts) := hrs.mr.cell 5
  have fq5 := hrs.mr.frozen 5
  have q6 : w8.cell? ⟨m, 6, none⟩ = some (.slice ep te.length ec) := hrs.mr.cell 6
  have fq6 := hrs.mr.frozen 6
  have z0 : w8.cell? ⟨w.heap.size, 0, none⟩ = some (.int .i64 0) := hrs.zr.cell 0
  have fz0 := hrs.zr.frozen 0
  have z1 : w8.cell? ⟨w.heap.size, 1, none⟩ = some (.int .i64 0) := hrs.zr.cell 1
  have fz1 := hrs.zr.frozen 1
  have z2 : w8.cell? ⟨w.heap.size, 2, none⟩ = some (.int .i64 0) := hrs.zr.cell 2
  have fz2 := hrs.zr.frozen 2
  have z3 : w8.cell? ⟨w.heap.size, 3, none⟩ = some (.int .i64 0) := hrs.zr.cell 3
  have fz3 := hrs.zr.frozen 3
  have z4 : w8.cell? ⟨w.heap.size, 4, none⟩ = some (.int .i64 0) := hrs.zr.cell 4
  have fz4 := hrs.zr.frozen 4
  have z5 : w8.cell? ⟨w.heap.size, 5, none⟩ = some (.string ⟨#[]⟩) := hrs.zr.cell 5
  have fz5 := hrs.zr.frozen 5
  have z6 : w8.cell? ⟨w.heap.size, 6, none⟩ = some (.slice none 0 0) := hrs.zr.cell 6
  have fz6 := hrs.zr.frozen 6
  clear hrs
  go_wp2_with (first | (go_at_call 66; refine HEN.out.mono ?_; rintro x w9 ⟨rfl, rfl⟩))
  have HF := set7 HRS.out.zr (.int .i64 4) (.int .i64 0) (.int .i64 (tv : Int)) (.int .i64 (tn : Int)) (.int .i64 (tb : Int)) (.string ts) (.slice ep te.length ec)
  refine post_Row 2 77 Try.results43 w.heap.size rfl 77 _ HF.1 _ Try.underlying77 rfl 7 info77 rfl rfl ?_
  have hmz := HMZ.out
  exact ⟨_, rfl, EO.mono (EO.keepN HEO8.out HF.2 (by omega)) (by omega), HRS.out.bel.grown HF.2 HRS.out.bel.size (fun k e => by cases e; exact Nat.le_refl _)⟩
end Go.Proofs.Ytjjofjnhhajjjaa.Jr
