/-
  Acts; the first entry of an act. An act's call: View, Entry, none. An act's call: what is copied, put in, then written over. Open's deferred function, where nothing was thrown.
-/
import Derived.Laws.Tables
import Derived.OwnWalk
import Derived.Lib.SlBytesConst
import Derived.Deep.RegionLaw
import Derived.Deep.CutRange
import Derived.Laws.CopyOwn
import Derived.Deep.DrawnRows
import Derived.Laws.StructEq
import Derived.Defers
import Derived.Recover
import Derived.Test.YtjjofjnhhajjjaaC00
import Derived.Test.YtjjofjnhhajjjaaC01
import Derived.Test.YtjjofjnhhajjjaaC02
import Derived.Test.YtjjofjnhhajjjaaC03
import Derived.Test.YtjjofjnhhajjjaaC04
import Derived.Test.YtjjofjnhhajjjaaC05
import Derived.Test.YtjjofjnhhajjjaaC06
import Derived.Test.YtjjofjnhhajjjaaC07
import Derived.Test.YtjjofjnhhajjjaaC08
import Derived.Test.YtjjofjnhhajjjaaC09
import Derived.Test.YtjjofjnhhajjjaaC10
import Derived.Test.YtjjofjnhhajjjaaC11
import Derived.Test.YtjjofjnhhajjjaaC12
import Derived.Test.YtjjofjnhhajjjaaC13
import Derived.Test.YtjjofjnhhajjjaaC14
import Derived.Test.YtjjofjnhhajjjaaC15
import Derived.Test.YtjjofjnhhajjjaaC16
import Derived.Test.YtjjofjnhhajjjaaC17
import Derived.Test.YtjjofjnhhajjjaaC18
import Derived.Test.YtjjofjnhhajjjaaC19
import Derived.Test.YtjjofjnhhajjjaaC20
import Derived.Test.YtjjofjnhhajjjaaC21
import Derived.Test.YtjjofjnhhajjjaaC22
import Derived.Test.YtjjofjnhhajjjaaC23
import Derived.Test.YtjjofjnhhajjjaaC24
import Derived.Test.YtjjofjnhhajjjaaC25
import Derived.Test.YtjjofjnhhajjjaaC26
namespace Go.Proofs.Ytjjofjnhhajjjaa.Jr
open Go.RowKit
open Nd (Row wp_world post_Row grownBy_setCell grownBy_trans below_of_grown u8v Grew Sl hid_in i64r bytesS str)
/-- an act -/
structure Ac where
  kind : Int
  view : Int
  frm : Int
  k : Kt
  ve : Value
  fail : Int
  keep : Value
  ks : List Int
def Ac.cells (a : Ac) : List Value := [.int .i64 a.kind, .int .i64 a.view, .int .i64 a.frm, .int .i64 a.k.view, .int .i64 a.k.normal, .int .i64 a.k.base, .string a.k.state, a.ve, .int .i64 a.fail, a.keep]
def Ac.val (a : Ac) : Value := .agg #[.int .i64 a.kind, .int .i64 a.view, .int .i64 a.frm, .int .i64 a.k.view, .int .i64 a.k.normal, .int .i64 a.k.base, .string a.k.state, a.ve, .int .i64 a.fail, a.keep]
structure Ac.ok (w : World) (a : Ac) : Prop where
  kind : i64r a.kind
  view : i64r a.view
  frm : i64r a.frm
  k : a.k.ok
  es : Es w a.ve a.k.ents
  fail : i64r a.fail
  slice : ∃ p l c, a.keep = .slice p l c
def Ac.first (a : Ac) : Ent := a.k.ents.headD zeroE
theorem set8k {W : World} {Z : Nat} {t : TypeId} {a0 a1 a2 a3 a4 a5 a6 a7 : Value} (h : Row W Z [a0, a1, a2, a3, a4, a5, a6, a7] t) (b0 b1 b2 b3 b4 b5 b6 b7 : Value) :
    Row ((((((((W.setCell ⟨Z, 0, none⟩ b0).setCell ⟨Z, 1, none⟩ b1).setCell ⟨Z, 2, none⟩ b2).setCell ⟨Z, 3, none⟩ b3).setCell ⟨Z, 4, none⟩ b4).setCell ⟨Z, 5, none⟩ b5).setCell ⟨Z, 6, none⟩ b6).setCell ⟨Z, 7, none⟩ b7) Z [b0, b1, b2, b3, b4, b5, b6, b7] t ∧
      W.grownBy ((((((((W.setCell ⟨Z, 0, none⟩ b0).setCell ⟨Z, 1, none⟩ b1).setCell ⟨Z, 2, none⟩ b2).setCell ⟨Z, 3, none⟩ b3).setCell ⟨Z, 4, none⟩ b4).setCell ⟨Z, 5, none⟩ b5).setCell ⟨Z, 6, none⟩ b6).setCell ⟨Z, 7, none⟩ b7) (some Z) :=
  ⟨set8 h b0 b1 b2 b3 b4 b5 b6 b7,
  grownBy_trans (grownBy_trans (grownBy_trans (grownBy_trans (grownBy_trans (grownBy_trans (grownBy_trans (grownBy_setCell W ⟨Z, 0, none⟩ b0) (grownBy_setCell _ ⟨Z, 1, none⟩ b1)) (grownBy_setCell _ ⟨Z, 2, none⟩ b2)) (grownBy_setCell _ ⟨Z, 3, none⟩ b3)) (grownBy_setCell _ ⟨Z, 4, none⟩ b4)) (grownBy_setCell _ ⟨Z, 5, none⟩ b5)) (grownBy_setCell _ ⟨Z, 6, none⟩ b6)) (grownBy_setCell _ ⟨Z, 7, none⟩ b7)⟩
theorem info51' : (Try.prog.info? 51).map (·.size) = some 8 := by kernel_rfl
theorem rowsA (w : World) (ac ec : List Value) : ∃ W, Hid ((w.alloc (.cells ac.toArray 36)).alloc (.cells ec.toArray 51) = W) ∧ Hid (Row W w.heap.size ac 36) ∧ Hid (Row W (w.heap.size + 1) ec 51) ∧ Hid (Below w.heap.size w W) := by
  have h1 : Row (w.alloc (.cells ac.toArray 36)) w.heap.size ac 36 := Row.new w ac 36
  have s1 : (w.alloc (.cells ac.toArray 36)).heap.size = w.heap.size + 1 := by simp
  have b1 : Below w.heap.size w (w.alloc (.cells ac.toArray 36)) := (Below.refl _ _).alloc (Nat.le_refl _) _
  generalize w.alloc (.cells ac.toArray 36) = W1 at *
  have h2 : Row (W1.alloc (.cells ec.toArray 51)) (w.heap.size + 1) ec 51 := Row.newAt W1 _ ec 51 s1
  have b2 : Below W1.heap.size W1 (W1.alloc (.cells ec.toArray 51)) := (Below.refl _ _).alloc (Nat.le_refl _) _
  exact ⟨_, rfl, h1.below b2 (by omega), h2, b1.trans (b2.mono (by omega))⟩
def ze : List Value := [.int .i64 0, .int .i64 0, .int .i64 0, .string ⟨#[]⟩, .string ⟨#[]⟩, .string ⟨#[]⟩, .int .i64 0, .int .i64 0]
set_option maxHeartbeats 4000000 in
set_option maxRecDepth 100000 in
theorem first_any (a : Ac) (w : World) (h : a.ok w) : Calls Try.prog 30 #[a.val] w fun e w' => e = .returned a.first.val ∧ Below w.heap.size w w' := by
  have hes := h.es
  obtain ⟨kd, vw, fr, ⟨kv, kn, kb, ks, es⟩, ve, fl, kp, kks⟩ := a
  simp only at hes
  obtain ⟨p, cap, rfl, hc1, hc2⟩ := hes.form
  simp only [Ac.val]
  obtain ⟨W2, H2, RA, RE, B2⟩ := rowsA w [.int .i64 kd, .int .i64 vw, .int .i64 fr, .int .i64 kv, .int .i64 kn, .int .i64 kb, .string ks, .slice p es.length cap, .int .i64 fl, kp] ze
  have a7 : W2.cell? ⟨w.heap.size, 7, none⟩ = some (.slice p es.length cap) := RA.out.cell 7
  have z0 : W2.cell? ⟨w.heap.size + 1, 0, none⟩ = some (.int .i64 0) := RE.out.cell 0
  have z1 : W2.cell? ⟨w.heap.size + 1, 1, none⟩ = some (.int .i64 0) := RE.out.cell 1
  have z2 : W2.cell? ⟨w.heap.size + 1, 2, none⟩ = some (.int .i64 0) := RE.out.cell 2
  have z3 : W2.cell? ⟨w.heap.size + 1, 3, none⟩ = some (.string ⟨#[]⟩) := RE.out.cell 3
  have z4 : W2.cell? ⟨w.heap.size + 1, 4, none⟩ = some (.string ⟨#[]⟩) := RE.out.cell 4
  have z5 : W2.cell? ⟨w.heap.size + 1, 5, none⟩ = some (.string ⟨#[]⟩) := RE.out.cell 5
  have z6 : W2.cell? ⟨w.heap.size + 1, 6, none⟩ = some (.int .i64 0) := RE.out.cell 6
  have z7 : W2.cell? ⟨w.heap.size + 1, 7, none⟩ = some (.int .i64 0) := RE.out.cell 7
  have f0 := RE.out.frozen 0
  have f1 := RE.out.frozen 1
  have f2 := RE.out.frozen 2
  have f3 := RE.out.frozen 3
  have f4 := RE.out.frozen 4
  have f5 := RE.out.frozen 5
  have f6 := RE.out.frozen 6
  have f7 := RE.out.frozen 7
  clear h
  rcases es with _ | ⟨⟨cl, nu, ⟨okd, pa, de, da, at_, sz⟩⟩, es⟩
  · have HF : Hid ((⟨kd, vw, fr, ⟨kv, kn, kb, ks, []⟩, .slice p ([] : List Ent).length cap, fl, kp, kks⟩ : Ac).first = zeroE) := rfl
    rw [HF.out]
    simp only [Ent.val, zeroE]
    simp only [List.length_nil] at a7 H2 ⊢
    clear hes
    go_enter Try.func30, Try.ntmps30
    go_upto_region 1 with fail
    refine wp_world H2.out ?_
    go_wp2
    have HG := set8k RE.out (.int .i64 0) (.int .i64 0) (.int .i64 0) (.string ⟨#[]⟩) (.string ⟨#[]⟩) (.string ⟨#[]⟩) (.int .i64 0) (.int .i64 0)
    refine post_Row 2 51 Try.results30 (w.heap.size + 1) rfl 51 _ HG.1 _ Try.underlying51 rfl 8 info51' rfl rfl ?_
    exact ⟨rfl, B2.out.grown HG.2 B2.out.size (fun k e => by cases e; exact Nat.le_succ _)⟩
  · have HF : Hid ((⟨kd, vw, fr, ⟨kv, kn, kb, ks, ⟨cl, nu, ⟨okd, pa, de, da, at_, sz⟩⟩ :: es⟩, .slice p ((⟨cl, nu, ⟨okd, pa, de, da, at_, sz⟩⟩ : Ent) :: es).length cap, fl, kp, kks⟩ : Ac).first = ⟨cl, nu, ⟨okd, pa, de, da, at_, sz⟩⟩) := rfl
    rw [HF.out]
    simp only [Ent.val]
    obtain ⟨b, o, rfl, hm⟩ := (hes.below B2.out).at (i := 0) (e := ⟨cl, nu, ⟨okd, pa, de, da, at_, sz⟩⟩) rfl
    obtain ⟨n, HN⟩ : ∃ n, Hid (((⟨cl, nu, ⟨okd, pa, de, da, at_, sz⟩⟩ : Ent) :: es).length = n) := ⟨_, hid_in rfl⟩
    have hn0 : ¬ (n : Int) = 0 := by rw [← HN.out, List.length_cons]; omega
    have hn1 : (0 : Int) < (n : Int) := by omega
    rw [HN.out] at a7 H2 ⊢
    simp only [Nat.zero_mul, Nat.add_zero] at hm
    have m0 : W2.cell? ⟨b, o, none⟩ = some (.int .i64 cl) := hm 0 _ rfl
    have m1 : W2.cell? ⟨b, o + 1, none⟩ = some (.int .i64 nu) := hm 1 _ rfl
    have m2 : W2.cell? ⟨b, o + 2, none⟩ = some (.int .i64 okd) := hm 2 _ rfl
    have m3 : W2.cell? ⟨b, o + 3, none⟩ = some (.string pa) := hm 3 _ rfl
    have m4 : W2.cell? ⟨b, o + 4, none⟩ = some (.string de) := hm 4 _ rfl
    have m5 : W2.cell? ⟨b, o + 5, none⟩ = some (.string da) := hm 5 _ rfl
    have m6 : W2.cell? ⟨b, o + 6, none⟩ = some (.int .i64 at_) := hm 6 _ rfl
    have m7 : W2.cell? ⟨b, o + 7, none⟩ = some (.int .i64 sz) := hm 7 _ rfl
    clear hes hm hc1
    go_enter Try.func30, Try.ntmps30
    go_upto_region 1 with fail
    refine wp_world H2.out ?_
    go_wp2
    have HG := set8k RE.out (.int .i64 cl) (.int .i64 nu) (.int .i64 okd) (.string pa) (.string de) (.string da) (.int .i64 at_) (.int .i64 sz)
    refine post_Row 2 51 Try.results30 (w.heap.size + 1) rfl 51 _ HG.1 _ Try.underlying51 rfl 8 info51' rfl rfl ?_
    exact ⟨rfl, B2.out.grown HG.2 B2.out.size (fun k e => by cases e; exact Nat.le_succ _)⟩
end Go.Proofs.Ytjjofjnhhajjjaa.Jr
namespace Go.Proofs.Ytjjofjnhhajjjaa.Jr
open Go.RowKit
open Nd (Row wp_world post_Row grownBy_setCell grownBy_trans below_of_grown u8v Grew Sl hid_in i64r bytesS str)
open Pt (Ar Dk PtV FS Sub Stp liv arOf bytesOf)
def kd (K : Int) : Int := (IntKind.u64.wrap K).tmod 6
theorem kd_cases (K : Int) : kd K = 0 ∨ kd K = 1 ∨ kd K = 2 ∨ kd K = 3 ∨ kd K = 4 ∨ kd K = 5 := by
  unfold kd
  have h : (0 : Int) ≤ IntKind.u64.wrap K := by rw [IntKind.wrap_u64]; omega
  rw [Int.tmod_eq_emod_of_nonneg h]
  omega
theorem zeroE_ok : zeroE.ok := ⟨⟨by decide, by decide⟩, ⟨by decide, by decide⟩, ⟨⟨by decide, by decide⟩, ⟨by decide, by decide⟩, ⟨by decide, by decide⟩, by decide, by decide, by decide⟩⟩
theorem Ac.first_ok {w : World} {a : Ac} (h : a.ok w) : a.first.ok := by
  unfold Ac.first
  have hk := h.k.ents
  cases hes : a.k.ents with
  | nil => exact zeroE_ok
  | cons e es => exact hk e (by rw [hes]; simp)
theorem Ac.ok.below {w w' : World} {a : Ac} (h : a.ok w) (hb : Below w.heap.size w w') : a.ok w' := ⟨h.kind, h.view, h.frm, h.k, h.es.below hb, h.fail, h.slice⟩
set_option maxHeartbeats 2000000 in
set_option maxRecDepth 100000 in
theorem do_0 {w : World} {B j g : Nat} {v0 v1 ve : Value} {d : Dk} {k : Kt} (hJ : JV w B j g v0 v1 d ve k) (a : Ac) (ha : a.ok w) (hR : Room d) (hm : (IntKind.u64.wrap a.kind).tmod 6 = 0) : Calls Try.prog 11 #[.pointer (some ⟨j, 0, none⟩), a.val] w (CJ w B j g v0 v1 (wrE (recV a.view) d k) (wrD (recV a.view) d k) (wrK (recV a.view) d k)) := by
  obtain ⟨W1, H1, R1, B1, S1⟩ := row_new w a.cells 36
  have HC := hid_in (view_any (hJ.below B1.out) a.view ha.view hR)
  generalize wrE (recV a.view) d k = E at *
  generalize wrD (recV a.view) d k = D at *
  generalize wrK (recV a.view) d k = K at *
  have hes := ha.es
  have hkp := ha.slice
  clear hJ hR ha
  obtain ⟨kd, vw, fr, ⟨kv, kn, kb, ks, es⟩, vs, fl, kp, kks⟩ := a
  simp only at hes hkp hm HC
  obtain ⟨p, cap, rfl, hc1, hc2⟩ := hes.form
  obtain ⟨r, l, c, rfl⟩ := hkp
  simp only [Ac.val, Ac.cells] at H1 R1 ⊢
  have a0 := R1.out.cell 0
  have a1 := R1.out.cell 1
  have a2 := R1.out.cell 2
  have a3 := R1.out.cell 3
  have a4 := R1.out.cell 4
  have a5 := R1.out.cell 5
  have a6 := R1.out.cell 6
  have a7 := R1.out.cell 7
  have a8 := R1.out.cell 8
  have a9 := R1.out.cell 9
  simp only [List.getElem?_cons_succ, List.getElem?_cons_zero] at a0 a1 a2 a3 a4 a5 a6 a7 a8 a9
  clear hes
  go_enter Try.func11, Try.ntmps11
  go_upto_region 1 with fail
  refine wp_world H1.out ?_
  go_wp2_with (first | (go_at_call 21; refine HC.out.mono ?_; rintro e w2 ⟨rfl, hs⟩; have HS := hid_in hs; clear hs))
  go_ret
  exact ⟨rfl, JStp.ahead B1.out HS.out⟩
set_option maxHeartbeats 2000000 in
set_option maxRecDepth 100000 in
theorem do_1 {w : World} {B j g : Nat} {v0 v1 ve : Value} {d : Dk} {k : Kt} (hJ : JV w B j g v0 v1 d ve k) (a : Ac) (ha : a.ok w) (hR : Room d) (hm : (IntKind.u64.wrap a.kind).tmod 6 = 1) : Calls Try.prog 11 #[.pointer (some ⟨j, 0, none⟩), a.val] w (CJ w B j g v0 v1 (wrE (recE a.first) d k) (wrD (recE a.first) d k) (wrK (recE a.first) d k)) := by
  obtain ⟨W1, H1, R1, B1, S1⟩ := row_new w a.cells 36
  have hfo := Ac.first_ok ha
  have HF := hid_in (first_any a W1 (ha.below B1.out))
  have HC := hid_in (fun W2 (hb : Below w.heap.size w W2) => entry_c (hJ.below hb) a.first hfo hR)
  generalize wrE (recE a.first) d k = E at *
  generalize wrD (recE a.first) d k = D at *
  generalize wrK (recE a.first) d k = K at *
  generalize a.first = e at *
  obtain ⟨cl, nu, ⟨okd, pa, de, da, at_, sz⟩⟩ := e
  have hes := ha.es
  have hkp := ha.slice
  clear hJ hR ha hfo
  obtain ⟨kd, vw, fr, ⟨kv, kn, kb, ks, es⟩, vs, fl, kp, kks⟩ := a
  simp only at hes hkp hm
  obtain ⟨p, cap, rfl, hc1, hc2⟩ := hes.form
  obtain ⟨r, l, c, rfl⟩ := hkp
  simp only [Ac.val, Ac.cells, Ent.val] at H1 R1 HF HC ⊢
  have a0 := R1.out.cell 0
  have a1 := R1.out.cell 1
  have a2 := R1.out.cell 2
  have a3 := R1.out.cell 3
  have a4 := R1.out.cell 4
  have a5 := R1.out.cell 5
  have a6 := R1.out.cell 6
  have a7 := R1.out.cell 7
  have a8 := R1.out.cell 8
  have a9 := R1.out.cell 9
  simp only [List.getElem?_cons_succ, List.getElem?_cons_zero] at a0 a1 a2 a3 a4 a5 a6 a7 a8 a9
  clear hes
  go_enter Try.func11, Try.ntmps11
  go_upto_region 1 with fail
  refine wp_world H1.out ?_
  go_wp2_with (first | (go_at_call 30; refine HF.out.mono ?_; rintro e w2 ⟨rfl, hb⟩; have HB2 := hid_in (B1.out.trans (hb.mono B1.out.size)); have HC2 := hid_in (HC.out w2 HB2.out); clear hb HC HF) | (go_at_call 22; refine HC2.out.mono ?_; rintro e w3 ⟨rfl, hs⟩; have HS := hid_in hs; clear hs HC2))
  go_ret
  exact ⟨rfl, JStp.ahead HB2.out HS.out⟩
set_option maxHeartbeats 2000000 in
set_option maxRecDepth 100000 in
theorem do_4 {w : World} {B j g : Nat} {v0 v1 ve : Value} {d : Dk} {k : Kt} (hJ : JV w B j g v0 v1 d ve k) (a : Ac) (ha : a.ok w) (hm : (IntKind.u64.wrap a.kind).tmod 6 = 4) : Calls Try.prog 11 #[.pointer (some ⟨j, 0, none⟩), a.val] w (CJ w B j g v0 v1 (0) (d) (k)) := by
  obtain ⟨W1, H1, R1, B1, S1⟩ := row_new w a.cells 36
  have HS := hid_in (JStp.of_below hJ B1.out)
  have hes := ha.es
  have hkp := ha.slice
  clear hJ ha
  obtain ⟨kd, vw, fr, ⟨kv, kn, kb, ks, es⟩, vs, fl, kp, kks⟩ := a
  simp only at hes hkp hm
  obtain ⟨p, cap, rfl, hc1, hc2⟩ := hes.form
  obtain ⟨r, l, c, rfl⟩ := hkp
  simp only [Ac.val, Ac.cells] at H1 R1 ⊢
  have a0 := R1.out.cell 0
  simp only [List.getElem?_cons_zero] at a0
  clear hes
  go_enter Try.func11, Try.ntmps11
  go_upto_region 1 with fail
  refine wp_world H1.out ?_
  go_wp2_with fail
  go_ret
  exact ⟨rfl, HS.out⟩
set_option maxHeartbeats 2000000 in
set_option maxRecDepth 100000 in
theorem do_5 {w : World} {B j g : Nat} {v0 v1 ve : Value} {d : Dk} {k : Kt} (hJ : JV w B j g v0 v1 d ve k) (a : Ac) (ha : a.ok w) (hm : (IntKind.u64.wrap a.kind).tmod 6 = 5) : Calls Try.prog 11 #[.pointer (some ⟨j, 0, none⟩), a.val] w (CJ w B j g v0 v1 (0) (d) (k)) := by
  obtain ⟨W1, H1, R1, B1, S1⟩ := row_new w a.cells 36
  have HS := hid_in (JStp.of_below hJ B1.out)
  have hes := ha.es
  have hkp := ha.slice
  clear hJ ha
  obtain ⟨kd, vw, fr, ⟨kv, kn, kb, ks, es⟩, vs, fl, kp, kks⟩ := a
  simp only at hes hkp hm
  obtain ⟨p, cap, rfl, hc1, hc2⟩ := hes.form
  obtain ⟨r, l, c, rfl⟩ := hkp
  simp only [Ac.val, Ac.cells] at H1 R1 ⊢
  have a0 := R1.out.cell 0
  simp only [List.getElem?_cons_zero] at a0
  clear hes
  go_enter Try.func11, Try.ntmps11
  go_upto_region 1 with fail
  refine wp_world H1.out ?_
  go_wp2_with fail
  go_ret
  exact ⟨rfl, HS.out⟩
end Go.Proofs.Ytjjofjnhhajjjaa.Jr
namespace Go.Proofs.Ytjjofjnhhajjjaa.Jr
open Go.RowKit
open Nd (Row wp_world post_Row grownBy_setCell grownBy_trans below_of_grown u8v Grew Sl hid_in i64r bytesS str)
open Pt (Ar Dk PtV FS Sub Stp liv arOf bytesOf)
theorem Et.keep' {w w' : World} {S : Nat → Prop} {v : Value} {es : List Ent} (h : Et w v es) (hg : Grew w w' S) (hS : es ≠ [] → ∀ b, v.ownBlock = some b → ¬ S b) : Et w' v es := by
  by_cases hne : es = []
  · subst hne
    obtain ⟨p, cap, b, o, rfl, h2, h3, h4, h5, h7⟩ := h.val
    exact ⟨⟨p, cap, b, o, rfl, h2, h3, fun e => absurd rfl e, fun j u hj => by simp [ecells] at hj, h7⟩, fun _ e => absurd rfl e⟩
  · refine ⟨h.val.keep hg (fun b hb => hS hne b hb), fun b e hb => ?_⟩
    obtain ⟨cur, hc⟩ := h.ty b hne hb
    refine ⟨cur, ?_⟩
    rw [hg.block b (Array.getElem?_eq_some_iff.1 hc).1 (hS hne b hb)]
    exact hc
/-- a journal behind a call, and a row of entries of the caller's own that it doesn't lead to -/
def Pok (w0 w : World) (B j g : Nat) (v0 v1 : Value) (D : Dk) (K : Kt) (q n : Nat) : Prop :=
  ∃ u0 u1 vf vs, JV w B j g u0 u1 D vf K ∧ Grew w0 w (FJ j g v0 v1) ∧ Sub w0 (FJ j g v0 v1) (FJ j g u0 u1) ∧ (K.ents ≠ [] → vf.ownBlock ≠ some q) ∧ w0.heap.size ≤ q ∧ Row w q vs 51 ∧ n * 8 ≤ vs.length
theorem Pok.out {w0 w : World} {B j g : Nat} {v0 v1 : Value} {D : Dk} {K : Kt} {q n : Nat} (h : Pok w0 w B j g v0 v1 D K q n) : JStp w0 w B j g v0 v1 D K := by
  obtain ⟨u0, u1, vf, vs, h1, h2, h3, _⟩ := h
  exact ⟨u0, u1, vf, h1, h2, h3⟩
theorem Pok.set {w0 w : World} {B j g : Nat} {v0 v1 : Value} {D : Dk} {K : Kt} {q n : Nat} (h : Pok w0 w B j g v0 v1 D K q n) (i : Nat) (x : Value) : Pok w0 (w.setCell ⟨q, i, none⟩ x) B j g v0 v1 D K q n := by
  obtain ⟨u0, u1, vf, vs, h1, h2, h3, h4, h5, h6, h7⟩ := h
  have hg := Grew.of_grown (grownBy_setCell w ⟨q, i, none⟩ x)
  have hq : w.heap[q]? = some (.cells vs.toArray 51 (0, 0)) := h6
  have hn : ∀ b, FJ j g u0 u1 b → ¬ (some b = some q) := fun b hb e => by
    cases e
    exact h1.no51 hq hb
  refine ⟨u0, u1, vf, _, ⟨h1.pt.keep hg (fun b hb => hn b (.inr hb)), h1.row.grew hg (hn j (.inl rfl)), h1.et.keep' hg (fun hne b hb e => ?_), h1.base, h1.ok, h1.may⟩, h2.trans hg (fun b hb e => ?_), h3, h4, h5, h6.set_same i x, by simpa using h7⟩
  · cases e
    exact h4 hne hb
  · cases e
    exact absurd (show q < w0.heap.size from hb) (by omega)
theorem Pok.at_ {w0 w : World} {B j g : Nat} {v0 v1 : Value} {D : Dk} {K : Kt} {q n i : Nat} (h : Pok w0 w B j g v0 v1 D K q n) (hi : i < n) : ∃ u, w.cell? ⟨q, i * 8, none⟩ = .some u ∧ w.frozen? ⟨q, i * 8, none⟩ = false := by
  obtain ⟨u0, u1, vf, vs, _, _, _, _, _, h6, h7⟩ := h
  have hl : i * 8 < vs.length := by omega
  exact ⟨vs[i * 8], by rw [h6.cell, List.getElem?_eq_getElem hl], h6.frozen _⟩
theorem eo_row {w : World} {B : Nat} {v : Value} {es : List Ent} (h : EO w B v es) (hn : es ≠ []) : ∃ q cap vs, v = .slice (.some ⟨q, 0, none⟩) es.length cap ∧ B ≤ q ∧ q < w.heap.size ∧ Row w q vs 51 ∧ es.length * 8 ≤ vs.length := by
  obtain ⟨_, ⟨_, h0⟩ | ⟨q, cap, cur, rfl, hB, hh, h1, h2, h3, h4⟩⟩ := h
  · exact absurd (List.length_eq_zero_iff.1 h0) hn
  · have hr : Row w q cur.toList 51 := by unfold Row; rw [hh]
    have hl : cur.toList.length = cur.size := by simp
    exact ⟨q, cap, cur.toList, rfl, hB, hr.lt, hr, by rw [hl, h3]; exact Nat.mul_le_mul_right 8 h1⟩
theorem Pok.of {w0 w1 w : World} {B j g : Nat} {v0 v1 ve v : Value} {d D : Dk} {k K : Kt} {es : List Ent} (hJ : JV w0 B j g v0 v1 d ve k) (hb : Below w0.heap.size w0 w1) (ho : EO w1 w0.heap.size v es) (h : JStpV w1 w B j g v0 v1 ve D K) (hn : es ≠ []) :
    ∃ q cap, v = .slice (.some ⟨q, 0, none⟩) es.length cap ∧ Pok w0 w B j g v0 v1 D K q es.length := by
  obtain ⟨q, cap, vs, rfl, h1, h2, h3, h4⟩ := eo_row ho hn
  obtain ⟨u0, u1, vf, g1, g2, g3, g4⟩ := h
  have hJ1 := hJ.below hb
  have hq : w1.heap[q]? = some (.cells vs.toArray 51 (0, 0)) := h3
  have hr : Row w q vs 51 := h3.grew g2 (fun hf => hJ1.no51 hq hf)
  refine ⟨q, cap, rfl, u0, u1, vf, vs, g1, (Grew.of_below (FJ j g v0 v1) hb).trans g2 (fun b _ h => h), fun b hb' => ?_, fun hne e => ?_, h1, hr, h4⟩
  · rcases g3 b hb' with h | h
    · exact .inl h
    · exact .inr (Nat.le_trans hb.size h)
  · rcases g4 with rfl | g4
    · have hke : k.ents ≠ [] := by
        intro hk
        obtain ⟨p1, c1, b1, o1, e1, _⟩ := hJ.et.val
        obtain ⟨p2, c2, b2, o2, e2, _⟩ := g1.et.val
        rw [e1] at e2
        simp only [Value.slice.injEq] at e2
        rw [hk] at e2
        exact hne (List.length_eq_zero_iff.1 e2.2.1.symm)
      obtain ⟨cur, hc⟩ := hJ.et.ty q hke e
      have := (Array.getElem?_eq_some_iff.1 hc).1
      omega
    · have := g4 q e
      omega
end Go.Proofs.Ytjjofjnhhajjjaa.Jr
namespace Go.Proofs.Ytjjofjnhhajjjaa.Jr
open Go.RowKit
open Nd (Row wp_world post_Row grownBy_setCell grownBy_trans below_of_grown u8v Grew Sl hid_in i64r bytesS str)
theorem assert_nil (w : World) : (Instr.typeAssert Value.nilIface 20 31 true).run Try.prog w = .ok (.tuple #[.int .i64 0, .bool false]) w := by kernel_rfl
set_option maxHeartbeats 4000000 in
set_option maxRecDepth 100000 in
theorem catch_idle (p2 p3 p4 : Value) (w : World) :
    CallsD Try.prog 25 #[p2, p3, p4] .returning w fun e u' w' => e = .returned (.tuple #[]) ∧ u' = .returning ∧ w' = w := by
  refine callsD_of_wpS Try.func25 rfl fun c₀ cs hu => ?_
  apply wpS_seq
  apply wpS_region
  simp [wpOpsS, go_sem, recoverD, hu, Try.ntmps25, Exit.thenS]
  refine wpS_of_wp ?_
  have hta := assert_nil w
  go_wp2

  cases c₀
  simp_all [bodyPostS, results, Try.results25]
end Go.Proofs.Ytjjofjnhhajjjaa.Jr
