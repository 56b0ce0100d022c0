/-
  putEntries, the fields of a record, its frame.
-/
import Derived.Laws.Tables
import Derived.Laws.CopyOwn
import Derived.Deep.RegionLaw
import Derived.Deep.DrawnRows
import Derived.Deep.CutRange
import Derived.Laws.StructEq
import Derived.Lib.SlBytesConst
import Derived.OwnWalk
import Derived.Test.YtjjofjnhhajjjaaA00
import Derived.Test.YtjjofjnhhajjjaaA01
import Derived.Test.YtjjofjnhhajjjaaA02
import Derived.Test.YtjjofjnhhajjjaaA03
import Derived.Test.YtjjofjnhhajjjaaA04
import Derived.Test.YtjjofjnhhajjjaaA05
import Derived.Test.YtjjofjnhhajjjaaA06
import Derived.Test.YtjjofjnhhajjjaaA07
import Derived.Test.YtjjofjnhhajjjaaA08
import Derived.Test.YtjjofjnhhajjjaaA09
import Derived.Test.YtjjofjnhhajjjaaA10
import Derived.Test.YtjjofjnhhajjjaaA11
import Derived.Test.YtjjofjnhhajjjaaA12
import Derived.Test.YtjjofjnhhajjjaaA13
import Derived.Test.YtjjofjnhhajjjaaA14
import Derived.Test.YtjjofjnhhajjjaaA15
import Derived.Test.YtjjofjnhhajjjaaA16
namespace Go.Proofs.Ytjjofjnhhajjjaa.Jr
open Go.RowKit
open Nd (Row wp_world post_Row grownBy_setCell grownBy_trans below_of_grown u8v Grew Sl hid_in i64r bytesS str encO OutB OutA)
theorem entS_len (e : Ent) (h : e.op.short) : (entS e).length ≤ 4030 := by
  have h1 := Nd.num_length (Nd.Wire.zz e.cl)
  have h2 := Nd.num_length (Nd.Wire.zz e.nu)
  have h3 := Nd.num_length (encO e.op).length
  have h4 := Nd.encO_len e.op h
  unfold entS
  simp only [List.length_append]
  omega
theorem entsS_len (es : List Ent) (h : ∀ e ∈ es, e.op.short) : (entsS es).length ≤ 4030 * es.length := by
  induction es with
  | nil => simp [entsS]
  | cons e r ih =>
    rw [entsS_cons, List.length_append, List.length_cons]
    have h1 := entS_len e (h e (by simp))
    have h2 := ih (fun x hx => h x (by simp [hx]))
    omega
theorem set8 {W : World} {Z : Nat} {t : TypeId} {a0 a1 a2 a3 a4 a5 a6 a7 : Value} (h : Row W Z [a0, a1, a2, a3, a4, a5, a6, a7] t) (b0 b1 b2 b3 b4 b5 b6 b7 : Value) :
    Row ((((((((W.setCell ⟨Z, 0, none⟩ b0).setCell ⟨Z, 1, none⟩ b1).setCell ⟨Z, 2, none⟩ b2).setCell ⟨Z, 3, none⟩ b3).setCell ⟨Z, 4, none⟩ b4).setCell ⟨Z, 5, none⟩ b5).setCell ⟨Z, 6, none⟩ b6).setCell ⟨Z, 7, none⟩ b7) Z [b0, b1, b2, b3, b4, b5, b6, b7] t :=
  (((((((h.set_same 0 b0).set_same 1 b1).set_same 2 b2).set_same 3 b3).set_same 4 b4).set_same 5 b5).set_same 6 b6).set_same 7 b7
set_option maxHeartbeats 4000000 in
set_option maxRecDepth 100000 in
theorem putEntries_any (w0 w : World) (B g : Nat) (xs : List Nat) (es : List Ent) (v : Value) (hB : w0.heap.size ≤ B) (hb0 : Below w0.heap.size w0 w) (hes : Es w0 v es) (hg : B ≤ g) (ho : OutL w B g xs 200000) (hn : es.length ≤ 32) (hok : ∀ e ∈ es, e.ok) (hs : ∀ e ∈ es, e.op.short) :
    Calls Try.prog 90 #[.pointer (some ⟨g, 0, none⟩), v] w fun x w' => x = .returned (.tuple #[]) ∧ OutL w' B g (xs ++ manyS es) 1000000 ∧ Below B w w' := by
  obtain ⟨p, cap, rfl, hc1, hc2⟩ := hes.form
  have HO := hid_in ho
  have HE := hid_in hes
  have HK := hid_in hok
  have HS := hid_in hs
  have HB0 := hid_in hb0
  have hn64 : (es.length : Int) ≤ 32 := by omega
  have hn0 : (0 : Int) ≤ (es.length : Int) := by omega
  have HNM := hid_in (Nd.num_length es.length)
  clear ho hes hok hs hb0
  go_enter Try.func90, Try.ntmps90
  go_upto_region 1 with (first | (go_at_call 88; refine (num_l w B g xs 200000 es.length (by omega) hg HO.out (by omega)).mono ?_; rintro x w1 ⟨rfl, h1, h2⟩; have HO1 := hid_in h1; have HB1 := hid_in h2; clear h1 h2))
  go_wp2_with fail
  go_loopw [13] (fun vi W => ∃ i : Nat, i ≤ es.length ∧ vi = .int .i64 (i : Int) ∧ Hid (OutL W B g (xs ++ (Nd.Wire.num es.length ++ entsS (es.take i))) (200010 + i * 4030)) ∧ Hid (Below B w W)) (fun vi _ => es.length - (intOf vi).toNat)
  case atStart => exact ⟨0, by omega, rfl, hid_in (by simpa [entsS, List.append_assoc] using HO1.out), HB1.out⟩
  case round =>
    obtain ⟨i, hi, rfl, hO, hB1⟩ := hrel
    by_cases hlt : i < es.length
    · have hg1 : es[i]? = some es[i] := List.getElem?_eq_getElem hlt
      have hbe : Below w0.heap.size w0 wr := HB0.out.trans (hB1.out.mono hB)
      obtain ⟨b, o, rfl, hm⟩ := (HE.out.below hbe).at hg1
      have HEO := hid_in (HK.out _ (List.getElem_mem hlt))
      have HES := hid_in (HS.out _ (List.getElem_mem hlt))
      have HT : Hid (entsS (es.take (i + 1)) = entsS (es.take i) ++ entS es[i]) := hid_in (by
        rw [List.take_succ_eq_append_getElem hlt, entsS_app]; simp [entsS])
      generalize es[i] = x at *
      obtain ⟨cl, nu, ⟨kd, pa, de, da, at_, sz⟩⟩ := x
      have m0 : wr.cell? ⟨b, o + i * 8, none⟩ = some (.int .i64 cl) := by simpa using hm 0 _ rfl
      have m1 : wr.cell? ⟨b, o + i * 8 + 1, none⟩ = some (.int .i64 nu) := hm 1 _ rfl
      have m2 : wr.cell? ⟨b, o + i * 8 + 2, none⟩ = some (.int .i64 kd) := hm 2 _ rfl
      have m3 : wr.cell? ⟨b, o + i * 8 + 3, none⟩ = some (.string pa) := hm 3 _ rfl
      have m4 : wr.cell? ⟨b, o + i * 8 + 4, none⟩ = some (.string de) := hm 4 _ rfl
      have m5 : wr.cell? ⟨b, o + i * 8 + 5, none⟩ = some (.string da) := hm 5 _ rfl
      have m6 : wr.cell? ⟨b, o + i * 8 + 6, none⟩ = some (.int .i64 at_) := hm 6 _ rfl
      have m7 : wr.cell? ⟨b, o + i * 8 + 7, none⟩ = some (.int .i64 sz) := hm 7 _ rfl
      clear hm hg1 hbe
      obtain ⟨W1, HW1, HR1, HBW, HSW⟩ := row_new wr [.int .i64 cl, .int .i64 nu, .int .i64 kd, .string pa, .string de, .string da, .int .i64 at_, .int .i64 sz] 51
      have hom := hO.out
      have HP := hid_in (putEntry_any W1 B g _ _ ⟨cl, nu, ⟨kd, pa, de, da, at_, sz⟩⟩ hg (hom.below HBW.out) (by omega) HEO.out HES.out)
      simp only [Ent.val] at HP
      have HBO : Hid (B ≤ wr.heap.size) := Nd.OutB.base hom.1
      clear hom
      go_upto_region 4 with fail
      refine wp_world HW1.out ?_
      have q0 : W1.cell? ⟨wr.heap.size, 0, none⟩ = some (.int .i64 cl) := HR1.out.cell 0
      have q1 : W1.cell? ⟨wr.heap.size, 1, none⟩ = some (.int .i64 nu) := HR1.out.cell 1
      have q2 : W1.cell? ⟨wr.heap.size, 2, none⟩ = some (.int .i64 kd) := HR1.out.cell 2
      have q3 : W1.cell? ⟨wr.heap.size, 3, none⟩ = some (.string pa) := HR1.out.cell 3
      have q4 : W1.cell? ⟨wr.heap.size, 4, none⟩ = some (.string de) := HR1.out.cell 4
      have q5 : W1.cell? ⟨wr.heap.size, 5, none⟩ = some (.string da) := HR1.out.cell 5
      have q6 : W1.cell? ⟨wr.heap.size, 6, none⟩ = some (.int .i64 at_) := HR1.out.cell 6
      have q7 : W1.cell? ⟨wr.heap.size, 7, none⟩ = some (.int .i64 sz) := HR1.out.cell 7
      go_wp2_with (first | (go_at_call 89; refine HP.out.mono ?_; rintro x w2 ⟨rfl, h1, h2⟩; have HO2 := hid_in h1; have HB2 := hid_in h2; clear h1 h2 q0 q1 q2 q3 q4 q5 q6 q7))
      go_roundw
      case rel =>
        refine ⟨i + 1, by omega, by go_num, hid_in ?_, (hB1.out.trans (HBW.out.mono HBO.out)).trans HB2.out⟩
        rw [HT.out]
        refine ⟨by simpa [List.append_assoc] using HO2.out.1, ?_⟩
        have := HO2.out.2
        simp only [List.append_assoc] at this ⊢
        omega
      case measure => simp [intOf]; omega
    · obtain rfl : i = es.length := by omega
      go_wp2
      go_end0
      rw [List.take_length] at hO
      exact ⟨rfl, ⟨hO.out.1, by have := hO.out.2; unfold manyS; omega⟩, hB1.out⟩
end Go.Proofs.Ytjjofjnhhajjjaa.Jr
