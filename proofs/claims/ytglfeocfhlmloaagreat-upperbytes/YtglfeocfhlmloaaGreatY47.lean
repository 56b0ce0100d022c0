/-
  The reference's New, Size and Over.
-/
import Derived.Deep.CutRange
import Derived.Laws.CopyOwn
import Derived.Shelf.SlMaps.Clone
import Derived.Deep.RegionLaw
import Derived.Deep.DrawnRows
import Derived.Laws.Tables
import Derived.Test.YtglfeocfhlmloaaGreatY00
import Derived.Test.YtglfeocfhlmloaaGreatY01
import Derived.Test.YtglfeocfhlmloaaGreatY02
import Derived.Test.YtglfeocfhlmloaaGreatY03
import Derived.Test.YtglfeocfhlmloaaGreatY04
import Derived.Test.YtglfeocfhlmloaaGreatY05
import Derived.Test.YtglfeocfhlmloaaGreatY06
import Derived.Test.YtglfeocfhlmloaaGreatY07
import Derived.Test.YtglfeocfhlmloaaGreatY08
import Derived.Test.YtglfeocfhlmloaaGreatY09
import Derived.Test.YtglfeocfhlmloaaGreatY10
import Derived.Test.YtglfeocfhlmloaaGreatY11
import Derived.Test.YtglfeocfhlmloaaGreatY12
import Derived.Test.YtglfeocfhlmloaaGreatY13
import Derived.Test.YtglfeocfhlmloaaGreatY14
import Derived.Test.YtglfeocfhlmloaaGreatY15
import Derived.Test.YtglfeocfhlmloaaGreatY16
import Derived.Test.YtglfeocfhlmloaaGreatY17
import Derived.Test.YtglfeocfhlmloaaGreatY18
import Derived.Test.YtglfeocfhlmloaaGreatY19
import Derived.Test.YtglfeocfhlmloaaGreatY20
import Derived.Test.YtglfeocfhlmloaaGreatY21
import Derived.Test.YtglfeocfhlmloaaGreatY22
import Derived.Test.YtglfeocfhlmloaaGreatY23
import Derived.Test.YtglfeocfhlmloaaGreatY24
import Derived.Test.YtglfeocfhlmloaaGreatY25
import Derived.Test.YtglfeocfhlmloaaGreatY26
import Derived.Test.YtglfeocfhlmloaaGreatY27
import Derived.Test.YtglfeocfhlmloaaGreatY28
import Derived.Test.YtglfeocfhlmloaaGreatY29
import Derived.Test.YtglfeocfhlmloaaGreatY30
import Derived.Test.YtglfeocfhlmloaaGreatY31
import Derived.Test.YtglfeocfhlmloaaGreatY32
import Derived.Test.YtglfeocfhlmloaaGreatY33
import Derived.Test.YtglfeocfhlmloaaGreatY34
import Derived.Test.YtglfeocfhlmloaaGreatY35
import Derived.Test.YtglfeocfhlmloaaGreatY36
import Derived.Test.YtglfeocfhlmloaaGreatY37
import Derived.Test.YtglfeocfhlmloaaGreatY38
import Derived.Test.YtglfeocfhlmloaaGreatY39
import Derived.Test.YtglfeocfhlmloaaGreatY40
import Derived.Test.YtglfeocfhlmloaaGreatY41
import Derived.Test.YtglfeocfhlmloaaGreatY42
import Derived.Test.YtglfeocfhlmloaaGreatY43
namespace Go.Proofs.YtglfeocfhlmloaaGreat.Up
open Go.RowKit
open Vp (Str B bl Val cmpL parseS showS withinS IsPath checkS)
open Nd (Row wp_world post_Row post_Row2 grownBy_setCell below_of_grown)
set_option maxHeartbeats 1000000 in
set_option maxRecDepth 100000 in
theorem rnew_ok (n z : Int) (w : World) (h : quotaOk n z) : Calls Tryz.prog 7 #[.int .i64 n, .int .i64 z] w fun e w' => ∃ r, e = .returned (.tuple #[.pointer (some ⟨r, 0, none⟩), .int .i64 0]) ∧ RU w' r n z [] ∧ Below w.heap.size w w' ∧ w.heap.size ≤ r := by
  obtain ⟨h1, h2, h3, h4⟩ := h
  have k1 : ¬ n < 0 := by omega
  have k2 : ¬ 128 < n := by omega
  have k3 : ¬ z < 0 := by omega
  have k4 : ¬ 8192 < z := by omega
  go_enter Tryz.func7, Tryz.ntmps7
  go_wp2
  go_ret2
  refine ⟨w.heap.size, rfl, ⟨.slice none 0 0, Row.new w [.int .i64 n, .int .i64 z, .slice none 0 0] 52, FO.nil _ _⟩, (Below.refl _ _).alloc (Nat.le_refl _) _, Nat.le_refl _⟩
theorem sum_take {es : List Ent} {i : Nat} {e : Ent} (h : es[i]? = some e) : sumA (es.take (i + 1)) = sumA (es.take i) + e.data.size := by
  unfold sumA
  rw [List.take_add_one, h]
  simp
theorem sum_bound {es : List Ent} (h : Small es) (i : Nat) : sumA (es.take i) ≤ es.length * 1024 := by
  have key : ∀ X : List Ent, Small X → sumA X ≤ X.length * 1024 := by
    intro X
    induction X with
    | nil => intro _; simp [sumA]
    | cons a r ih =>
      intro hX
      have h1 := hX a (by simp)
      have h2 := ih (fun x hx => hX x (by simp [hx]))
      unfold sumA at h2 ⊢
      simp only [List.map_cons, List.sum_cons, List.length_cons]
      omega
  have h1 := key (es.take i) (fun x hx => h x (List.mem_of_mem_take hx))
  have h2 : (es.take i).length ≤ es.length := by simp; omega
  exact Nat.le_trans h1 (Nat.mul_le_mul_right 1024 h2)
set_option maxHeartbeats 2000000 in
set_option maxRecDepth 100000 in
theorem rsize_any {w : World} {r : Nat} {N Z : Int} {es : List Ent} (h : RU w r N Z es) (hn : es.length ≤ 100000) (hS : Small es) :
    Calls Tryz.prog 37 #[.pointer (some ⟨r, 0, none⟩)] w fun e w' => e = .returned (.int .i64 (sumA es : Int)) ∧ Below w.heap.size w w' := by
  obtain ⟨p, cap, b, o, hc1, hc2, hrow, -, hat⟩ := h.at_
  have HAT := hid_in hat
  have HROW := hid_in hrow
  obtain ⟨S, HS⟩ : ∃ S, Hid (sumA es = S) := ⟨_, hid_in rfl⟩
  rw [HS.out]
  have HSM := hid_in (fun i => sum_bound hS i)
  have HSE := hid_in hS
  generalize hnn : es.length = n at *
  have HNN := hid_in hnn
  clear h hat hrow hnn hS
  go_enter Tryz.func37, Tryz.ntmps37
  go_wp2_with fail
  go_loopw [3, 4] (fun vn vi W => ∃ i : Nat, i ≤ n ∧ vi = .int .i64 (i : Int) ∧ vn = .int .i64 (sumA (es.take i) : Int) ∧ Hid (Below w.heap.size w W)) (fun _ vi _ => n - (intOf vi).toNat)
  case atStart => exact ⟨0, by omega, rfl, rfl, Below.refl _ _⟩
  case round =>
    obtain ⟨i, hi, rfl, rfl, hbr⟩ := hrel
    have q2 : wr.cell? ⟨r, 2, none⟩ = some (.slice p n cap) := (HROW.out.below hbr.out HROW.out.lt).cell 2
    by_cases hlt : i < n
    · obtain ⟨e, he⟩ : ∃ e, es[i]? = some e := ⟨_, List.getElem?_eq_getElem (by rw [HNN.out]; exact hlt)⟩
      obtain ⟨rfl, -, -, -, c3⟩ := HAT.out _ hbr.out i e he
      have hlt2 : (i : Int) < (n : Int) := by omega
      have HTK := hid_in (sum_take he)
      have hb1 := HSM.out i
      have hb2 := HSE.out e (List.mem_of_getElem? he)
      have HLT := hid_in hlt
      generalize sumA (es.take i) = s at *
      generalize hds : e.data = ed at *
      have hs2 : (s : Int) ≤ 102400000 := by omega
      have hs3 : (ed.size : Int) ≤ 1024 := by omega
      clear he hlt hb1 hb2
      go_wp2_with fail
      refine ⟨⟨i + 1, by have := HLT.out; omega, by go_num, ?_, hbr.out⟩, by have := HLT.out; simp [intOf]; omega⟩
      rw [HTK.out]
      go_num
    · obtain rfl : i = n := by omega
      have HX : Hid (sumA (es.take i) = S) := hid_in (by rw [← HNN.out, List.take_length]; exact HS.out)
      rw [HX.out]
      clear hlt hi
      go_wp2_with fail
      go_ret
      exact ⟨rfl, hbr.out⟩
end Go.Proofs.YtglfeocfhlmloaaGreat.Up
