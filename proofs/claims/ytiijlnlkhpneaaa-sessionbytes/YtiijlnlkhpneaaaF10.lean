/-
  List. Make, isClient, isNumber, Look, keptBytes, oldest. keptBytes, oldest. oldest.
-/
import Derived.OwnWalk
import Derived.Laws.CopyOwn
import Derived.Laws.Tables
import Derived.Deep.RegionLaw
import Derived.Deep.DrawnRows
import Derived.Test.YtiijlnlkhpneaaaF00
import Derived.Test.YtiijlnlkhpneaaaF01
import Derived.Test.YtiijlnlkhpneaaaF02
import Derived.Test.YtiijlnlkhpneaaaF03
import Derived.Test.YtiijlnlkhpneaaaF04
import Derived.Test.YtiijlnlkhpneaaaF05
import Derived.Test.YtiijlnlkhpneaaaF06
import Derived.Test.YtiijlnlkhpneaaaF07
import Derived.Test.YtiijlnlkhpneaaaF08
import Derived.Test.YtiijlnlkhpneaaaF09
namespace Go.Proofs.Ytiijlnlkhpneaaa.Se
open Go.RowKit
open Nd (Row wp_world post_Row grownBy_setCell below_of_grown)
def seated (s : Seat) : Bool := s.number != 0
theorem filter_yes {es : List Seat} {f : Seat → Bool} {i : Nat} {e : Seat} (h : es[i]? = some e) (hf : f e = true) : (es.take (i + 1)).filter f = (es.take i).filter f ++ [e] := by
  rw [List.take_add_one, h, List.filter_append]
  simp [hf]
theorem filter_no {es : List Seat} {f : Seat → Bool} {i : Nat} {e : Seat} (h : es[i]? = some e) (hf : f e = false) : (es.take (i + 1)).filter f = (es.take i).filter f := by
  rw [List.take_add_one, h, List.filter_append]
  simp [hf]
set_option maxHeartbeats 2000000 in
set_option maxRecDepth 100000 in
theorem list_any {w : World} {g : Nat} {room : Int} {T : List Seat} (h : Tab w g room T) :
    Calls Try.prog 13 #[.pointer (some ⟨g, 0, none⟩)] w fun e w' => ∃ v, e = .returned v ∧ SO w' w.heap.size v (T.filter seated) ∧ Below w.heap.size w w' := by
  have HRG := h.range
  have HFT := h.fits
  have HL := hid_in h.len
  have HIX := hid_in (fun i s (hi : T[i]? = some s) W => index59 h.len hi W)
  generalize tcells T = A at *
  clear h
  go_enter Try.func13, Try.ntmps13
  go_wp2_with (first | (refine wpList_load_mid rfl 59 _ rfl g 1 rfl A _ HRG.out Try.underlying59 rfl HFT.out ?_))
  go_loopw [3, 12] (fun vo vi W => ∃ i : Nat, i ≤ 8 ∧ vi = .int .i64 (i : Int) ∧ Hid (SO W w.heap.size vo ((T.take i).filter seated)) ∧ Hid (Below w.heap.size w W)) (fun _ vi _ => 8 - (intOf vi).toNat)
  case atStart => exact ⟨0, by omega, rfl, SO.nil _ _, Below.refl _ _⟩
  case round =>
    obtain ⟨i, hi, rfl, hso, hbr⟩ := hrel
    by_cases hlt : i < 8
    · obtain ⟨s, hs⟩ : ∃ s, T[i]? = some s := ⟨_, List.getElem?_eq_getElem (by rw [HL.out]; exact hlt)⟩
      have hix := HIX.out i s hs
      have HTY := hid_in (fun k => filter_yes (f := seated) hs k)
      have HTN := hid_in (fun k => filter_no (f := seated) hs k)
      have hlt2 : (i : Int) < 8 := by omega
      have HLT := hid_in hlt
      have HLE : Hid (((T.take i).filter seated).length ≤ 8) := hid_in (Nat.le_trans (List.length_filter_le _ _) (by simp; omega))
      generalize (T.take i).filter seated = X at *
      obtain ⟨sc, sn, sa, sk, sr⟩ := s
      simp only [Seat.cells] at hix
      clear hs hlt
      by_cases h0 : sn = 0
      · subst h0
        have HTK := hid_in (HTN.out rfl)
        go_wp2_with fail
        refine ⟨⟨i + 1, by have := HLT.out; omega, by go_num, ?_, hbr.out.alloc hbr.out.size _⟩, by have := HLT.out; simp [intOf]; omega⟩
        rw [HTK.out]
        exact hso.out.below ((Below.refl _ _).alloc (Nat.le_refl _) _)
      · have h1 : (sn != 0) = true := by simpa using h0
        have HTK := hid_in (HTY.out h1)
        obtain ⟨w1, HW1⟩ : ∃ w1, Hid (wr.alloc (.cells #[.int .i64 sc, .int .i64 sn, .int .i64 sa, .bool sk, .string sr] 48) = w1) := ⟨_, hid_in rfl⟩
        have HB1 : Hid (Below wr.heap.size wr w1) := by rw [← HW1.out]; exact (Below.refl _ _).alloc (Nat.le_refl _) _
        have HR1 : Hid (Row w1 wr.heap.size [.int .i64 sc, .int .i64 sn, .int .i64 sa, .bool sk, .string sr] 48) := by rw [← HW1.out]; exact Row.new wr [.int .i64 sc, .int .i64 sn, .int .i64 sa, .bool sk, .string sr] 48
        have HBW := hid_in (hbr.out.trans (HB1.out.mono hbr.out.size))
        have a0 : w1.cell? ⟨wr.heap.size, 0, none⟩ = some (.int .i64 sc) := HR1.out.cell 0
        have a1 : w1.cell? ⟨wr.heap.size, 1, none⟩ = some (.int .i64 sn) := HR1.out.cell 1
        have a2 : w1.cell? ⟨wr.heap.size, 2, none⟩ = some (.int .i64 sa) := HR1.out.cell 2
        have a3 : w1.cell? ⟨wr.heap.size, 3, none⟩ = some (.bool sk) := HR1.out.cell 3
        have a4 : w1.cell? ⟨wr.heap.size, 4, none⟩ = some (.string sr) := HR1.out.cell 4
        have HO1 := hid_in (hso.out.below HB1.out)
        have HB2 : Hid (Below w1.heap.size w1 (w1.alloc (.cells #[.int .i64 sc, .int .i64 sn, .int .i64 sa, .bool sk, .string sr] 48))) := hid_in ((Below.refl _ _).alloc (Nat.le_refl _) _)
        have HO2 := hid_in (HO1.out.below HB2.out)
        have HF2 := hid_in (sls_one w1 ⟨sc, sn, sa, sk, sr⟩)
        simp only at HF2
        have HBV := hid_in (HBW.out.trans (HB2.out.mono HBW.out.size))
        clear h0
        go_upto_region 7 with fail
        refine wp_world HW1.out ?_
        go_wp2_with (first | (at_builtin; refine wpList_app48 w.heap.size rfl _ _ rfl _ _ [⟨sc, sn, sa, sk, sr⟩] rfl HO2.out _ rfl HF2.out (by have := HLE.out; simp only [List.length_cons, List.length_nil]; omega) HBV.out.size ?_; intro v4 w4 ho4 hg4; have HB4 := hid_in (HO2.out.step HBV.out HBV.out.size hg4); have HO4 : Hid (SO w4 w.heap.size v4 (X ++ [⟨sc, sn, sa, sk, sr⟩])) := hid_in ho4; clear ho4 hg4))
        refine ⟨⟨i + 1, by have := HLT.out; omega, by go_num, ?_, HB4.out⟩, by have := HLT.out; simp [intOf]; omega⟩
        rw [HTK.out]
        exact HO4.out
    · obtain rfl : i = 8 := by omega
      have HX : Hid (T.take 8 = T) := hid_in (by rw [← HL.out, List.take_length])
      rw [HX.out] at hso
      clear hlt hi
      go_wp2_with fail
      go_ret
      exact ⟨_, rfl, hso.out, hbr.out⟩
end Go.Proofs.Ytiijlnlkhpneaaa.Se
namespace Go.Proofs.Ytiijlnlkhpneaaa.Se
open Go.RowKit
open Nd (Row wp_world post_Row grownBy_setCell below_of_grown wpList_store_new wpList_store_Row)
def roomOk (r : Int) : Prop := 0 ≤ r ∧ r ≤ 8192
def noTab : List Seat := List.replicate 8 noSeat
set_option maxHeartbeats 1000000 in
set_option maxRecDepth 100000 in
theorem make_ok (r : Int) (w : World) (h : roomOk r) : Calls Try.prog 10 #[.int .i64 r] w fun e w' => ∃ g, e = .returned (.tuple #[.pointer (some ⟨g, 0, none⟩), .int .i64 0]) ∧ Tab w' g r noTab ∧ Below w.heap.size w w' ∧ w.heap.size ≤ g := by
  obtain ⟨h1, h2⟩ := h
  have k1 : ¬ r < 0 := by omega
  have k2 : ¬ 8192 < r := by omega
  go_enter Try.func10, Try.ntmps10
  go_wp2
  go_ret2
  refine ⟨w.heap.size, rfl, ⟨Row.new w (.int .i64 r :: tcells noTab) 61, rfl⟩, (Below.refl _ _).alloc (Nat.le_refl _) _, Nat.le_refl _⟩
set_option maxHeartbeats 1000000 in
theorem make_bad (r : Int) (w : World) (h : ¬ roomOk r) : Calls Try.prog 10 #[.int .i64 r] w fun e w' => e = .returned (.tuple #[.pointer none, .int .i64 1]) ∧ w' = w := by
  unfold roomOk at h
  by_cases k1 : r < 0
  · clear h
    go_enter Try.func10, Try.ntmps10
    go_wp2
    go_ret2
    exact ⟨rfl, rfl⟩
  · have k2 : 8192 < r := by omega
    clear h
    go_enter Try.func10, Try.ntmps10
    go_wp2
    go_ret2
    exact ⟨rfl, rfl⟩
def isC (c : Int) : Bool := decide (1 ≤ c ∧ c ≤ 8)
def isN (n : Int) : Bool := decide (1 ≤ n ∧ n ≤ 1099511627776)
theorem isClient_any (c : Int) (w : World) : Calls Try.prog 26 #[.int .i64 c] w fun e w' => e = .returned (.bool (isC c)) ∧ w' = w := by
  unfold isC
  by_cases h1 : 1 ≤ c
  · by_cases h2 : c ≤ 8
    · rw [decide_eq_true ⟨h1, h2⟩]
      go_enter Try.func26, Try.ntmps26
      go_wp2
      go_ret
      exact ⟨rfl, rfl⟩
    · rw [decide_eq_false (fun h => h2 h.2)]
      go_enter Try.func26, Try.ntmps26
      go_wp2
      go_ret
      exact ⟨rfl, rfl⟩
  · rw [decide_eq_false (fun h => h1 h.1)]
    go_enter Try.func26, Try.ntmps26
    go_wp2
    go_ret
    exact ⟨rfl, rfl⟩
theorem isNumber_any (c : Int) (w : World) : Calls Try.prog 27 #[.int .i64 c] w fun e w' => e = .returned (.bool (isN c)) ∧ w' = w := by
  unfold isN
  by_cases h1 : 1 ≤ c
  · by_cases h2 : c ≤ 1099511627776
    · rw [decide_eq_true ⟨h1, h2⟩]
      go_enter Try.func27, Try.ntmps27
      go_wp2
      go_ret
      exact ⟨rfl, rfl⟩
    · rw [decide_eq_false (fun h => h2 h.2)]
      go_enter Try.func27, Try.ntmps27
      go_wp2
      go_ret
      exact ⟨rfl, rfl⟩
  · rw [decide_eq_false (fun h => h1 h.1)]
    go_enter Try.func27, Try.ntmps27
    go_wp2
    go_ret
    exact ⟨rfl, rfl⟩
end Go.Proofs.Ytiijlnlkhpneaaa.Se
namespace Go.Proofs.Ytiijlnlkhpneaaa.Se
open Go.RowKit
open Nd (Row wp_world post_Row grownBy_setCell below_of_grown wpList_store_new wpList_store_Row)
def sumR (T : List Seat) : Nat := (T.map (fun s => s.reply.size)).sum
def ShortT (T : List Seat) : Prop := ∀ s ∈ T, s.reply.size ≤ 8192
theorem sumR_take {T : List Seat} {i : Nat} {s : Seat} (h : T[i]? = some s) : sumR (T.take (i + 1)) = sumR (T.take i) + s.reply.size := by
  unfold sumR
  rw [List.take_add_one, h]
  simp
theorem sumR_le {T : List Seat} (h : ShortT T) : sumR T ≤ T.length * 8192 := by
  induction T with
  | nil => simp [sumR]
  | cons a r ih =>
    have h1 := h a (by simp)
    have h2 := ih (fun x hx => h x (by simp [hx]))
    unfold sumR at h2 ⊢
    simp only [List.map_cons, List.sum_cons, List.length_cons]
    omega
theorem sumR_take_le {T : List Seat} (h : ShortT T) (hl : T.length = 8) (i : Nat) : sumR (T.take i) ≤ 65536 := by
  have h1 := sumR_le (T := T.take i) (fun x hx => h x (List.mem_of_mem_take hx))
  have h2 : (T.take i).length ≤ 8 := by simp; omega
  omega
set_option maxHeartbeats 2000000 in
set_option maxRecDepth 100000 in
theorem keptBytes_any {w : World} {g : Nat} {room : Int} {T : List Seat} (h : Tab w g room T) (hS : ShortT T) :
    Calls Try.prog 48 #[.pointer (some ⟨g, 0, none⟩)] w fun e w' => e = .returned (.int .i64 (sumR T : Int)) ∧ Below w.heap.size w w' := by
  have HRG := h.range
  have HFT := h.fits
  have HL := hid_in h.len
  have HIX := hid_in (fun i s (hi : T[i]? = some s) W => index59 h.len hi W)
  have HSM := hid_in (fun i => sumR_take_le hS h.len i)
  generalize tcells T = A at *
  clear h hS
  go_enter Try.func48, Try.ntmps48
  go_wp2_with (first | (refine wpList_load_mid rfl 59 _ rfl g 1 rfl A _ HRG.out Try.underlying59 rfl HFT.out ?_))
  go_loopw [3, 10] (fun vn vi W => ∃ i : Nat, i ≤ 8 ∧ vi = .int .i64 (i : Int) ∧ vn = .int .i64 (sumR (T.take i) : Int) ∧ Hid (Below w.heap.size w W)) (fun _ vi _ => 8 - (intOf vi).toNat)
  case atStart => exact ⟨0, by omega, rfl, rfl, Below.refl _ _⟩
  case round =>
    obtain ⟨i, hi, rfl, rfl, hbr⟩ := hrel
    by_cases hlt : i < 8
    · obtain ⟨s, hs⟩ : ∃ s, T[i]? = some s := ⟨_, List.getElem?_eq_getElem (by rw [HL.out]; exact hlt)⟩
      have hix := HIX.out i s hs
      have HTK := hid_in (sumR_take hs)
      have hb1 := HSM.out i
      have hb2 := HSM.out (i + 1)
      rw [HTK.out] at hb2
      have hlt2 : (i : Int) < 8 := by omega
      have HLT := hid_in hlt
      generalize sumR (T.take i) = m at *
      obtain ⟨sc, sn, sa, sk, sr⟩ := s
      simp only [Seat.cells] at hix
      simp only at hb2 HTK
      have hs2 : (m : Int) ≤ 65536 := by omega
      have hs3 : (sr.size : Int) ≤ 65536 := by omega
      clear hs hlt hb1 hb2
      go_wp2_with fail
      refine ⟨⟨i + 1, by have := HLT.out; omega, by go_num, ?_, hbr.out.alloc hbr.out.size _⟩, by have := HLT.out; simp [intOf]; omega⟩
      rw [HTK.out]
      go_num
    · obtain rfl : i = 8 := by omega
      have HX : Hid (sumR (T.take 8) = sumR T) := hid_in (by rw [← HL.out, List.take_length])
      rw [HX.out]
      clear hlt hi
      go_wp2_with fail
      go_ret
      exact ⟨rfl, hbr.out⟩
end Go.Proofs.Ytiijlnlkhpneaaa.Se
namespace Go.Proofs.Ytiijlnlkhpneaaa.Se
open Go.RowKit
open Nd (Row wp_world post_Row grownBy_setCell below_of_grown wpList_store_new wpList_store_Row splice_all)
/-- of two seats the one whose reply goes first -/
def pickS (f s : Seat) : Seat := if s.kept = true ∧ (f.kept = false ∨ s.at_ < f.at_) then s else f
def oldS (T : List Seat) : Seat := T.foldl pickS noSeat
theorem oldS_take {T : List Seat} {i : Nat} {s : Seat} (h : T[i]? = some s) : oldS (T.take (i + 1)) = pickS (oldS (T.take i)) s := by
  unfold oldS
  rw [List.take_add_one, h]
  simp
theorem below_set {B f j : Nat} {a w : World} (h : Below B a w) (hf : B ≤ f) (hB : B ≤ w.heap.size) (v : Value) : Below B a (w.setCell ⟨f, j, none⟩ v) ∧ B ≤ (w.setCell ⟨f, j, none⟩ v).heap.size :=
  ⟨below_of_grown h (grownBy_setCell w ⟨f, j, none⟩ v) hB hf, by have := (grownBy_setCell w ⟨f, j, none⟩ v).size; omega⟩
theorem row_set5 {w : World} {f : Nat} {a0 a1 a2 a3 a4 : Value} {t : TypeId} (h : Row w f [a0, a1, a2, a3, a4] t) (v0 v1 v2 v3 v4 : Value) : Row (((((w.setCell ⟨f, 0, none⟩ v0).setCell ⟨f, 1, none⟩ v1).setCell ⟨f, 2, none⟩ v2).setCell ⟨f, 3, none⟩ v3).setCell ⟨f, 4, none⟩ v4) f [v0, v1, v2, v3, v4] t :=
  ((((h.set_same 0 v0).set_same 1 v1).set_same 2 v2).set_same 3 v3).set_same 4 v4
theorem below_set5 {B f : Nat} {a w : World} (h : Below B a w) (hf : B ≤ f) (hB : B ≤ w.heap.size) (v0 v1 v2 v3 v4 : Value) : Below B a (((((w.setCell ⟨f, 0, none⟩ v0).setCell ⟨f, 1, none⟩ v1).setCell ⟨f, 2, none⟩ v2).setCell ⟨f, 3, none⟩ v3).setCell ⟨f, 4, none⟩ v4) ∧ B ≤ (((((w.setCell ⟨f, 0, none⟩ v0).setCell ⟨f, 1, none⟩ v1).setCell ⟨f, 2, none⟩ v2).setCell ⟨f, 3, none⟩ v3).setCell ⟨f, 4, none⟩ v4).heap.size := by
  obtain ⟨h0, k0⟩ := below_set (j := 0) h hf hB v0
  obtain ⟨h1, k1⟩ := below_set (j := 1) h0 hf k0 v1
  obtain ⟨h2, k2⟩ := below_set (j := 2) h1 hf k1 v2
  obtain ⟨h3, k3⟩ := below_set (j := 3) h2 hf k2 v3
  exact below_set (j := 4) h3 hf k3 v4
set_option maxHeartbeats 2000000 in
set_option maxRecDepth 100000 in
theorem oldest_any {w : World} {g : Nat} {room : Int} {T : List Seat} (h : Tab w g room T) :
    Calls Try.prog 49 #[.pointer (some ⟨g, 0, none⟩)] w fun e w' => e = .returned (.int .i64 (oldS T).client) ∧ Below w.heap.size w w' := by
  have HRG := (h.alloc (.cells noSeat.cells.toArray 48)).range
  have HFT := h.fits
  have HL := hid_in h.len
  have HIX := hid_in (fun i s (hi : T[i]? = some s) W => index59 h.len hi W)
  simp only [noSeat, Seat.cells] at HRG
  generalize tcells T = A at *
  clear h
  go_enter Try.func49, Try.ntmps49
  go_wp2_with (first | (refine wpList_load_mid rfl 59 _ rfl g 1 rfl A _ HRG.out Try.underlying59 rfl HFT.out ?_))
  go_loopw [10] (fun vi W => ∃ i : Nat, i ≤ 8 ∧ vi = .int .i64 (i : Int) ∧ Hid (Row W w.heap.size (oldS (T.take i)).cells 48) ∧ Hid (Below w.heap.size w W)) (fun vi _ => 8 - (intOf vi).toNat)
  case atStart => exact ⟨0, by omega, rfl, Row.new w noSeat.cells 48, (Below.refl _ _).alloc (Nat.le_refl _) _⟩
  case round =>
    obtain ⟨i, hi, rfl, hfr, hbr⟩ := hrel
    by_cases hlt : i < 8
    · obtain ⟨s, hs⟩ : ∃ s, T[i]? = some s := ⟨_, List.getElem?_eq_getElem (by rw [HL.out]; exact hlt)⟩
      have hix := HIX.out i s hs
      have HTK := hid_in (oldS_take hs)
      have hlt2 : (i : Int) < 8 := by omega
      have HLT := hid_in hlt
      generalize oldS (T.take i) = f at *
      obtain ⟨sc, sn, sa, sk, sr⟩ := s
      obtain ⟨fc, fn, fa, fk, fr⟩ := f
      unfold pickS at HTK
      simp only [Seat.cells] at hix hfr
      simp only at HTK
      have f0 := hfr.out.cell 0
      have f1 := hfr.out.cell 1
      have f2 := hfr.out.cell 2
      have f3 := hfr.out.cell 3
      have f4 := hfr.out.cell 4
      have z0 := hfr.out.frozen 0
      have z1 := hfr.out.frozen 1
      have z2 := hfr.out.frozen 2
      have z3 := hfr.out.frozen 3
      have z4 := hfr.out.frozen 4
      have flt := hfr.out.lt
      simp at f0 f1 f2 f3 f4
      clear hs hlt
      rcases sk with _ | _
      · rw [if_neg (by simp)] at HTK
        go_wp2_with fail
        refine ⟨⟨i + 1, by have := HLT.out; omega, by go_num, ?_, hbr.out.alloc hbr.out.size _⟩, by have := HLT.out; simp [intOf]; omega⟩
        rw [HTK.out]
        exact hfr.out.alloc _
      · rcases fk with _ | _
        · rw [if_pos (by simp)] at HTK
          go_wp2_with fail
          refine ⟨⟨i + 1, by have := HLT.out; omega, by go_num, ?_, (below_set5 hbr.out (Nat.le_refl _) hbr.out.size _ _ _ _ _).1.alloc (below_set5 hbr.out (Nat.le_refl _) hbr.out.size _ _ _ _ _).2 _⟩, by have := HLT.out; simp [intOf]; omega⟩
          rw [HTK.out]
          exact (row_set5 hfr.out _ _ _ _ _).alloc _
        · by_cases hat : sa < fa
          · rw [if_pos (by simp; exact hat)] at HTK
            go_wp2_with fail
            refine ⟨⟨i + 1, by have := HLT.out; omega, by go_num, ?_, (below_set5 hbr.out (Nat.le_refl _) hbr.out.size _ _ _ _ _).1.alloc (below_set5 hbr.out (Nat.le_refl _) hbr.out.size _ _ _ _ _).2 _⟩, by have := HLT.out; simp [intOf]; omega⟩
            rw [HTK.out]
            exact (row_set5 hfr.out _ _ _ _ _).alloc _
          · rw [if_neg (by simp; omega)] at HTK
            go_wp2_with fail
            refine ⟨⟨i + 1, by have := HLT.out; omega, by go_num, ?_, hbr.out.alloc hbr.out.size _⟩, by have := HLT.out; simp [intOf]; omega⟩
            rw [HTK.out]
            exact hfr.out.alloc _
    · obtain rfl : i = 8 := by omega
      have HX : Hid (oldS (T.take 8) = oldS T) := hid_in (by rw [← HL.out, List.take_length])
      rw [HX.out] at hfr
      have f0 := hfr.out.cell 0
      simp [Seat.cells] at f0
      clear hlt hi
      go_wp2_with fail
      go_ret
      exact ⟨rfl, hbr.out⟩
end Go.Proofs.Ytiijlnlkhpneaaa.Se
