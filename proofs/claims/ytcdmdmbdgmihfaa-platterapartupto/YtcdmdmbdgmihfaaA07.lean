/-
  The reference: goes and cut.
-/
import Derived.Test.YtcdmdmbdgmihfaaA00
import Derived.Test.YtcdmdmbdgmihfaaA01
import Derived.Test.YtcdmdmbdgmihfaaA02
import Derived.Test.YtcdmdmbdgmihfaaA03
import Derived.Test.YtcdmdmbdgmihfaaA04
import Derived.Test.YtcdmdmbdgmihfaaA05
import Derived.Test.YtcdmdmbdgmihfaaA06
namespace Go.Proofs.Ytcdmdmbdgmihfaa.Pt
open Go.RowKit
open Nd (Row wp_world grownBy_setCell below_of_grown grownBy_trans grown_of_below grownBy_refl u8v Grew Moved Sl hid_in i5h str)
/-- the cells of the reference's platter -/
def rcells (d : Dk) : List Value := [.string (str d.a0.bs), .string (str d.a1.bs), .int .i64 (d.a0.sy : Int), .int .i64 (d.a1.sy : Int), .int .i64 (liv d.live), .int .i64 (d.left : Int), .bool d.down]
theorem goes_any {w : World} {r : Nat} {d : Dk} (h : Row w r (rcells d) 31) (hk : d.ok) (hd : d.down = false) : Calls Try.prog 25 #[.pointer (some ⟨r, 0, none⟩)] w fun e w' => e = .returned (.bool (decide (d.left = 1))) ∧ Row w' r (rcells (spendD d)) 31 ∧ w.grownBy w' (some r) := by
  have c5 := h.cell 5
  have c6 := h.cell 6
  have f5 := h.frozen 5
  have f6 := h.frozen 6
  simp only [rcells, List.getElem?_cons_succ, List.getElem?_cons_zero] at c5 c6
  rw [hd] at c6
  have hl := hk.left
  by_cases h0 : d.left = 0
  · have e1 : decide (d.left = 1) = false := by rw [h0]; decide
    have e2 : spendD d = d := by unfold spendD; rw [if_neg (by omega)]; cases d; simp at h0; subst h0; rfl
    rw [e1, e2]
    rw [h0] at c5
    have HH := hid_in h
    clear h hl e1 e2 h0
    go_enter Try.func25, Try.ntmps25
    go_wp2
    go_ret
    exact ⟨rfl, HH.out, grownBy_refl _ _⟩
  · by_cases h1 : d.left = 1
    · have e1 : decide (d.left = 1) = true := by simpa using h1
      have e2 : spendD d = { d with left := 0, down := true } := by unfold spendD; rw [if_pos h1]
      have S1 : Hid (Row ((w.setCell ⟨r, 5, none⟩ (.int .i64 0)).setCell ⟨r, 6, none⟩ (.bool true)) r (rcells { d with left := 0, down := true }) 31) := hid_in ((h.set_same 5 _).set_same 6 _)
      rw [e1, e2]
      rw [h1] at c5
      clear h hl e1 e2 h0 h1
      go_enter Try.func25, Try.ntmps25
      go_wp2
      go_ret
      exact ⟨rfl, S1.out, grownBy_trans (grownBy_setCell _ _ _) (grownBy_setCell _ _ _)⟩
    · obtain ⟨l, hl2⟩ : ∃ l : Nat, d.left = l + 2 := ⟨d.left - 2, by omega⟩
      have e1 : decide (d.left = 1) = false := by simpa using h1
      have e2 : spendD d = { d with left := l + 1, down := false } := by unfold spendD; rw [if_neg h1, hl2, ← hd]; rfl
      have hcast : ((l + 1 : Nat) : Int) = (l : Int) + 1 := by omega
      have S1 : Hid (Row ((w.setCell ⟨r, 5, none⟩ (.int .i64 ((l : Int) + 1))).setCell ⟨r, 6, none⟩ (.bool false)) r (rcells { d with left := l + 1, down := false }) 31) := hid_in (by rw [← hcast]; exact (h.set_same 5 _).set_same 6 _)
      rw [e1, e2]
      rw [hl2] at c5
      have q1 : ((l + 2 : Nat) : Int) = (l : Int) + 2 := by omega
      rw [q1] at c5
      have hl3 : (l : Int) + 2 ≤ 9223372036854775807 := by omega
      have z1 : wrap64 ((l : Int) + 2 - 1) = (l : Int) + 1 := by unfold wrap64; omega
      have z2 : IntKind.i64.wrap ((l : Int) + 2 - 1) = (l : Int) + 1 := by rw [IntKind.wrap_i64]; omega
      have y1 : ((l : Int) + 2 == 0) = false := by simp; omega
      have y2 : ((l : Int) + 1 == 0) = false := by simp; omega
      clear h hl e1 e2 h0 h1 hl2 q1 hl3 hcast
      go_enter Try.func25, Try.ntmps25
      go_wp2
      go_ret
      exact ⟨rfl, S1.out, grownBy_trans (grownBy_setCell _ _ _) (grownBy_setCell _ _ _)⟩
theorem str_take (bs : List Nat) (t : Nat) : (str bs).extract 0 t = str (bs.take t) := by
  have e : ∀ x y : ByteArray, x.data.toList = y.data.toList → x = y := fun x y h => by cases x; cases y; congr 1; exact Array.ext' h
  refine e _ _ ?_
  simp [str, ByteArray.data_extract]
def cutTo (i : Nat) (ks : List Int) (d : Dk) : Dk := match i with
  | 0 => d
  | 1 => { d with a0 := cutAr (ks.getD 0 0) d.a0 }
  | _ => { d with a0 := cutAr (ks.getD 0 0) d.a0, a1 := cutAr (ks.getD 1 0) d.a1 }
set_option maxHeartbeats 4000000 in
set_option maxRecDepth 100000 in
theorem rcut_any {w : World} {r : Nat} {d : Dk} (h : Row w r (rcells d) 31) (hk : d.ok) (v : Value) (ks : List Int) (hks : Kp w (fun k => some k = some r) v ks) : Calls Try.prog 24 #[.pointer (some ⟨r, 0, none⟩), v] w fun e w' => e = .returned (.tuple #[]) ∧ Row w' r (rcells (cutD ks d)) 31 ∧ w.grownBy w' (some r) := by
  obtain ⟨p, cap, rfl, hL63, hat⟩ := hks
  have HH := hid_in h
  have HOK := hid_in hk
  have HKS : Hid (∀ A : Nat, A < ks.length → ∃ b o, p = some ⟨b, o, none⟩ ∧ ∀ W, w.grownBy W (some r) → W.cell? ⟨b, o + A, none⟩ = some (.int .i64 (ks.getD A 0))) := hid_in (by
    intro A hA
    obtain ⟨b, o, hp, hc⟩ := hat (by rintro rfl; simp at hA)
    exact ⟨b, o, hp, fun W hW => hc W (Grew.of_grown hW) A _ (by rw [List.getD_eq_getElem?_getD, List.getElem?_eq_getElem hA]; rfl)⟩)
  have HKZ : Hid (∀ A : Nat, ks.length ≤ A → ks.getD A 0 = 0) := hid_in (fun A hA => by rw [List.getD_eq_getElem?_getD, List.getElem?_eq_none hA]; rfl)
  generalize ks.length = L at *
  clear h hk hat
  go_enter Try.func24, Try.ntmps24
  go_wp2_with fail
  go_loopw [4] (fun vi W => ∃ i : Nat, i ≤ 2 ∧ vi = .int .i64 (i : Int) ∧ Hid (Row W r (rcells (cutTo i ks d)) 31 ∧ w.grownBy W (some r))) (fun vi _ => 2 - (intOf vi).toNat)
  case atStart => exact ⟨0, by omega, rfl, hid_in ⟨HH.out, grownBy_refl _ _⟩⟩
  case round =>
    obtain ⟨i, hi, rfl, hst⟩ := hrel
    rcases i with _ | _ | i
    · obtain ⟨hrow, hgr⟩ := hst.out
      have HROW := hid_in hrow
      have HGR := hid_in hgr
      have c0 := hrow.cell 0
      have c1 := hrow.cell 2
      have f0 := hrow.frozen 0
      have f1 := hrow.frozen 2
      simp only [rcells, cutTo, List.getElem?_cons_succ, List.getElem?_cons_zero] at c0 c1
      have hk0 := HOK.out.o0
      obtain ⟨k, HKD⟩ : ∃ k, Hid (ks.getD 0 0 = k) := ⟨_, hid_in rfl⟩
      obtain ⟨t, HTD⟩ : ∃ t, Hid (cutN (ks.getD 0 0) d.a0 = t) := ⟨_, hid_in rfl⟩
      obtain ⟨X, HX⟩ : ∃ X, Hid (str d.a0.bs = X) := ⟨_, hid_in rfl⟩
      have ht : t = d.a0.sy + min k.toNat (d.a0.bs.length - d.a0.sy) := by rw [← HTD.out, ← HKD.out]; rfl
      have hXs : X.size = d.a0.bs.length := by rw [← HX.out]; exact Nd.str_size _
      rw [HX.out] at c0
      have hs := hk0.1
      have hn := hk0.2.2
      generalize d.a0.sy = s at *
      generalize d.a0.bs.length = n at *
      have htn : t ≤ n := by omega
      have htX : (t : Int) ≤ (n : Int) := by omega
      have z5 : wrap64 (t : Int) = (t : Int) := by unfold wrap64; omega
      have z6 : IntKind.i64.wrap (t : Int) = (t : Int) := by rw [IntKind.wrap_i64]; omega
      obtain ⟨Y, hY⟩ : ∃ Y : Int, Y = (n : Int) - (s : Int) := ⟨_, rfl⟩
      have hY0 : 0 ≤ Y := by omega
      have z1 : wrap64 ((n : Int) - (s : Int)) = Y := by rw [← hY]; unfold wrap64; omega
      have z2 : IntKind.i64.wrap ((n : Int) - (s : Int)) = Y := by rw [← hY, IntKind.wrap_i64]; omega
      clear hrow hgr hst hk0
      by_cases hA : 0 < L
      · obtain ⟨b, o, rfl, hc⟩ := HKS.out 0 hA
        have q0 : wr.cell? ⟨b, o, none⟩ = some (.int .i64 k) := by rw [← HKD.out]; simpa using hc wr HGR.out
        have hlow := True.intro
        by_cases hk0 : k ≤ 0
        · have hg0 : (0 : Int) < (L : Int) := by omega
          have hg1 : ¬ (0 : Int) < k := by omega
          have hg2 : ¬ Y < (0 : Int) := by omega
          have hT : (t : Int) = (s : Int) + (0 : Int) := by omega
          have z3 : wrap64 ((s : Int) + (0 : Int)) = (t : Int) := by rw [← hT]; exact z5
          have z4 : IntKind.i64.wrap ((s : Int) + (0 : Int)) = (t : Int) := by rw [← hT]; exact z6
          have z7 : wrap64 (s : Int) = (t : Int) := by rw [show (s : Int) = (t : Int) by omega]; exact z5
          have z8 : IntKind.i64.wrap (s : Int) = (t : Int) := by rw [show (s : Int) = (t : Int) by omega]; exact z6
          generalize (s : Int) = sI at *
          clear hk0 hc hT hA hY hY0 ht hs hn hlow hL63
          go_upto_region 6 with fail
          go_quiet (fail)
          go_upto_region 8 with fail
          go_region
          go_upto_region 9 with fail
          have hb6 : Below wr.heap.size wr (wr.drewN (nq + 1)) := Nd.below_drewN (Below.refl _ _) _
          have HR6 : Hid (Row ((wr.drewN (nq + 1)).setCell ⟨r, 0, none⟩ (.string (X.extract 0 t))) r ((rcells (cutTo 0 ks d)).set 0 (.string (X.extract 0 t))) 31) := hid_in ((HROW.out.below hb6 HROW.out.lt).set_same 0 _)
          have HG6 : Hid (w.grownBy ((wr.drewN (nq + 1)).setCell ⟨r, 0, none⟩ (.string (X.extract 0 t))) (some r)) := hid_in (grownBy_trans HGR.out (grownBy_trans (grown_of_below hb6) (grownBy_setCell _ _ _)))
          clear hb6 c0 c1 f0 f1
          generalize ((wr.drewN (nq + 1)).setCell ⟨r, 0, none⟩ (.string (X.extract 0 t))) = w6 at *
          have hZs : (X.extract 0 t).size = t := by
            show (X.extract 0 t).data.size = t
            have e2 : X.data.size = n := hXs
            simp [ByteArray.data_extract]
            omega
          have HZ : Hid (X.extract 0 t = str (d.a0.bs.take t)) := hid_in (by rw [← HX.out]; exact str_take _ _)
          generalize X.extract 0 t = Z at *
          have c0 := HR6.out.cell 0
          have c1 := HR6.out.cell 2
          have f1 := HR6.out.frozen 2
          simp only [rcells, cutTo, List.set_cons_zero, List.getElem?_cons_succ, List.getElem?_cons_zero] at c0 c1
          have HR7 : Hid (Row (w6.setCell ⟨r, 2, none⟩ (.int .i64 (t : Int))).drew r (rcells (cutTo 1 ks d)) 31) := hid_in (by
            have e := (HR6.out.set_same 2 (.int .i64 (t : Int))).drew
            rw [HZ.out] at e
            have e2 : cutTo 1 ks d = { d with a0 := ⟨d.a0.bs.take t, t⟩ } := by rw [← HTD.out]; rfl
            rw [e2]
            exact e)
          have HG7 : Hid (w.grownBy (w6.setCell ⟨r, 2, none⟩ (.int .i64 (t : Int))).drew (some r)) := hid_in (grownBy_trans HG6.out (grownBy_trans (grownBy_setCell _ _ _) (grown_of_below (Below.refl _ _).drew)))
          clear hXs
          go_region
          go_wp2
          exact ⟨⟨1, by omega, rfl, HR7.out, HG7.out⟩, by simp [intOf]⟩
        · by_cases hgt : Y < k
          · have hg0 : (0 : Int) < (L : Int) := by omega
            have hg1 : (0 : Int) < k := by omega
            have hg2 : Y < k := by omega
            have hT : (t : Int) = (s : Int) + Y := by omega
            have z3 : wrap64 ((s : Int) + Y) = (t : Int) := by rw [← hT]; exact z5
            have z4 : IntKind.i64.wrap ((s : Int) + Y) = (t : Int) := by rw [← hT]; exact z6
            generalize (s : Int) = sI at *
            clear hk0 hc hgt hT hA hY hY0 ht hs hn hlow hL63
            go_upto_region 6 with fail
            go_quiet (fail)
            generalize nq = nq1 at *
            go_upto_region 7 with fail
            go_quiet (fail)
            go_upto_region 8 with fail
            go_region
            go_upto_region 9 with fail
            have hb6 : Below wr.heap.size wr (wr.drewN (nq1 + nq + 1)) := Nd.below_drewN (Below.refl _ _) _
            have HR6 : Hid (Row ((wr.drewN (nq1 + nq + 1)).setCell ⟨r, 0, none⟩ (.string (X.extract 0 t))) r ((rcells (cutTo 0 ks d)).set 0 (.string (X.extract 0 t))) 31) := hid_in ((HROW.out.below hb6 HROW.out.lt).set_same 0 _)
            have HG6 : Hid (w.grownBy ((wr.drewN (nq1 + nq + 1)).setCell ⟨r, 0, none⟩ (.string (X.extract 0 t))) (some r)) := hid_in (grownBy_trans HGR.out (grownBy_trans (grown_of_below hb6) (grownBy_setCell _ _ _)))
            clear hb6 c0 c1 f0 f1
            generalize ((wr.drewN (nq1 + nq + 1)).setCell ⟨r, 0, none⟩ (.string (X.extract 0 t))) = w6 at *
            have hZs : (X.extract 0 t).size = t := by
              show (X.extract 0 t).data.size = t
              have e2 : X.data.size = n := hXs
              simp [ByteArray.data_extract]
              omega
            have HZ : Hid (X.extract 0 t = str (d.a0.bs.take t)) := hid_in (by rw [← HX.out]; exact str_take _ _)
            generalize X.extract 0 t = Z at *
            have c0 := HR6.out.cell 0
            have c1 := HR6.out.cell 2
            have f1 := HR6.out.frozen 2
            simp only [rcells, cutTo, List.set_cons_zero, List.getElem?_cons_succ, List.getElem?_cons_zero] at c0 c1
            have HR7 : Hid (Row (w6.setCell ⟨r, 2, none⟩ (.int .i64 (t : Int))).drew r (rcells (cutTo 1 ks d)) 31) := hid_in (by
              have e := (HR6.out.set_same 2 (.int .i64 (t : Int))).drew
              rw [HZ.out] at e
              have e2 : cutTo 1 ks d = { d with a0 := ⟨d.a0.bs.take t, t⟩ } := by rw [← HTD.out]; rfl
              rw [e2]
              exact e)
            have HG7 : Hid (w.grownBy (w6.setCell ⟨r, 2, none⟩ (.int .i64 (t : Int))).drew (some r)) := hid_in (grownBy_trans HG6.out (grownBy_trans (grownBy_setCell _ _ _) (grown_of_below (Below.refl _ _).drew)))
            clear hXs
            go_region
            go_wp2
            exact ⟨⟨1, by omega, rfl, HR7.out, HG7.out⟩, by simp [intOf]⟩
          · have hg0 : (0 : Int) < (L : Int) := by omega
            have hg1 : (0 : Int) < k := by omega
            have hg2 : ¬ Y < k := by omega
            have hT : (t : Int) = (s : Int) + k := by omega
            have z3 : wrap64 ((s : Int) + k) = (t : Int) := by rw [← hT]; exact z5
            have z4 : IntKind.i64.wrap ((s : Int) + k) = (t : Int) := by rw [← hT]; exact z6
            generalize (s : Int) = sI at *
            clear hk0 hc hgt hT hA hY hY0 ht hs hn hlow hL63
            go_upto_region 6 with fail
            go_quiet (fail)
            go_upto_region 8 with fail
            go_region
            go_upto_region 9 with fail
            have hb6 : Below wr.heap.size wr (wr.drewN (nq + 1)) := Nd.below_drewN (Below.refl _ _) _
            have HR6 : Hid (Row ((wr.drewN (nq + 1)).setCell ⟨r, 0, none⟩ (.string (X.extract 0 t))) r ((rcells (cutTo 0 ks d)).set 0 (.string (X.extract 0 t))) 31) := hid_in ((HROW.out.below hb6 HROW.out.lt).set_same 0 _)
            have HG6 : Hid (w.grownBy ((wr.drewN (nq + 1)).setCell ⟨r, 0, none⟩ (.string (X.extract 0 t))) (some r)) := hid_in (grownBy_trans HGR.out (grownBy_trans (grown_of_below hb6) (grownBy_setCell _ _ _)))
            clear hb6 c0 c1 f0 f1
            generalize ((wr.drewN (nq + 1)).setCell ⟨r, 0, none⟩ (.string (X.extract 0 t))) = w6 at *
            have hZs : (X.extract 0 t).size = t := by
              show (X.extract 0 t).data.size = t
              have e2 : X.data.size = n := hXs
              simp [ByteArray.data_extract]
              omega
            have HZ : Hid (X.extract 0 t = str (d.a0.bs.take t)) := hid_in (by rw [← HX.out]; exact str_take _ _)
            generalize X.extract 0 t = Z at *
            have c0 := HR6.out.cell 0
            have c1 := HR6.out.cell 2
            have f1 := HR6.out.frozen 2
            simp only [rcells, cutTo, List.set_cons_zero, List.getElem?_cons_succ, List.getElem?_cons_zero] at c0 c1
            have HR7 : Hid (Row (w6.setCell ⟨r, 2, none⟩ (.int .i64 (t : Int))).drew r (rcells (cutTo 1 ks d)) 31) := hid_in (by
              have e := (HR6.out.set_same 2 (.int .i64 (t : Int))).drew
              rw [HZ.out] at e
              have e2 : cutTo 1 ks d = { d with a0 := ⟨d.a0.bs.take t, t⟩ } := by rw [← HTD.out]; rfl
              rw [e2]
              exact e)
            have HG7 : Hid (w.grownBy (w6.setCell ⟨r, 2, none⟩ (.int .i64 (t : Int))).drew (some r)) := hid_in (grownBy_trans HG6.out (grownBy_trans (grownBy_setCell _ _ _) (grown_of_below (Below.refl _ _).drew)))
            clear hXs
            go_region
            go_wp2
            exact ⟨⟨1, by omega, rfl, HR7.out, HG7.out⟩, by simp [intOf]⟩
      · have hlow : k = 0 := by rw [← HKD.out]; exact HKZ.out 0 (by omega)
        have hk0 : k ≤ 0 := by omega
        have hg0 : ¬ (0 : Int) < (L : Int) := by omega
        have hg2 : ¬ Y < (0 : Int) := by omega
        have hT : (t : Int) = (s : Int) + (0 : Int) := by omega
        have z3 : wrap64 ((s : Int) + (0 : Int)) = (t : Int) := by rw [← hT]; exact z5
        have z4 : IntKind.i64.wrap ((s : Int) + (0 : Int)) = (t : Int) := by rw [← hT]; exact z6
        have z7 : wrap64 (s : Int) = (t : Int) := by rw [show (s : Int) = (t : Int) by omega]; exact z5
        have z8 : IntKind.i64.wrap (s : Int) = (t : Int) := by rw [show (s : Int) = (t : Int) by omega]; exact z6
        generalize (s : Int) = sI at *
        clear hk0 hT hA hY hY0 ht hs hn hlow hL63
        go_upto_region 6 with fail
        go_quiet (fail)
        go_upto_region 8 with fail
        go_region
        go_upto_region 9 with fail
        have hb6 : Below wr.heap.size wr (wr.drewN (nq + 1)) := Nd.below_drewN (Below.refl _ _) _
        have HR6 : Hid (Row ((wr.drewN (nq + 1)).setCell ⟨r, 0, none⟩ (.string (X.extract 0 t))) r ((rcells (cutTo 0 ks d)).set 0 (.string (X.extract 0 t))) 31) := hid_in ((HROW.out.below hb6 HROW.out.lt).set_same 0 _)
        have HG6 : Hid (w.grownBy ((wr.drewN (nq + 1)).setCell ⟨r, 0, none⟩ (.string (X.extract 0 t))) (some r)) := hid_in (grownBy_trans HGR.out (grownBy_trans (grown_of_below hb6) (grownBy_setCell _ _ _)))
        clear hb6 c0 c1 f0 f1
        generalize ((wr.drewN (nq + 1)).setCell ⟨r, 0, none⟩ (.string (X.extract 0 t))) = w6 at *
        have hZs : (X.extract 0 t).size = t := by
          show (X.extract 0 t).data.size = t
          have e2 : X.data.size = n := hXs
          simp [ByteArray.data_extract]
          omega
        have HZ : Hid (X.extract 0 t = str (d.a0.bs.take t)) := hid_in (by rw [← HX.out]; exact str_take _ _)
        generalize X.extract 0 t = Z at *
        have c0 := HR6.out.cell 0
        have c1 := HR6.out.cell 2
        have f1 := HR6.out.frozen 2
        simp only [rcells, cutTo, List.set_cons_zero, List.getElem?_cons_succ, List.getElem?_cons_zero] at c0 c1
        have HR7 : Hid (Row (w6.setCell ⟨r, 2, none⟩ (.int .i64 (t : Int))).drew r (rcells (cutTo 1 ks d)) 31) := hid_in (by
          have e := (HR6.out.set_same 2 (.int .i64 (t : Int))).drew
          rw [HZ.out] at e
          have e2 : cutTo 1 ks d = { d with a0 := ⟨d.a0.bs.take t, t⟩ } := by rw [← HTD.out]; rfl
          rw [e2]
          exact e)
        have HG7 : Hid (w.grownBy (w6.setCell ⟨r, 2, none⟩ (.int .i64 (t : Int))).drew (some r)) := hid_in (grownBy_trans HG6.out (grownBy_trans (grownBy_setCell _ _ _) (grown_of_below (Below.refl _ _).drew)))
        clear hXs
        go_region
        go_wp2
        exact ⟨⟨1, by omega, rfl, HR7.out, HG7.out⟩, by simp [intOf]⟩
    · obtain ⟨hrow, hgr⟩ := hst.out
      have HROW := hid_in hrow
      have HGR := hid_in hgr
      have c0 := hrow.cell 1
      have c1 := hrow.cell 3
      have f0 := hrow.frozen 1
      have f1 := hrow.frozen 3
      simp only [rcells, cutTo, List.getElem?_cons_succ, List.getElem?_cons_zero] at c0 c1
      have hk1 := HOK.out.o1
      obtain ⟨k, HKD⟩ : ∃ k, Hid (ks.getD 1 0 = k) := ⟨_, hid_in rfl⟩
      obtain ⟨t, HTD⟩ : ∃ t, Hid (cutN (ks.getD 1 0) d.a1 = t) := ⟨_, hid_in rfl⟩
      obtain ⟨X, HX⟩ : ∃ X, Hid (str d.a1.bs = X) := ⟨_, hid_in rfl⟩
      have ht : t = d.a1.sy + min k.toNat (d.a1.bs.length - d.a1.sy) := by rw [← HTD.out, ← HKD.out]; rfl
      have hXs : X.size = d.a1.bs.length := by rw [← HX.out]; exact Nd.str_size _
      rw [HX.out] at c0
      have hs := hk1.1
      have hn := hk1.2.2
      generalize d.a1.sy = s at *
      generalize d.a1.bs.length = n at *
      have htn : t ≤ n := by omega
      have htX : (t : Int) ≤ (n : Int) := by omega
      have z5 : wrap64 (t : Int) = (t : Int) := by unfold wrap64; omega
      have z6 : IntKind.i64.wrap (t : Int) = (t : Int) := by rw [IntKind.wrap_i64]; omega
      obtain ⟨Y, hY⟩ : ∃ Y : Int, Y = (n : Int) - (s : Int) := ⟨_, rfl⟩
      have hY0 : 0 ≤ Y := by omega
      have z1 : wrap64 ((n : Int) - (s : Int)) = Y := by rw [← hY]; unfold wrap64; omega
      have z2 : IntKind.i64.wrap ((n : Int) - (s : Int)) = Y := by rw [← hY, IntKind.wrap_i64]; omega
      clear hrow hgr hst hk1
      by_cases hA : 1 < L
      · obtain ⟨b, o, rfl, hc⟩ := HKS.out 1 hA
        have q0 : wr.cell? ⟨b, o + 1, none⟩ = some (.int .i64 k) := by rw [← HKD.out]; simpa using hc wr HGR.out
        have hlow := True.intro
        by_cases hk0 : k ≤ 0
        · have hg0 : (1 : Int) < (L : Int) := by omega
          have hg1 : ¬ (0 : Int) < k := by omega
          have hg2 : ¬ Y < (0 : Int) := by omega
          have hT : (t : Int) = (s : Int) + (0 : Int) := by omega
          have z3 : wrap64 ((s : Int) + (0 : Int)) = (t : Int) := by rw [← hT]; exact z5
          have z4 : IntKind.i64.wrap ((s : Int) + (0 : Int)) = (t : Int) := by rw [← hT]; exact z6
          have z7 : wrap64 (s : Int) = (t : Int) := by rw [show (s : Int) = (t : Int) by omega]; exact z5
          have z8 : IntKind.i64.wrap (s : Int) = (t : Int) := by rw [show (s : Int) = (t : Int) by omega]; exact z6
          generalize (s : Int) = sI at *
          clear hk0 hc hT hA hY hY0 ht hs hn hlow hL63
          go_upto_region 6 with fail
          go_quiet (fail)
          go_upto_region 8 with fail
          go_region
          go_upto_region 9 with fail
          have hb6 : Below wr.heap.size wr (wr.drewN (nq + 1)) := Nd.below_drewN (Below.refl _ _) _
          have HR6 : Hid (Row ((wr.drewN (nq + 1)).setCell ⟨r, 1, none⟩ (.string (X.extract 0 t))) r ((rcells (cutTo 1 ks d)).set 1 (.string (X.extract 0 t))) 31) := hid_in ((HROW.out.below hb6 HROW.out.lt).set_same 1 _)
          have HG6 : Hid (w.grownBy ((wr.drewN (nq + 1)).setCell ⟨r, 1, none⟩ (.string (X.extract 0 t))) (some r)) := hid_in (grownBy_trans HGR.out (grownBy_trans (grown_of_below hb6) (grownBy_setCell _ _ _)))
          clear hb6 c0 c1 f0 f1
          generalize ((wr.drewN (nq + 1)).setCell ⟨r, 1, none⟩ (.string (X.extract 0 t))) = w6 at *
          have hZs : (X.extract 0 t).size = t := by
            show (X.extract 0 t).data.size = t
            have e2 : X.data.size = n := hXs
            simp [ByteArray.data_extract]
            omega
          have HZ : Hid (X.extract 0 t = str (d.a1.bs.take t)) := hid_in (by rw [← HX.out]; exact str_take _ _)
          generalize X.extract 0 t = Z at *
          have c0 := HR6.out.cell 1
          have c1 := HR6.out.cell 3
          have f1 := HR6.out.frozen 3
          simp only [rcells, cutTo, List.set_cons_zero, List.set_cons_succ, List.getElem?_cons_succ, List.getElem?_cons_zero] at c0 c1
          have HR7 : Hid (Row (w6.setCell ⟨r, 3, none⟩ (.int .i64 (t : Int))).drew r (rcells (cutTo 2 ks d)) 31) := hid_in (by
            have e := (HR6.out.set_same 3 (.int .i64 (t : Int))).drew
            rw [HZ.out] at e
            have e2 : cutTo 2 ks d = { cutTo 1 ks d with a1 := ⟨d.a1.bs.take t, t⟩ } := by rw [← HTD.out]; rfl
            rw [e2]
            exact e)
          have HG7 : Hid (w.grownBy (w6.setCell ⟨r, 3, none⟩ (.int .i64 (t : Int))).drew (some r)) := hid_in (grownBy_trans HG6.out (grownBy_trans (grownBy_setCell _ _ _) (grown_of_below (Below.refl _ _).drew)))
          clear hXs
          go_region
          go_wp2
          exact ⟨⟨2, by omega, rfl, HR7.out, HG7.out⟩, by simp [intOf]⟩
        · by_cases hgt : Y < k
          · have hg0 : (1 : Int) < (L : Int) := by omega
            have hg1 : (0 : Int) < k := by omega
            have hg2 : Y < k := by omega
            have hT : (t : Int) = (s : Int) + Y := by omega
            have z3 : wrap64 ((s : Int) + Y) = (t : Int) := by rw [← hT]; exact z5
            have z4 : IntKind.i64.wrap ((s : Int) + Y) = (t : Int) := by rw [← hT]; exact z6
            generalize (s : Int) = sI at *
            clear hk0 hc hgt hT hA hY hY0 ht hs hn hlow hL63
            go_upto_region 6 with fail
            go_quiet (fail)
            generalize nq = nq1 at *
            go_upto_region 7 with fail
            go_quiet (fail)
            go_upto_region 8 with fail
            go_region
            go_upto_region 9 with fail
            have hb6 : Below wr.heap.size wr (wr.drewN (nq1 + nq + 1)) := Nd.below_drewN (Below.refl _ _) _
            have HR6 : Hid (Row ((wr.drewN (nq1 + nq + 1)).setCell ⟨r, 1, none⟩ (.string (X.extract 0 t))) r ((rcells (cutTo 1 ks d)).set 1 (.string (X.extract 0 t))) 31) := hid_in ((HROW.out.below hb6 HROW.out.lt).set_same 1 _)
            have HG6 : Hid (w.grownBy ((wr.drewN (nq1 + nq + 1)).setCell ⟨r, 1, none⟩ (.string (X.extract 0 t))) (some r)) := hid_in (grownBy_trans HGR.out (grownBy_trans (grown_of_below hb6) (grownBy_setCell _ _ _)))
            clear hb6 c0 c1 f0 f1
            generalize ((wr.drewN (nq1 + nq + 1)).setCell ⟨r, 1, none⟩ (.string (X.extract 0 t))) = w6 at *
            have hZs : (X.extract 0 t).size = t := by
              show (X.extract 0 t).data.size = t
              have e2 : X.data.size = n := hXs
              simp [ByteArray.data_extract]
              omega
            have HZ : Hid (X.extract 0 t = str (d.a1.bs.take t)) := hid_in (by rw [← HX.out]; exact str_take _ _)
            generalize X.extract 0 t = Z at *
            have c0 := HR6.out.cell 1
            have c1 := HR6.out.cell 3
            have f1 := HR6.out.frozen 3
            simp only [rcells, cutTo, List.set_cons_zero, List.set_cons_succ, List.getElem?_cons_succ, List.getElem?_cons_zero] at c0 c1
            have HR7 : Hid (Row (w6.setCell ⟨r, 3, none⟩ (.int .i64 (t : Int))).drew r (rcells (cutTo 2 ks d)) 31) := hid_in (by
              have e := (HR6.out.set_same 3 (.int .i64 (t : Int))).drew
              rw [HZ.out] at e
              have e2 : cutTo 2 ks d = { cutTo 1 ks d with a1 := ⟨d.a1.bs.take t, t⟩ } := by rw [← HTD.out]; rfl
              rw [e2]
              exact e)
            have HG7 : Hid (w.grownBy (w6.setCell ⟨r, 3, none⟩ (.int .i64 (t : Int))).drew (some r)) := hid_in (grownBy_trans HG6.out (grownBy_trans (grownBy_setCell _ _ _) (grown_of_below (Below.refl _ _).drew)))
            clear hXs
            go_region
            go_wp2
            exact ⟨⟨2, by omega, rfl, HR7.out, HG7.out⟩, by simp [intOf]⟩
          · have hg0 : (1 : Int) < (L : Int) := by omega
            have hg1 : (0 : Int) < k := by omega
            have hg2 : ¬ Y < k := by omega
            have hT : (t : Int) = (s : Int) + k := by omega
            have z3 : wrap64 ((s : Int) + k) = (t : Int) := by rw [← hT]; exact z5
            have z4 : IntKind.i64.wrap ((s : Int) + k) = (t : Int) := by rw [← hT]; exact z6
            generalize (s : Int) = sI at *
            clear hk0 hc hgt hT hA hY hY0 ht hs hn hlow hL63
            go_upto_region 6 with fail
            go_quiet (fail)
            go_upto_region 8 with fail
            go_region
            go_upto_region 9 with fail
            have hb6 : Below wr.heap.size wr (wr.drewN (nq + 1)) := Nd.below_drewN (Below.refl _ _) _
            have HR6 : Hid (Row ((wr.drewN (nq + 1)).setCell ⟨r, 1, none⟩ (.string (X.extract 0 t))) r ((rcells (cutTo 1 ks d)).set 1 (.string (X.extract 0 t))) 31) := hid_in ((HROW.out.below hb6 HROW.out.lt).set_same 1 _)
            have HG6 : Hid (w.grownBy ((wr.drewN (nq + 1)).setCell ⟨r, 1, none⟩ (.string (X.extract 0 t))) (some r)) := hid_in (grownBy_trans HGR.out (grownBy_trans (grown_of_below hb6) (grownBy_setCell _ _ _)))
            clear hb6 c0 c1 f0 f1
            generalize ((wr.drewN (nq + 1)).setCell ⟨r, 1, none⟩ (.string (X.extract 0 t))) = w6 at *
            have hZs : (X.extract 0 t).size = t := by
              show (X.extract 0 t).data.size = t
              have e2 : X.data.size = n := hXs
              simp [ByteArray.data_extract]
              omega
            have HZ : Hid (X.extract 0 t = str (d.a1.bs.take t)) := hid_in (by rw [← HX.out]; exact str_take _ _)
            generalize X.extract 0 t = Z at *
            have c0 := HR6.out.cell 1
            have c1 := HR6.out.cell 3
            have f1 := HR6.out.frozen 3
            simp only [rcells, cutTo, List.set_cons_zero, List.set_cons_succ, List.getElem?_cons_succ, List.getElem?_cons_zero] at c0 c1
            have HR7 : Hid (Row (w6.setCell ⟨r, 3, none⟩ (.int .i64 (t : Int))).drew r (rcells (cutTo 2 ks d)) 31) := hid_in (by
              have e := (HR6.out.set_same 3 (.int .i64 (t : Int))).drew
              rw [HZ.out] at e
              have e2 : cutTo 2 ks d = { cutTo 1 ks d with a1 := ⟨d.a1.bs.take t, t⟩ } := by rw [← HTD.out]; rfl
              rw [e2]
              exact e)
            have HG7 : Hid (w.grownBy (w6.setCell ⟨r, 3, none⟩ (.int .i64 (t : Int))).drew (some r)) := hid_in (grownBy_trans HG6.out (grownBy_trans (grownBy_setCell _ _ _) (grown_of_below (Below.refl _ _).drew)))
            clear hXs
            go_region
            go_wp2
            exact ⟨⟨2, by omega, rfl, HR7.out, HG7.out⟩, by simp [intOf]⟩
      · have hlow : k = 0 := by rw [← HKD.out]; exact HKZ.out 1 (by omega)
        have hk0 : k ≤ 0 := by omega
        have hg0 : ¬ (1 : Int) < (L : Int) := by omega
        have hg2 : ¬ Y < (0 : Int) := by omega
        have hT : (t : Int) = (s : Int) + (0 : Int) := by omega
        have z3 : wrap64 ((s : Int) + (0 : Int)) = (t : Int) := by rw [← hT]; exact z5
        have z4 : IntKind.i64.wrap ((s : Int) + (0 : Int)) = (t : Int) := by rw [← hT]; exact z6
        have z7 : wrap64 (s : Int) = (t : Int) := by rw [show (s : Int) = (t : Int) by omega]; exact z5
        have z8 : IntKind.i64.wrap (s : Int) = (t : Int) := by rw [show (s : Int) = (t : Int) by omega]; exact z6
        generalize (s : Int) = sI at *
        clear hk0 hT hA hY hY0 ht hs hn hlow hL63
        go_upto_region 6 with fail
        go_quiet (fail)
        go_upto_region 8 with fail
        go_region
        go_upto_region 9 with fail
        have hb6 : Below wr.heap.size wr (wr.drewN (nq + 1)) := Nd.below_drewN (Below.refl _ _) _
        have HR6 : Hid (Row ((wr.drewN (nq + 1)).setCell ⟨r, 1, none⟩ (.string (X.extract 0 t))) r ((rcells (cutTo 1 ks d)).set 1 (.string (X.extract 0 t))) 31) := hid_in ((HROW.out.below hb6 HROW.out.lt).set_same 1 _)
        have HG6 : Hid (w.grownBy ((wr.drewN (nq + 1)).setCell ⟨r, 1, none⟩ (.string (X.extract 0 t))) (some r)) := hid_in (grownBy_trans HGR.out (grownBy_trans (grown_of_below hb6) (grownBy_setCell _ _ _)))
        clear hb6 c0 c1 f0 f1
        generalize ((wr.drewN (nq + 1)).setCell ⟨r, 1, none⟩ (.string (X.extract 0 t))) = w6 at *
        have hZs : (X.extract 0 t).size = t := by
          show (X.extract 0 t).data.size = t
          have e2 : X.data.size = n := hXs
          simp [ByteArray.data_extract]
          omega
        have HZ : Hid (X.extract 0 t = str (d.a1.bs.take t)) := hid_in (by rw [← HX.out]; exact str_take _ _)
        generalize X.extract 0 t = Z at *
        have c0 := HR6.out.cell 1
        have c1 := HR6.out.cell 3
        have f1 := HR6.out.frozen 3
        simp only [rcells, cutTo, List.set_cons_zero, List.set_cons_succ, List.getElem?_cons_succ, List.getElem?_cons_zero] at c0 c1
        have HR7 : Hid (Row (w6.setCell ⟨r, 3, none⟩ (.int .i64 (t : Int))).drew r (rcells (cutTo 2 ks d)) 31) := hid_in (by
          have e := (HR6.out.set_same 3 (.int .i64 (t : Int))).drew
          rw [HZ.out] at e
          have e2 : cutTo 2 ks d = { cutTo 1 ks d with a1 := ⟨d.a1.bs.take t, t⟩ } := by rw [← HTD.out]; rfl
          rw [e2]
          exact e)
        have HG7 : Hid (w.grownBy (w6.setCell ⟨r, 3, none⟩ (.int .i64 (t : Int))).drew (some r)) := hid_in (grownBy_trans HG6.out (grownBy_trans (grownBy_setCell _ _ _) (grown_of_below (Below.refl _ _).drew)))
        clear hXs
        go_region
        go_wp2
        exact ⟨⟨2, by omega, rfl, HR7.out, HG7.out⟩, by simp [intOf]⟩
    · obtain rfl : i = 0 := by omega
      obtain ⟨hrow, hgr⟩ := hst.out
      have f5 := hrow.frozen 5
      have f6 := hrow.frozen 6
      have c5 := hrow.cell 5
      have c6 := hrow.cell 6
      simp only [rcells, cutTo, List.getElem?_cons_succ, List.getElem?_cons_zero] at c5 c6
      have HR7 : Hid (Row ((wr.setCell ⟨r, 5, none⟩ (.int .i64 0)).setCell ⟨r, 6, none⟩ (.bool false)) r (rcells (cutD ks d)) 31) := hid_in ((hrow.set_same 5 _).set_same 6 _)
      have HG7 : Hid (w.grownBy ((wr.setCell ⟨r, 5, none⟩ (.int .i64 0)).setCell ⟨r, 6, none⟩ (.bool false)) (some r)) := hid_in (grownBy_trans hgr (grownBy_trans (grownBy_setCell _ _ _) (grownBy_setCell _ _ _)))
      clear hrow hgr hst hi
      go_wp2
      go_end0
      exact ⟨rfl, HR7.out, HG7.out⟩
end Go.Proofs.Ytcdmdmbdgmihfaa.Pt
