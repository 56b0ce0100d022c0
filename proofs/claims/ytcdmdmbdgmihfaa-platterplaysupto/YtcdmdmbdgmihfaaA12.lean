/-
  Does a platter have what the reference has?. How many bytes there are behind a call.
-/
import Derived.Test.YtcdmdmbdgmihfaaA00
import Derived.Test.YtcdmdmbdgmihfaaA01
import Derived.Test.YtcdmdmbdgmihfaaA02
import Derived.Test.YtcdmdmbdgmihfaaA03
import Derived.Test.YtcdmdmbdgmihfaaA04
import Derived.Test.YtcdmdmbdgmihfaaA05
import Derived.Test.YtcdmdmbdgmihfaaA06
import Derived.Test.YtcdmdmbdgmihfaaA07
import Derived.Test.YtcdmdmbdgmihfaaA08
import Derived.Test.YtcdmdmbdgmihfaaA09
import Derived.Test.YtcdmdmbdgmihfaaA10
import Derived.Test.YtcdmdmbdgmihfaaA11
namespace Go.Proofs.Ytcdmdmbdgmihfaa.Pt
open Go.RowKit
open Nd (Row wp_world grownBy_setCell below_of_grown grownBy_trans grown_of_below grownBy_refl u8v Grew Moved Sl hid_in i5h str)
set_option maxHeartbeats 4000000 in
set_option maxRecDepth 100000 in
theorem same_any {w : World} {B g r : Nat} {v0 v1 : Value} {d : Dk} (h : PtV w B g v0 v1 d) (hr : Row w r (rcells d) 31) : Calls Try.prog 12 #[.pointer (some ⟨g, 0, none⟩), .pointer (some ⟨r, 0, none⟩)] w fun e w' => e = .returned (.bool true) ∧ Below w.heap.size w w' := by
  go_enter Try.func12, Try.ntmps12
  go_wp2_with fail
  go_loopw [5] (fun vi W => ∃ i : Nat, i ≤ 2 ∧ vi = .int .i64 (i : Int) ∧ Hid (Below w.heap.size w W)) (fun vi _ => 2 - (intOf vi).toNat)
  case atStart => exact ⟨0, by omega, rfl, hid_in (Below.refl _ _)⟩
  case round =>
    obtain ⟨i, hi, rfl, hst⟩ := hrel
    rcases i with _ | _ | i
    · have HP := hid_in (h.below hst.out)
      have HR := hid_in (hr.below hst.out hr.lt)
      have HRE : Hid (Calls Try.prog 13 #[.pointer (some ⟨g, 0, none⟩), .int .i64 0] wr fun e w' => ∃ v, e = .returned v ∧ w'.ownsRow wr.heap.size 5 1 v d.a0.bs.length (d.a0.bs.map u8v) ∧ Below wr.heap.size wr w') := hid_in (read_any HP.out 0)
      have HSY : Hid (∀ W, Below wr.heap.size wr W → Calls Try.prog 14 #[.pointer (some ⟨g, 0, none⟩), .int .i64 0] W fun e w' => e = .returned (.int .i64 (d.a0.sy : Int)) ∧ w' = W) := hid_in (fun W hW => synced_any (HP.out.below hW) 0)
      have HLT := hid_in h.ok.o0.2
      go_upto_region 5 with (first | (go_at_call 13; refine HRE.out.mono ?_; rintro e w2 ⟨v2, rfl, ho2, hb2⟩; have HO2 := hid_in ho2; have HB2 := hid_in hb2; clear ho2 hb2))
      obtain ⟨p2, c2, b2, hv2, hsl2, hno2⟩ := Nd.own_sl HLT.out.1 HO2.out
      subst hv2
      have HCV : Hid (∀ W, Below w2.heap.size w2 W → (convert 34 9 (.slice p2 d.a0.bs.length c2)).run Try.prog W = .ok (.string (str d.a0.bs)) W) := hid_in (fun W hW => Nd.conv_sl (hsl2.below hW))
      have HR2 := hid_in (HR.out.below HB2.out HR.out.lt)
      have c0 := HR2.out.cell 0
      have c1 := HR2.out.cell 2
      simp only [rcells, List.getElem?_cons_succ, List.getElem?_cons_zero] at c0 c1
      have hcn : ∀ m, (convert 34 9 (.slice p2 d.a0.bs.length c2)).run Try.prog (w2.drewN m) = .ok (.string (str d.a0.bs)) (w2.drewN m) := fun m => HCV.out _ (Nd.below_drewN (Below.refl _ _) m)
      have HS2 : Hid (∀ m, Calls Try.prog 14 #[.pointer (some ⟨g, 0, none⟩), .int .i64 0] (w2.drewN m) fun e w' => e = .returned (.int .i64 (d.a0.sy : Int)) ∧ w' = w2.drewN m) := hid_in (fun m => HSY.out _ (HB2.out.trans ((Nd.below_drewN (Below.refl _ _) m).mono HB2.out.size)))
      have HBW := hid_in (hst.out.trans (HB2.out.mono hst.out.size))
      have HGE : Hid (w.heap.size ≤ wr.heap.size) := hid_in hst.out.size
      have hnl := HLT.out.2
      generalize str d.a0.bs = X at *
      generalize (d.a0.sy : Int) = sI at *
      generalize d.a0.bs.length = m at *
      have HMB := hid_in hnl
      clear hsl2 hno2 hnl
      go_quiet (first | (go_at_call 14; refine Calls.quiet_of_same (HS2.out _)))
      generalize hwq : w2.drewN nq = w4 at *
      have HB4 : Hid (Below w2.heap.size w2 w4) := hid_in (by rw [← hwq]; exact Nd.below_drewN (Below.refl _ _) _)
      have HO4 := hid_in (own_keepG HO2.out (Grew.of_below (fun _ => False) HB4.out) (fun _ _ e => e))
      have HBW4 := hid_in (HBW.out.trans (HB4.out.mono HBW.out.size))
      have HMC : Hid (m ≤ c2) := hid_in (by
        obtain ⟨p', c', e1, -, e3⟩ := own_some HO4.out
        cases e1
        exact e3)
      have HF : Hid (m = 0 ∨ ∃ q, p2 = some ⟨q, 0, none⟩ ∧ w.heap.size ≤ q ∧ Fil w4 q c2 w4) := hid_in (by
        rcases Nat.eq_zero_or_pos m with h0 | h0
        · exact .inl h0
        · obtain ⟨q, cap', vs, e1, e2, e3, e4, e5, e6, e7, e8⟩ := Nd.own_row HO4.out h0
          cases e1
          exact .inr ⟨q, rfl, Nat.le_trans HGE.out e2, vs, e4, e7, grownBy_refl _ _⟩)
      clear hwq hcn c0 c1
      go_wp2_with fail
      go_loopw [7] (fun vi W => ∃ i : Nat, i ≤ m ∧ vi = .int .i64 (i : Int) ∧ Hid ((m = 0 ∧ W = w4) ∨ ∃ q, p2 = some ⟨q, 0, none⟩ ∧ w.heap.size ≤ q ∧ Fil w4 q c2 W)) (fun vi _ => m - (intOf vi).toNat)
      case atStart =>
        refine ⟨0, by omega, rfl, hid_in ?_⟩
        rcases HF.out with h0 | h0
        · exact .inl ⟨h0, rfl⟩
        · exact .inr h0
      case round =>
        obtain ⟨i, hi, rfl, hst⟩ := hrel
        by_cases hlt : i < m
        · obtain ⟨q, hq, hq1, hf⟩ : ∃ q, p2 = some ⟨q, 0, none⟩ ∧ w.heap.size ≤ q ∧ Fil w4 q c2 wr := by
            rcases hst.out with ⟨h0, -⟩ | h0
            · omega
            · exact h0
          subst hq
          obtain ⟨u, hu1, hu2⟩ := hf.some (j := i) (by have := HMC.out; omega)
          have HN : Hid ((m = 0 ∧ wr.setCell ⟨q, i, none⟩ (.int .u8 238) = w4) ∨ ∃ q', some (⟨q, 0, none⟩ : Addr) = some ⟨q', 0, none⟩ ∧ w.heap.size ≤ q' ∧ Fil w4 q' c2 (wr.setCell ⟨q, i, none⟩ (.int .u8 238))) := hid_in (.inr ⟨q, rfl, hq1, hf.set i _⟩)
          have HIM := hid_in hlt
          have hlt2 : (i : Int) < (m : Int) := by omega
          have hmb : (m : Int) ≤ 9223372036854775807 := by have := HMB.out; omega
          clear hst hf hlt hi hq1
          go_wp2_with fail
          exact ⟨⟨i + 1, by have := HIM.out; omega, by go_num, HN.out⟩, by have := HIM.out; simp [intOf]; omega⟩
        · obtain rfl : i = m := by omega
          have HE : Hid (Below w.heap.size w wr) := hid_in (by
            rcases hst.out with ⟨h0, rfl⟩ | ⟨q, -, hq1, vs, hf1, hf2, hf3⟩
            · exact HBW4.out
            · exact below_of_grown HBW4.out hf3 HBW4.out.size hq1)
          clear hst hi hlt
          go_wp2_with fail
          exact ⟨⟨1, by omega, rfl, HE.out⟩, by simp [intOf]⟩
    · have HP := hid_in (h.below hst.out)
      have HR := hid_in (hr.below hst.out hr.lt)
      have HRE : Hid (Calls Try.prog 13 #[.pointer (some ⟨g, 0, none⟩), .int .i64 1] wr fun e w' => ∃ v, e = .returned v ∧ w'.ownsRow wr.heap.size 5 1 v d.a1.bs.length (d.a1.bs.map u8v) ∧ Below wr.heap.size wr w') := hid_in (read_any HP.out 1)
      have HSY : Hid (∀ W, Below wr.heap.size wr W → Calls Try.prog 14 #[.pointer (some ⟨g, 0, none⟩), .int .i64 1] W fun e w' => e = .returned (.int .i64 (d.a1.sy : Int)) ∧ w' = W) := hid_in (fun W hW => synced_any (HP.out.below hW) 1)
      have HLT := hid_in h.ok.o1.2
      go_upto_region 5 with (first | (go_at_call 13; refine HRE.out.mono ?_; rintro e w2 ⟨v2, rfl, ho2, hb2⟩; have HO2 := hid_in ho2; have HB2 := hid_in hb2; clear ho2 hb2))
      obtain ⟨p2, c2, b2, hv2, hsl2, hno2⟩ := Nd.own_sl HLT.out.1 HO2.out
      subst hv2
      have HCV : Hid (∀ W, Below w2.heap.size w2 W → (convert 34 9 (.slice p2 d.a1.bs.length c2)).run Try.prog W = .ok (.string (str d.a1.bs)) W) := hid_in (fun W hW => Nd.conv_sl (hsl2.below hW))
      have HR2 := hid_in (HR.out.below HB2.out HR.out.lt)
      have c0 := HR2.out.cell 1
      have c1 := HR2.out.cell 3
      simp only [rcells, List.getElem?_cons_succ, List.getElem?_cons_zero] at c0 c1
      have hcn : ∀ m, (convert 34 9 (.slice p2 d.a1.bs.length c2)).run Try.prog (w2.drewN m) = .ok (.string (str d.a1.bs)) (w2.drewN m) := fun m => HCV.out _ (Nd.below_drewN (Below.refl _ _) m)
      have HS2 : Hid (∀ m, Calls Try.prog 14 #[.pointer (some ⟨g, 0, none⟩), .int .i64 1] (w2.drewN m) fun e w' => e = .returned (.int .i64 (d.a1.sy : Int)) ∧ w' = w2.drewN m) := hid_in (fun m => HSY.out _ (HB2.out.trans ((Nd.below_drewN (Below.refl _ _) m).mono HB2.out.size)))
      have HBW := hid_in (hst.out.trans (HB2.out.mono hst.out.size))
      have HGE : Hid (w.heap.size ≤ wr.heap.size) := hid_in hst.out.size
      have hnl := HLT.out.2
      generalize str d.a1.bs = X at *
      generalize (d.a1.sy : Int) = sI at *
      generalize d.a1.bs.length = m at *
      have HMB := hid_in hnl
      clear hsl2 hno2 hnl
      go_quiet (first | (go_at_call 14; refine Calls.quiet_of_same (HS2.out _)))
      generalize hwq : w2.drewN nq = w4 at *
      have HB4 : Hid (Below w2.heap.size w2 w4) := hid_in (by rw [← hwq]; exact Nd.below_drewN (Below.refl _ _) _)
      have HO4 := hid_in (own_keepG HO2.out (Grew.of_below (fun _ => False) HB4.out) (fun _ _ e => e))
      have HBW4 := hid_in (HBW.out.trans (HB4.out.mono HBW.out.size))
      have HMC : Hid (m ≤ c2) := hid_in (by
        obtain ⟨p', c', e1, -, e3⟩ := own_some HO4.out
        cases e1
        exact e3)
      have HF : Hid (m = 0 ∨ ∃ q, p2 = some ⟨q, 0, none⟩ ∧ w.heap.size ≤ q ∧ Fil w4 q c2 w4) := hid_in (by
        rcases Nat.eq_zero_or_pos m with h0 | h0
        · exact .inl h0
        · obtain ⟨q, cap', vs, e1, e2, e3, e4, e5, e6, e7, e8⟩ := Nd.own_row HO4.out h0
          cases e1
          exact .inr ⟨q, rfl, Nat.le_trans HGE.out e2, vs, e4, e7, grownBy_refl _ _⟩)
      clear hwq hcn c0 c1
      go_wp2_with fail
      go_loopw [7] (fun vi W => ∃ i : Nat, i ≤ m ∧ vi = .int .i64 (i : Int) ∧ Hid ((m = 0 ∧ W = w4) ∨ ∃ q, p2 = some ⟨q, 0, none⟩ ∧ w.heap.size ≤ q ∧ Fil w4 q c2 W)) (fun vi _ => m - (intOf vi).toNat)
      case atStart =>
        refine ⟨0, by omega, rfl, hid_in ?_⟩
        rcases HF.out with h0 | h0
        · exact .inl ⟨h0, rfl⟩
        · exact .inr h0
      case round =>
        obtain ⟨i, hi, rfl, hst⟩ := hrel
        by_cases hlt : i < m
        · obtain ⟨q, hq, hq1, hf⟩ : ∃ q, p2 = some ⟨q, 0, none⟩ ∧ w.heap.size ≤ q ∧ Fil w4 q c2 wr := by
            rcases hst.out with ⟨h0, -⟩ | h0
            · omega
            · exact h0
          subst hq
          obtain ⟨u, hu1, hu2⟩ := hf.some (j := i) (by have := HMC.out; omega)
          have HN : Hid ((m = 0 ∧ wr.setCell ⟨q, i, none⟩ (.int .u8 238) = w4) ∨ ∃ q', some (⟨q, 0, none⟩ : Addr) = some ⟨q', 0, none⟩ ∧ w.heap.size ≤ q' ∧ Fil w4 q' c2 (wr.setCell ⟨q, i, none⟩ (.int .u8 238))) := hid_in (.inr ⟨q, rfl, hq1, hf.set i _⟩)
          have HIM := hid_in hlt
          have hlt2 : (i : Int) < (m : Int) := by omega
          have hmb : (m : Int) ≤ 9223372036854775807 := by have := HMB.out; omega
          clear hst hf hlt hi hq1
          go_wp2_with fail
          exact ⟨⟨i + 1, by have := HIM.out; omega, by go_num, HN.out⟩, by have := HIM.out; simp [intOf]; omega⟩
        · obtain rfl : i = m := by omega
          have HE : Hid (Below w.heap.size w wr) := hid_in (by
            rcases hst.out with ⟨h0, rfl⟩ | ⟨q, -, hq1, vs, hf1, hf2, hf3⟩
            · exact HBW4.out
            · exact below_of_grown HBW4.out hf3 HBW4.out.size hq1)
          clear hst hi hlt
          go_wp2_with fail
          exact ⟨⟨2, by omega, rfl, HE.out⟩, by simp [intOf]⟩
    · obtain rfl : i = 0 := by omega
      have HP := hid_in (h.below hst.out)
      have HR := hid_in (hr.below hst.out hr.lt)
      have c4 := HR.out.cell 4
      have c6 := HR.out.cell 6
      simp only [rcells, List.getElem?_cons_succ, List.getElem?_cons_zero] at c4 c6
      have H20 : Hid (∀ m, Calls Try.prog 20 #[.pointer (some ⟨g, 0, none⟩)] (wr.drewN m) fun e w' => e = .returned (.int .i64 (liv d.live)) ∧ w' = wr.drewN m) := hid_in (fun m => live_any (HP.out.below (Nd.below_drewN (Below.refl _ _) m)))
      have H16 : Hid (∀ m, Calls Try.prog 16 #[.pointer (some ⟨g, 0, none⟩)] (wr.drewN m) fun e w' => e = .returned (.bool d.down) ∧ w' = wr.drewN m) := hid_in (fun m => down_any (HP.out.below (Nd.below_drewN (Below.refl _ _) m)))
      have HBB : Hid (∀ m, Below w.heap.size w (wr.drewN m)) := hid_in (fun m => Nd.below_drewN hst.out m)
      generalize liv d.live = l at *
      generalize d.down = dn at *
      clear hi hst
      go_upto_region 11 with fail
      go_quiet (first | (go_at_call 20; refine Calls.quiet_of_same (H20.out _)) | (go_at_call 16; refine Calls.quiet_of_same (H16.out _)))
      go_wp2_with fail
      go_ret
      exact ⟨rfl, HBB.out _⟩
end Go.Proofs.Ytcdmdmbdgmihfaa.Pt
namespace Go.Proofs.Ytcdmdmbdgmihfaa.Pt
open Go.RowKit
open Nd (take_put Row wp_world grownBy_setCell below_of_grown grownBy_trans grown_of_below grownBy_refl u8v Grew Moved Sl hid_in i5h str)
theorem info37 : (Try.prog.info? 37).map (·.size) = some 5 := by kernel_rfl
theorem setAr_len (a : Int) (x : Ar) (d : Dk) : (setAr a x d).a0.bs.length ≤ max d.a0.bs.length x.bs.length ∧ (setAr a x d).a1.bs.length ≤ max d.a1.bs.length x.bs.length := by
  unfold setAr
  split <;> simp <;> omega
theorem arOf_len (a : Int) (d : Dk) : (arOf a d).bs.length ≤ max d.a0.bs.length d.a1.bs.length := by
  unfold arOf
  split <;> omega
theorem begD_0 (k a : Int) (d : Dk) : (begD k a d).a0 = d.a0 := by unfold begD; split; exact spendD_0 d; rfl
theorem begD_1 (k a : Int) (d : Dk) : (begD k a d).a1 = d.a1 := by unfold begD; split; exact spendD_1 d; rfl
/-- how many bytes there are -/
def mx (d : Dk) : Nat := max d.a0.bs.length d.a1.bs.length
theorem mx_set {a : Int} {x : Ar} {d : Dk} {N : Nat} (h : mx d ≤ N) (hx : x.bs.length ≤ N) : mx (setAr a x d) ≤ N := by
  have := setAr_len a x d
  unfold mx at *
  omega
theorem mx_beg {k a : Int} {d : Dk} : mx (begD k a d) = mx d := by
  unfold mx
  rw [begD_0, begD_1]
theorem mx_ar {a : Int} {d : Dk} : (arOf a d).bs.length ≤ mx d := arOf_len a d
theorem cutAr_len (k : Int) (x : Ar) : (cutAr k x).bs.length ≤ x.bs.length := by
  show (x.bs.take _).length ≤ _
  rw [List.length_take]
  omega
theorem mx_do (m a : Int) (xs : List Nat) (n : Int) (ks : List Int) (d : Dk) : mx (doD m a xs n ks d) ≤ mx d + xs.length := by
  have har := mx_ar (a := a) (d := d)
  unfold doD
  split
  · unfold appD
    split
    · have e : mx (spendD (setAr a ⟨(arOf a d).bs ++ xs, (arOf a d).sy⟩ d)) = mx (setAr a ⟨(arOf a d).bs ++ xs, (arOf a d).sy⟩ d) := by
        unfold mx
        rw [spendD_0, spendD_1]
      rw [e]
      exact mx_set (by omega) (by rw [List.length_append]; omega)
    · omega
  · split
    · unfold synD
      split
      · exact mx_set (by rw [mx_beg]; omega) (by simp only; omega)
      · rw [mx_beg]; omega
    · split
      · unfold wipD
        split
        · exact mx_set (by rw [mx_beg]; omega) (by simp)
        · rw [mx_beg]; omega
      · split
        · unfold fliD
          split
          · have e := mx_beg (k := 3) (a := oth d) (d := d)
            unfold mx at *
            simp only at *
            omega
          · rw [mx_beg]; omega
        · split
          · unfold armD
            split
            · omega
            · unfold mx; simp only; omega
          · have h0 := cutAr_len (ks.getD 0 0) d.a0
            have h1 := cutAr_len (ks.getD 1 0) d.a1
            unfold cutD mx
            simp only
            omega
/-- both between two calls -/
def Pl (a : World) (g r N : Nat) (W : World) : Prop := ∃ d, (∃ v0 v1, PtV W a.heap.size g v0 v1 d) ∧ Row W r (rcells d) 31 ∧ Below a.heap.size a W ∧ mx d ≤ N
end Go.Proofs.Ytcdmdmbdgmihfaa.Pt
