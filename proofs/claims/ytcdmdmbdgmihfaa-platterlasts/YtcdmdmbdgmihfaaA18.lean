/-
  The walk of PlatterLasts.
-/
import Derived.Test.YtcdmdmbdgmihfaaA00
import Derived.Test.YtcdmdmbdgmihfaaA01
import Derived.Test.YtcdmdmbdgmihfaaA02
import Derived.Test.YtcdmdmbdgmihfaaA03
import Derived.Test.YtcdmdmbdgmihfaaA04
import Derived.Test.YtcdmdmbdgmihfaaA05
import Derived.Test.YtcdmdmbdgmihfaaA06
import Derived.Test.YtcdmdmbdgmihfaaA07
import Derived.Test.YtcdmdmbdgmihfaaA08
import Derived.Test.YtcdmdmbdgmihfaaA09
import Derived.Test.YtcdmdmbdgmihfaaA10
import Derived.Test.YtcdmdmbdgmihfaaA11
import Derived.Test.YtcdmdmbdgmihfaaA12
import Derived.Test.YtcdmdmbdgmihfaaA14
import Derived.Test.YtcdmdmbdgmihfaaA17
namespace Go.Proofs.Ytcdmdmbdgmihfaa.Pt
open Go.RowKit
open Nd (Row wp_world grownBy_setCell below_of_grown grownBy_trans grown_of_below grownBy_refl u8v Grew Moved Sl hid_in i5h str)
/-- within the loop -/
def La (a : World) (g N : Nat) (all : ByteArray) (sure : Int) (W : World) : Prop := ∃ d, Pq a W g d ∧ str d.a0.bs = all ∧ (d.a0.sy : Int) = sure ∧ d.live = false ∧ d.a0.bs.length ≤ N
theorem app_0 {d : Dk} (xs : List Nat) (hd : d.down = false) : appD 0 xs d = spendD (setAr 0 ⟨d.a0.bs ++ xs, d.a0.sy⟩ d) := by
  simp [appD, refE, isA, hd, arOf]
theorem app_0a {d : Dk} (xs : List Nat) (hd : d.down = false) : (appD 0 xs d).a0 = ⟨d.a0.bs ++ xs, d.a0.sy⟩ := by
  rw [app_0 xs hd, spendD_0]
  rfl
theorem app_0l {d : Dk} (xs : List Nat) (hd : d.down = false) : (appD 0 xs d).live = d.live := by
  rw [app_0 xs hd, spendD_l]
  rfl
theorem begD_l (k a : Int) (d : Dk) : (begD k a d).live = d.live := by unfold begD; split; exact spendD_l d; rfl
theorem syn_l (d : Dk) : (synD 0 d).live = d.live := by
  unfold synD
  split
  · show (begD 1 0 d).live = d.live
    exact begD_l 1 0 d
  · exact begD_l 1 0 d
theorem syn_yes {d : Dk} (h : begE 1 0 d = 0) : (synD 0 d).a0 = ⟨d.a0.bs, d.a0.bs.length⟩ := by
  unfold synD
  rw [if_pos h]
  rfl
theorem syn_no {d : Dk} (h : ¬ begE 1 0 d = 0) : (synD 0 d).a0 = d.a0 := by
  unfold synD
  rw [if_neg h]
  exact begD_0 1 0 d
theorem cutN_int (k : Int) (x : Ar) (h : x.ok) : ((cutN k x : Nat) : Int) = (x.sy : Int) + min (max k 0) ((x.bs.length : Int) - (x.sy : Int)) := by
  have h1 := h.1
  unfold cutN
  generalize x.sy = s at *
  generalize x.bs.length = n at *
  clear h
  rcases Int.lt_or_le k 0 with hk | hk
  · rw [Int.max_eq_right (by omega), Int.min_eq_left (by omega)]
    omega
  · rw [Int.max_eq_left hk]
    rcases Int.lt_or_le k ((n : Int) - (s : Int)) with hy | hy
    · rw [Int.min_eq_left (by omega)]
      omega
    · rw [Int.min_eq_right hy]
      omega
set_option maxHeartbeats 8000000 in
set_option maxRecDepth 100000 in
theorem lasts_any (a : World) (v0 v1 : Value) (ps : List (List Nat)) (bs : List Bool) (calls keep : Int) (hp : Pcs a v0 ps) (hb : Bls a v1 bs) (hc : calls ≤ 9223372036854775807) :
    Calls Try.prog 4 #[v0, v1, .int .i64 calls, .int .i64 keep] a fun e w' => e = .returned (.bool true) ∧ Below a.heap.size a w' := by
  have HAW := hid_in (awake_any a)
  have HNW := hid_in (fun (w : World) (h : Below a.heap.size a w) => new_q h)
  have HARM := hid_in (fun (w : World) g (h : Pq a w g newD) => arm_q h calls hc)
  obtain ⟨p0, c0, b0, o0, rfl, hl0, hp0, hq0⟩ := hp
  obtain ⟨p1, c1, b1, o1, rfl, hl1, hp1, hq1⟩ := hb
  have HP0 := hid_in hp0
  have HQ0 := hid_in hq0
  have HP1 := hid_in hp1
  have HQ1 := hid_in hq1
  have hM0 : (ps.length : Int) ≤ 9223372036854775807 := by omega
  have hM1 : (bs.length : Int) ≤ 9223372036854775807 := by omega
  have HPN : Hid (∀ i, i < ps.length → ps ≠ []) := hid_in (fun i hi e => by rw [e] at hi; simp at hi)
  have HBN : Hid (∀ i, i < bs.length → bs ≠ []) := hid_in (fun i hi e => by rw [e] at hi; simp at hi)
  have HPG : Hid (∀ i, i < ps.length → ∃ xs, ps[i]? = some xs) := hid_in (fun i hi => ⟨_, List.getElem?_eq_getElem hi⟩)
  have HBG : Hid (∀ i, i < bs.length → ∃ x, bs[i]? = some x) := hid_in (fun i hi => ⟨_, List.getElem?_eq_getElem hi⟩)
  generalize ps.length = L0 at *
  generalize bs.length = L1 at *
  clear hp0 hp1 hq0 hq1 hl0 hl1 hc
  go_enter Try.func4, Try.ntmps4
  go_upto_region 3 with (first | (go_at_call 7; refine HAW.out.mono ?_; rintro e w1 ⟨rfl, hb1⟩; have HB1 := hid_in hb1; clear hb1))
  go_upto_region 6 with (first | (go_at_call 9; refine (HNW.out _ HB1.out).mono ?_; rintro e w2 ⟨g, rfl, q2⟩; have Q2 := hid_in q2; clear q2))
  go_upto_region 7 with (first | (go_at_call 15; refine (HARM.out _ _ Q2.out).mono ?_; rintro e w3 ⟨rfl, q3⟩; have Q3 := hid_in q3; clear q3))
  have HST : Hid (La a g 0 ⟨#[]⟩ 0 w3) := hid_in ⟨_, Q3.out, rfl, rfl, rfl, Nat.le_refl _⟩
  clear Q3 Q2 HB1
  go_wp2_with fail
  go_loopw [12, 10, 11] (fun vi va vs W => ∃ (i : Nat) (X : ByteArray) (sure : Int), i ≤ 60 ∧ i ≤ L0 ∧ vi = .int .i64 (i : Int) ∧ va = .string X ∧ vs = .int .i64 sure ∧ Hid (La a g (i * 1000) X sure W)) (fun vi _ _ _ => 60 - (intOf vi).toNat)
  case atStart => exact ⟨0, ⟨#[]⟩, 0, by omega, by omega, rfl, rfl, rfl, HST.out⟩
  case round =>
    obtain ⟨i, X, sure, hi6, hiL, rfl, rfl, rfl, hst⟩ := hrel
    obtain ⟨d, hpq, hX, hs, hlv, hlen⟩ := hst.out
    have HDW := hid_in (down_q hpq)
    subst hX hs
    by_cases hlt : i < L0 ∧ i < 60
    · have hj1 : (i : Int) < (L0 : Int) := by omega
      have hj2 : (i : Int) < 60 := by omega
      by_cases hd : d.down = true
      · rw [hd] at HDW
        clear hst hlen hd hi6 hiL hlt
        obtain ⟨X, HX⟩ : ∃ X, Hid (str d.a0.bs = X) := ⟨_, hid_in rfl⟩
        obtain ⟨t, HTD⟩ : ∃ t, Hid (cutN keep d.a0 = t) := ⟨_, hid_in rfl⟩
        obtain ⟨A1, HA1⟩ : ∃ A, Hid (cutAr 0 d.a1 = A) := ⟨_, hid_in rfl⟩
        have hok := hpq.2.elim (fun _ h => h.elim (fun _ h => h.ok.o0))
        have htl := cutN_le (k := keep) hok
        have hs0 := hok.1
        have hn0 := hok.2.2
        rw [HTD.out] at htl
        have HZL : Hid ((d.a0.bs.take t).length = t) := hid_in (by rw [List.length_take]; omega)
        have e1 : cutD [keep] d = ⟨⟨d.a0.bs.take t, (d.a0.bs.take t).length⟩, A1, false, false, 0⟩ := by
          unfold cutD cutAr
          simp only [List.getD_cons_zero, List.getD_cons_succ, List.getD_nil]
          rw [HZL.out, ← HTD.out, ← HA1.out, hlv]
          rfl
        have HC1 : Hid (Calls Try.prog 19 #[.pointer (some ⟨g, 0, none⟩), .slice (some ⟨wr.heap.size, 0, none⟩) 1 1] (wr.alloc (.cells #[.int .i64 keep] 3)) fun e w' => e = .returned (.tuple #[]) ∧ Pq a w' g ⟨⟨d.a0.bs.take t, (d.a0.bs.take t).length⟩, A1, false, false, 0⟩) := hid_in (by rw [← e1]; exact cut_q1 hpq keep)
        have e2 : cutD [] (⟨⟨d.a0.bs.take t, (d.a0.bs.take t).length⟩, A1, false, false, 0⟩ : Dk) = ⟨⟨d.a0.bs.take t, (d.a0.bs.take t).length⟩, cutAr 0 A1, false, false, 0⟩ := by
          unfold cutD
          simp only [cutAr_all, List.getD_nil]
        obtain ⟨A2, HA2⟩ : ∃ A, Hid (cutAr 0 A1 = A) := ⟨_, hid_in rfl⟩
        rw [HA2.out] at e2
        have HC2 : Hid (∀ W, Pq a W g ⟨⟨d.a0.bs.take t, (d.a0.bs.take t).length⟩, A1, false, false, 0⟩ → Calls Try.prog 19 #[.pointer (some ⟨g, 0, none⟩), .slice none 0 0] W fun e w' => e = .returned (.tuple #[]) ∧ Pq a w' g ⟨⟨d.a0.bs.take t, (d.a0.bs.take t).length⟩, A2, false, false, 0⟩) := hid_in (fun W hW => by rw [← e2]; exact cut_q0 hW)
        have HD1 : Hid (∀ W, Pq a W g ⟨⟨d.a0.bs.take t, (d.a0.bs.take t).length⟩, A1, false, false, 0⟩ → Calls Try.prog 13 #[.pointer (some ⟨g, 0, none⟩), .int .i64 0] W fun e w' => (∃ p c, e = .returned (.slice p (d.a0.bs.take t).length c) ∧ ∀ W', Below w'.heap.size w' W' → (convert 34 9 (.slice p (d.a0.bs.take t).length c)).run Try.prog W' = .ok (.string (str (d.a0.bs.take t))) W') ∧ Pq a w' g ⟨⟨d.a0.bs.take t, (d.a0.bs.take t).length⟩, A1, false, false, 0⟩) := hid_in (fun W hW => read_q hW 0)
        have HD2 : Hid (∀ W, Pq a W g ⟨⟨d.a0.bs.take t, (d.a0.bs.take t).length⟩, A2, false, false, 0⟩ → Calls Try.prog 13 #[.pointer (some ⟨g, 0, none⟩), .int .i64 0] W fun e w' => (∃ p c, e = .returned (.slice p (d.a0.bs.take t).length c) ∧ ∀ W', Below w'.heap.size w' W' → (convert 34 9 (.slice p (d.a0.bs.take t).length c)).run Try.prog W' = .ok (.string (str (d.a0.bs.take t))) W') ∧ Pq a w' g ⟨⟨d.a0.bs.take t, (d.a0.bs.take t).length⟩, A2, false, false, 0⟩) := hid_in (fun W hW => read_q hW 0)
        have HSY : Hid (∀ W, Pq a W g ⟨⟨d.a0.bs.take t, (d.a0.bs.take t).length⟩, A1, false, false, 0⟩ → Calls Try.prog 14 #[.pointer (some ⟨g, 0, none⟩), .int .i64 0] W fun e w' => e = .returned (.int .i64 ((d.a0.bs.take t).length : Int)) ∧ w' = W) := hid_in (fun W hW => synced_q hW 0)
        have HDN : Hid (∀ W, Pq a W g ⟨⟨d.a0.bs.take t, (d.a0.bs.take t).length⟩, A1, false, false, 0⟩ → Calls Try.prog 16 #[.pointer (some ⟨g, 0, none⟩)] W fun e w' => e = .returned (.bool false) ∧ w' = W) := hid_in (fun W hW => down_q hW)
        have HLV : Hid (∀ W, Pq a W g ⟨⟨d.a0.bs.take t, (d.a0.bs.take t).length⟩, A2, false, false, 0⟩ → Calls Try.prog 20 #[.pointer (some ⟨g, 0, none⟩)] W fun e w' => e = .returned (.int .i64 0) ∧ w' = W) := hid_in (fun W hW => live_q hW)
        have HPQ := hid_in hpq
        have HTK : Hid (X.extract 0 t = str (d.a0.bs.take t)) := hid_in (by rw [← HX.out]; exact str_take _ _)
        have hXs : X.size = d.a0.bs.length := by rw [← HX.out]; exact Nd.str_size _
        have hZs : (str (d.a0.bs.take t)).size = t := by rw [Nd.str_size]; exact HZL.out
        have HTI := hid_in (cutN_int keep d.a0 hok)
        rw [HTD.out] at HTI
        rw [HX.out]
        clear e1 e2 hok HTD HA1 HA2 HX hpq hlv
        rw [HZL.out] at HC1 HC2 HD1 HD2 HSY HDN HLV
        generalize (⟨⟨d.a0.bs.take t, t⟩, A1, false, false, 0⟩ : Dk) = E1 at *
        generalize (⟨⟨d.a0.bs.take t, t⟩, A2, false, false, 0⟩ : Dk) = E2 at *
        generalize str (d.a0.bs.take t) = Z at *
        obtain ⟨MK, HMK⟩ : ∃ m, Hid (max keep 0 = m) := ⟨_, hid_in rfl⟩
        obtain ⟨Y, HY⟩ : ∃ y : Int, Hid ((d.a0.bs.length : Int) - (d.a0.sy : Int) = y) := ⟨_, hid_in rfl⟩
        obtain ⟨NN, HNN2⟩ : ∃ m, Hid (min MK Y = m) := ⟨_, hid_in rfl⟩
        rw [HMK.out, HY.out, HNN2.out] at HTI
        have hTN : (t : Int) = (d.a0.sy : Int) + NN := HTI.out
        clear HTI
        generalize d.a0.sy = s at *
        generalize d.a0.bs.length = n0 at *
        have z1 : wrap64 ((n0 : Int) - (s : Int)) = Y := by have := HY.out; unfold wrap64; omega
        have z2 : IntKind.i64.wrap ((n0 : Int) - (s : Int)) = Y := by have := HY.out; rw [IntKind.wrap_i64]; omega
        have z3 : wrap64 ((s : Int) + NN) = (t : Int) := by rw [← hTN]; unfold wrap64; omega
        have z4 : IntKind.i64.wrap ((s : Int) + NN) = (t : Int) := by rw [← hTN, IntKind.wrap_i64]; omega
        have htn : (t : Int) ≤ (n0 : Int) := by omega
        have hy0 : ¬ Y < 0 := by have := HY.out; omega
        have hNC : (keep < 0 ∧ NN = 0) ∨ (¬ keep < 0 ∧ Y < keep ∧ NN = Y) ∨ (¬ keep < 0 ∧ ¬ Y < keep ∧ NN = keep) := by
          have h1 := HMK.out
          have h3 := HNN2.out
          rcases Int.lt_or_le keep 0 with hk | hk
          · rw [Int.max_eq_right (by omega)] at h1
            subst h1
            rw [Int.min_eq_left (by omega)] at h3
            exact .inl ⟨hk, h3.symm⟩
          · rw [Int.max_eq_left hk] at h1
            subst h1
            rcases Int.lt_or_le Y keep with hy | hy
            · rw [Int.min_eq_right (by omega)] at h3
              exact .inr (.inl ⟨by omega, hy, h3.symm⟩)
            · rw [Int.min_eq_left hy] at h3
              exact .inr (.inr ⟨by omega, by omega, h3.symm⟩)
        generalize (s : Int) = sI at *
        clear hTN hs0 hn0 htl HY HMK HNN2
        have hid := True.intro
        rcases hNC with ⟨hk, rfl⟩ | ⟨hk, hy, rfl⟩ | ⟨hk, hy, rfl⟩
        · have z5 : wrap64 sI = (t : Int) := by rw [← z3, Int.add_zero]
          have z6 : IntKind.i64.wrap sI = (t : Int) := by rw [← z4, Int.add_zero]
          go_upto_region 18 with (first | (go_at_call 16; refine HDW.out.mono ?_; rintro e w4 ⟨rfl, rfl⟩))
          go_upto_region 19 with (first | (go_at_call 19; refine HC1.out.mono ?_; rintro e w5 ⟨rfl, h5⟩; have H5 := hid_in h5; clear h5))
          go_upto_region 20 with (first | (go_at_call 13; refine (HD1.out _ H5.out).mono ?_; rintro e w6 ⟨⟨p6, c6, rfl, hcv⟩, h6⟩; have H6 := hid_in h6; have hc6 := hcv w6 (Below.refl _ _); clear h6 hcv))
          go_upto_region 21 with fail
          have htk := HTK.out
          go_upto_region 23 with (first | (go_at_call 14; refine (HSY.out _ H6.out).mono ?_; rintro e w7 ⟨rfl, rfl⟩) | (go_at_call 16; refine (HDN.out _ H6.out).mono ?_; rintro e w8 ⟨rfl, rfl⟩))
          go_upto_region 24 with (first | (go_at_call 19; refine (HC2.out _ H6.out).mono ?_; rintro e w9 ⟨rfl, h9⟩; have H9 := hid_in h9; clear h9))
          go_wp2_with (first | (go_at_call 13; refine (HD2.out _ H9.out).mono ?_; rintro e w10 ⟨⟨p10, c10, rfl, hcv⟩, h10⟩; have H10 := hid_in h10; have hc10 := hcv w10 (Below.refl _ _); clear h10 hcv) | (go_at_call 20; refine (HLV.out _ H10.out).mono ?_; rintro e w11 ⟨rfl, rfl⟩))
          go_ret
          exact ⟨rfl, H10.out.1⟩
        · go_upto_region 18 with (first | (go_at_call 16; refine HDW.out.mono ?_; rintro e w4 ⟨rfl, rfl⟩))
          go_upto_region 19 with (first | (go_at_call 19; refine HC1.out.mono ?_; rintro e w5 ⟨rfl, h5⟩; have H5 := hid_in h5; clear h5))
          go_upto_region 20 with (first | (go_at_call 13; refine (HD1.out _ H5.out).mono ?_; rintro e w6 ⟨⟨p6, c6, rfl, hcv⟩, h6⟩; have H6 := hid_in h6; have hc6 := hcv w6 (Below.refl _ _); clear h6 hcv))
          go_upto_region 21 with fail
          have htk := HTK.out
          go_upto_region 23 with (first | (go_at_call 14; refine (HSY.out _ H6.out).mono ?_; rintro e w7 ⟨rfl, rfl⟩) | (go_at_call 16; refine (HDN.out _ H6.out).mono ?_; rintro e w8 ⟨rfl, rfl⟩))
          go_upto_region 24 with (first | (go_at_call 19; refine (HC2.out _ H6.out).mono ?_; rintro e w9 ⟨rfl, h9⟩; have H9 := hid_in h9; clear h9))
          go_wp2_with (first | (go_at_call 13; refine (HD2.out _ H9.out).mono ?_; rintro e w10 ⟨⟨p10, c10, rfl, hcv⟩, h10⟩; have H10 := hid_in h10; have hc10 := hcv w10 (Below.refl _ _); clear h10 hcv) | (go_at_call 20; refine (HLV.out _ H10.out).mono ?_; rintro e w11 ⟨rfl, rfl⟩))
          go_ret
          exact ⟨rfl, H10.out.1⟩
        · go_upto_region 18 with (first | (go_at_call 16; refine HDW.out.mono ?_; rintro e w4 ⟨rfl, rfl⟩))
          go_upto_region 19 with (first | (go_at_call 19; refine HC1.out.mono ?_; rintro e w5 ⟨rfl, h5⟩; have H5 := hid_in h5; clear h5))
          go_upto_region 20 with (first | (go_at_call 13; refine (HD1.out _ H5.out).mono ?_; rintro e w6 ⟨⟨p6, c6, rfl, hcv⟩, h6⟩; have H6 := hid_in h6; have hc6 := hcv w6 (Below.refl _ _); clear h6 hcv))
          go_upto_region 21 with fail
          have htk := HTK.out
          go_upto_region 23 with (first | (go_at_call 14; refine (HSY.out _ H6.out).mono ?_; rintro e w7 ⟨rfl, rfl⟩) | (go_at_call 16; refine (HDN.out _ H6.out).mono ?_; rintro e w8 ⟨rfl, rfl⟩))
          go_upto_region 24 with (first | (go_at_call 19; refine (HC2.out _ H6.out).mono ?_; rintro e w9 ⟨rfl, h9⟩; have H9 := hid_in h9; clear h9))
          go_wp2_with (first | (go_at_call 13; refine (HD2.out _ H9.out).mono ?_; rintro e w10 ⟨⟨p10, c10, rfl, hcv⟩, h10⟩; have H10 := hid_in h10; have hc10 := hcv w10 (Below.refl _ _); clear h10 hcv) | (go_at_call 20; refine (HLV.out _ H10.out).mono ?_; rintro e w11 ⟨rfl, rfl⟩))
          go_ret
          exact ⟨rfl, H10.out.1⟩
      · have hd' : d.down = false := by simpa using hd
        rw [hd'] at HDW
        have HDF := hid_in hd'
        have hlt1 := hlt.1
        obtain ⟨xs, hxs⟩ := HPG.out i hlt1
        obtain ⟨rfl, hb0⟩ := HP0.out (HPN.out i hlt1)
        obtain ⟨q, c, sb, so, hq1, hq2, hq3⟩ := HQ0.out i xs hxs
        have hcl : wr.cell? ⟨b0, o0 + i, none⟩ = some (.slice q xs.length c) := (hpq.1.cell (p := ⟨b0, o0 + i, none⟩) hb0).trans hq1
        have HCL : Hid (∀ W, Below a.heap.size a W → W.cell? ⟨b0, o0 + i, none⟩ = some (.slice q xs.length c)) := hid_in (fun W hW => (hW.cell (p := ⟨b0, o0 + i, none⟩) hb0).trans hq1)
        have HSL := hid_in hq2
        have HBQ := hid_in hpq.1
        have HLE := hid_in hlen
        have HI := hid_in hlt
        have HLV := hid_in hlv
        by_cases hbig : 1000 < xs.length
        · have hb2 : (1000 : Int) < (xs.length : Int) := by omega
          generalize xs.length = lx at *
          clear hst hlen hd hd' hi6 hiL hlt hlt1 hbig hxs hq1 hq2 hq3 hpq hlv
          go_wp2_with (first | (go_at_call 16; refine HDW.out.mono ?_; rintro e w4 ⟨rfl, rfl⟩))
          go_ret
          exact ⟨rfl, HBQ.out⟩
        · have hb2 : ¬ (1000 : Int) < (xs.length : Int) := by omega
          have HLX : Hid (xs.length ≤ 1000) := hid_in (by omega)
          have HAP : Hid (Calls Try.prog 17 #[.pointer (some ⟨g, 0, none⟩), .int .i64 0, .slice q xs.length c] wr fun e w' => e = .returned (.int .i64 (appE 0 d)) ∧ Pq a w' g (appD 0 xs d)) := hid_in (append_q hpq 0 q xs c sb so (hq2.below hpq.1) hq3 (by
            have h2 : i * 1000 ≤ 60 * 1000 := Nat.mul_le_mul_right _ (by omega)
            have h1 : (arOf 0 d) = d.a0 := rfl
            rw [h1]
            omega))
          have HCV : Hid (∀ W, Below a.heap.size a W → (convert 34 9 (.slice q xs.length c)).run Try.prog W = .ok (.string (str xs)) W) := hid_in (fun W hW => Nd.conv_sl (hq2.below hW))
          have HA3 := hid_in (app_0a xs hd')
          have HL3 := hid_in ((app_0l xs hd').trans hlv)
          have HSZ : Hid ((str d.a0.bs).size + (str xs).size ≤ 9223372036854775807) := hid_in (by
            have h2 : i * 1000 ≤ 60 * 1000 := Nat.mul_le_mul_right _ (by omega)
            rw [Nd.str_size, Nd.str_size]
            omega)
          have HTT : Hid (str d.a0.bs ++ str xs = str (d.a0.bs ++ xs)) := hid_in (str_app _ _).symm
          have HLT : Hid ((d.a0.bs ++ xs).length ≤ (i + 1) * 1000) := hid_in (by rw [List.length_append, Nat.add_mul]; have := HLX.out; omega)
          generalize appD 0 xs d = d3 at *
          obtain ⟨X, HX⟩ : ∃ X, Hid (str d.a0.bs = X) := ⟨_, hid_in rfl⟩
          obtain ⟨Z, HZ⟩ : ∃ Z, Hid (str xs = Z) := ⟨_, hid_in rfl⟩
          obtain ⟨T, HT⟩ : ∃ T, Hid (X ++ Z = T) := ⟨_, hid_in rfl⟩
          have HST3 : Hid (str d3.a0.bs = T) := hid_in (by rw [HA3.out, ← HT.out, ← HX.out, ← HZ.out]; exact HTT.out.symm)
          have HSY3 : Hid ((d3.a0.sy : Int) = (d.a0.sy : Int)) := hid_in (by rw [HA3.out])
          have HLN3 : Hid (d3.a0.bs.length ≤ (i + 1) * 1000) := hid_in (by rw [HA3.out]; exact HLT.out)
          have HTS : Hid (T.size = d3.a0.bs.length) := hid_in (by rw [← HST3.out]; exact Nd.str_size _)
          rw [HZ.out] at HCV
          rw [HX.out, HZ.out] at HSZ
          rw [HX.out]
          have hsz : ¬ IntKind.i64.max < ((X.size : Int) + (Z.size : Int)) := by
            have : IntKind.i64.max = 9223372036854775807 := rfl
            have := HSZ.out
            omega
          have hsz3 : ¬ (9223372036854775807 : Int) < (X.size : Int) + (Z.size : Int) := by have := HSZ.out; omega
          generalize (d.a0.sy : Int) = sure at *
          generalize xs.length = lx at *
          clear hst hlen hd hd' hi6 hiL hlt hlt1 hbig hxs hq1 hq2 hq3 hpq hlv HX HZ HTT HA3 HSL
          go_upto_region 15 with (first | (go_at_call 16; refine HDW.out.mono ?_; rintro e w4 ⟨rfl, rfl⟩) | (go_at_call 17; refine HAP.out.mono ?_; rintro e w5 ⟨rfl, h5⟩; have H5 := hid_in h5; clear h5))
          have hc5 := HCL.out _ H5.out.1
          have hv5 := HCV.out _ H5.out.1
          go_upto_region 16 with fail
          rw [HT.out]
          clear hsz hsz3 hv5 hc5 hcl
          by_cases hs : i < L1
          · have hs1 : (i : Int) < (L1 : Int) := by omega
            obtain ⟨x, hx⟩ := HBG.out i hs
            obtain ⟨rfl, hb1⟩ := HP1.out (HBN.out i hs)
            have hc1 : w5.cell? ⟨b1, o1 + i, none⟩ = some (.bool x) := (H5.out.1.cell (p := ⟨b1, o1 + i, none⟩) hb1).trans (HQ1.out i x hx)
            clear hs hx
            rcases x with _ | _
            · have HLA : Hid (La a g ((i + 1) * 1000) T sure w5) := hid_in ⟨d3, H5.out, HST3.out, HSY3.out, HL3.out, HLN3.out⟩
              go_wp2_with fail
              exact ⟨⟨i + 1, T, sure, by have := HI.out; omega, by have := HI.out; omega, by go_num, rfl, rfl, HLA.out⟩, by have := HI.out; simp [intOf]; omega⟩
            · have HSC := hid_in (sync_q H5.out 0)
              by_cases he : begE 1 0 d3 = 0
              · have HS4 := hid_in (syn_yes he)
                have HL4 := hid_in ((syn_l d3).trans HL3.out)
                rw [he] at HSC
                clear he
                go_wp2_with (first | (go_at_call 18; refine HSC.out.mono ?_; rintro e w6 ⟨rfl, h6⟩; have H6 := hid_in h6; clear h6))
                have HLA : Hid (La a g ((i + 1) * 1000) T (T.size : Int) w6) := hid_in ⟨_, H6.out, by rw [HS4.out]; exact HST3.out, by rw [HS4.out, HTS.out], HL4.out, by rw [HS4.out]; exact HLN3.out⟩
                exact ⟨⟨i + 1, T, (T.size : Int), by have := HI.out; omega, by have := HI.out; omega, by go_num, rfl, rfl, HLA.out⟩, by have := HI.out; simp [intOf]; omega⟩
              · have HS4 := hid_in (syn_no he)
                have HL4 := hid_in ((syn_l d3).trans HL3.out)
                have y0 : (begE 1 0 d3 == 0) = false := by simpa using he
                generalize begE 1 0 d3 = ee at *
                clear he
                go_wp2_with (first | (go_at_call 18; refine HSC.out.mono ?_; rintro e w6 ⟨rfl, h6⟩; have H6 := hid_in h6; clear h6))
                have HLA : Hid (La a g ((i + 1) * 1000) T sure w6) := hid_in ⟨_, H6.out, by rw [HS4.out]; exact HST3.out, by rw [HS4.out]; exact HSY3.out, HL4.out, by rw [HS4.out]; exact HLN3.out⟩
                exact ⟨⟨i + 1, T, sure, by have := HI.out; omega, by have := HI.out; omega, by go_num, rfl, rfl, HLA.out⟩, by have := HI.out; simp [intOf]; omega⟩
          · have hs1 : ¬ (i : Int) < (L1 : Int) := by omega
            have HLA : Hid (La a g ((i + 1) * 1000) T sure w5) := hid_in ⟨d3, H5.out, HST3.out, HSY3.out, HL3.out, HLN3.out⟩
            clear hs
            go_wp2_with fail
            exact ⟨⟨i + 1, T, sure, by have := HI.out; omega, by have := HI.out; omega, by go_num, rfl, rfl, HLA.out⟩, by have := HI.out; simp [intOf]; omega⟩
    · clear hst hlen
      by_cases hM2 : i < L0
      · have hj1 : (i : Int) < (L0 : Int) := by omega
        have hj2 : ¬ (i : Int) < 60 := by omega
        clear hi6 hiL hlt hM2
        obtain ⟨X, HX⟩ : ∃ X, Hid (str d.a0.bs = X) := ⟨_, hid_in rfl⟩
        obtain ⟨t, HTD⟩ : ∃ t, Hid (cutN keep d.a0 = t) := ⟨_, hid_in rfl⟩
        obtain ⟨A1, HA1⟩ : ∃ A, Hid (cutAr 0 d.a1 = A) := ⟨_, hid_in rfl⟩
        have hok := hpq.2.elim (fun _ h => h.elim (fun _ h => h.ok.o0))
        have htl := cutN_le (k := keep) hok
        have hs0 := hok.1
        have hn0 := hok.2.2
        rw [HTD.out] at htl
        have HZL : Hid ((d.a0.bs.take t).length = t) := hid_in (by rw [List.length_take]; omega)
        have e1 : cutD [keep] d = ⟨⟨d.a0.bs.take t, (d.a0.bs.take t).length⟩, A1, false, false, 0⟩ := by
          unfold cutD cutAr
          simp only [List.getD_cons_zero, List.getD_cons_succ, List.getD_nil]
          rw [HZL.out, ← HTD.out, ← HA1.out, hlv]
          rfl
        have HC1 : Hid (Calls Try.prog 19 #[.pointer (some ⟨g, 0, none⟩), .slice (some ⟨wr.heap.size, 0, none⟩) 1 1] (wr.alloc (.cells #[.int .i64 keep] 3)) fun e w' => e = .returned (.tuple #[]) ∧ Pq a w' g ⟨⟨d.a0.bs.take t, (d.a0.bs.take t).length⟩, A1, false, false, 0⟩) := hid_in (by rw [← e1]; exact cut_q1 hpq keep)
        have e2 : cutD [] (⟨⟨d.a0.bs.take t, (d.a0.bs.take t).length⟩, A1, false, false, 0⟩ : Dk) = ⟨⟨d.a0.bs.take t, (d.a0.bs.take t).length⟩, cutAr 0 A1, false, false, 0⟩ := by
          unfold cutD
          simp only [cutAr_all, List.getD_nil]
        obtain ⟨A2, HA2⟩ : ∃ A, Hid (cutAr 0 A1 = A) := ⟨_, hid_in rfl⟩
        rw [HA2.out] at e2
        have HC2 : Hid (∀ W, Pq a W g ⟨⟨d.a0.bs.take t, (d.a0.bs.take t).length⟩, A1, false, false, 0⟩ → Calls Try.prog 19 #[.pointer (some ⟨g, 0, none⟩), .slice none 0 0] W fun e w' => e = .returned (.tuple #[]) ∧ Pq a w' g ⟨⟨d.a0.bs.take t, (d.a0.bs.take t).length⟩, A2, false, false, 0⟩) := hid_in (fun W hW => by rw [← e2]; exact cut_q0 hW)
        have HD1 : Hid (∀ W, Pq a W g ⟨⟨d.a0.bs.take t, (d.a0.bs.take t).length⟩, A1, false, false, 0⟩ → Calls Try.prog 13 #[.pointer (some ⟨g, 0, none⟩), .int .i64 0] W fun e w' => (∃ p c, e = .returned (.slice p (d.a0.bs.take t).length c) ∧ ∀ W', Below w'.heap.size w' W' → (convert 34 9 (.slice p (d.a0.bs.take t).length c)).run Try.prog W' = .ok (.string (str (d.a0.bs.take t))) W') ∧ Pq a w' g ⟨⟨d.a0.bs.take t, (d.a0.bs.take t).length⟩, A1, false, false, 0⟩) := hid_in (fun W hW => read_q hW 0)
        have HD2 : Hid (∀ W, Pq a W g ⟨⟨d.a0.bs.take t, (d.a0.bs.take t).length⟩, A2, false, false, 0⟩ → Calls Try.prog 13 #[.pointer (some ⟨g, 0, none⟩), .int .i64 0] W fun e w' => (∃ p c, e = .returned (.slice p (d.a0.bs.take t).length c) ∧ ∀ W', Below w'.heap.size w' W' → (convert 34 9 (.slice p (d.a0.bs.take t).length c)).run Try.prog W' = .ok (.string (str (d.a0.bs.take t))) W') ∧ Pq a w' g ⟨⟨d.a0.bs.take t, (d.a0.bs.take t).length⟩, A2, false, false, 0⟩) := hid_in (fun W hW => read_q hW 0)
        have HSY : Hid (∀ W, Pq a W g ⟨⟨d.a0.bs.take t, (d.a0.bs.take t).length⟩, A1, false, false, 0⟩ → Calls Try.prog 14 #[.pointer (some ⟨g, 0, none⟩), .int .i64 0] W fun e w' => e = .returned (.int .i64 ((d.a0.bs.take t).length : Int)) ∧ w' = W) := hid_in (fun W hW => synced_q hW 0)
        have HDN : Hid (∀ W, Pq a W g ⟨⟨d.a0.bs.take t, (d.a0.bs.take t).length⟩, A1, false, false, 0⟩ → Calls Try.prog 16 #[.pointer (some ⟨g, 0, none⟩)] W fun e w' => e = .returned (.bool false) ∧ w' = W) := hid_in (fun W hW => down_q hW)
        have HLV : Hid (∀ W, Pq a W g ⟨⟨d.a0.bs.take t, (d.a0.bs.take t).length⟩, A2, false, false, 0⟩ → Calls Try.prog 20 #[.pointer (some ⟨g, 0, none⟩)] W fun e w' => e = .returned (.int .i64 0) ∧ w' = W) := hid_in (fun W hW => live_q hW)
        have HPQ := hid_in hpq
        have HTK : Hid (X.extract 0 t = str (d.a0.bs.take t)) := hid_in (by rw [← HX.out]; exact str_take _ _)
        have hXs : X.size = d.a0.bs.length := by rw [← HX.out]; exact Nd.str_size _
        have hZs : (str (d.a0.bs.take t)).size = t := by rw [Nd.str_size]; exact HZL.out
        have HTI := hid_in (cutN_int keep d.a0 hok)
        rw [HTD.out] at HTI
        rw [HX.out]
        clear e1 e2 hok HTD HA1 HA2 HX hpq hlv
        rw [HZL.out] at HC1 HC2 HD1 HD2 HSY HDN HLV
        generalize (⟨⟨d.a0.bs.take t, t⟩, A1, false, false, 0⟩ : Dk) = E1 at *
        generalize (⟨⟨d.a0.bs.take t, t⟩, A2, false, false, 0⟩ : Dk) = E2 at *
        generalize str (d.a0.bs.take t) = Z at *
        obtain ⟨MK, HMK⟩ : ∃ m, Hid (max keep 0 = m) := ⟨_, hid_in rfl⟩
        obtain ⟨Y, HY⟩ : ∃ y : Int, Hid ((d.a0.bs.length : Int) - (d.a0.sy : Int) = y) := ⟨_, hid_in rfl⟩
        obtain ⟨NN, HNN2⟩ : ∃ m, Hid (min MK Y = m) := ⟨_, hid_in rfl⟩
        rw [HMK.out, HY.out, HNN2.out] at HTI
        have hTN : (t : Int) = (d.a0.sy : Int) + NN := HTI.out
        clear HTI
        generalize d.a0.sy = s at *
        generalize d.a0.bs.length = n0 at *
        have z1 : wrap64 ((n0 : Int) - (s : Int)) = Y := by have := HY.out; unfold wrap64; omega
        have z2 : IntKind.i64.wrap ((n0 : Int) - (s : Int)) = Y := by have := HY.out; rw [IntKind.wrap_i64]; omega
        have z3 : wrap64 ((s : Int) + NN) = (t : Int) := by rw [← hTN]; unfold wrap64; omega
        have z4 : IntKind.i64.wrap ((s : Int) + NN) = (t : Int) := by rw [← hTN, IntKind.wrap_i64]; omega
        have htn : (t : Int) ≤ (n0 : Int) := by omega
        have hy0 : ¬ Y < 0 := by have := HY.out; omega
        have hNC : (keep < 0 ∧ NN = 0) ∨ (¬ keep < 0 ∧ Y < keep ∧ NN = Y) ∨ (¬ keep < 0 ∧ ¬ Y < keep ∧ NN = keep) := by
          have h1 := HMK.out
          have h3 := HNN2.out
          rcases Int.lt_or_le keep 0 with hk | hk
          · rw [Int.max_eq_right (by omega)] at h1
            subst h1
            rw [Int.min_eq_left (by omega)] at h3
            exact .inl ⟨hk, h3.symm⟩
          · rw [Int.max_eq_left hk] at h1
            subst h1
            rcases Int.lt_or_le Y keep with hy | hy
            · rw [Int.min_eq_right (by omega)] at h3
              exact .inr (.inl ⟨by omega, hy, h3.symm⟩)
            · rw [Int.min_eq_left hy] at h3
              exact .inr (.inr ⟨by omega, by omega, h3.symm⟩)
        generalize (s : Int) = sI at *
        clear hTN hs0 hn0 htl HY HMK HNN2
        have hid := True.intro
        rcases hNC with ⟨hk, rfl⟩ | ⟨hk, hy, rfl⟩ | ⟨hk, hy, rfl⟩
        · have z5 : wrap64 sI = (t : Int) := by rw [← z3, Int.add_zero]
          have z6 : IntKind.i64.wrap sI = (t : Int) := by rw [← z4, Int.add_zero]
          go_upto_region 18 with (first | (go_at_call 16; refine HDW.out.mono ?_; rintro e w4 ⟨rfl, rfl⟩))
          go_upto_region 19 with (first | (go_at_call 19; refine HC1.out.mono ?_; rintro e w5 ⟨rfl, h5⟩; have H5 := hid_in h5; clear h5))
          go_upto_region 20 with (first | (go_at_call 13; refine (HD1.out _ H5.out).mono ?_; rintro e w6 ⟨⟨p6, c6, rfl, hcv⟩, h6⟩; have H6 := hid_in h6; have hc6 := hcv w6 (Below.refl _ _); clear h6 hcv))
          go_upto_region 21 with fail
          have htk := HTK.out
          go_upto_region 23 with (first | (go_at_call 14; refine (HSY.out _ H6.out).mono ?_; rintro e w7 ⟨rfl, rfl⟩) | (go_at_call 16; refine (HDN.out _ H6.out).mono ?_; rintro e w8 ⟨rfl, rfl⟩))
          go_upto_region 24 with (first | (go_at_call 19; refine (HC2.out _ H6.out).mono ?_; rintro e w9 ⟨rfl, h9⟩; have H9 := hid_in h9; clear h9))
          go_wp2_with (first | (go_at_call 13; refine (HD2.out _ H9.out).mono ?_; rintro e w10 ⟨⟨p10, c10, rfl, hcv⟩, h10⟩; have H10 := hid_in h10; have hc10 := hcv w10 (Below.refl _ _); clear h10 hcv) | (go_at_call 20; refine (HLV.out _ H10.out).mono ?_; rintro e w11 ⟨rfl, rfl⟩))
          go_ret
          exact ⟨rfl, H10.out.1⟩
        · go_upto_region 18 with (first | (go_at_call 16; refine HDW.out.mono ?_; rintro e w4 ⟨rfl, rfl⟩))
          go_upto_region 19 with (first | (go_at_call 19; refine HC1.out.mono ?_; rintro e w5 ⟨rfl, h5⟩; have H5 := hid_in h5; clear h5))
          go_upto_region 20 with (first | (go_at_call 13; refine (HD1.out _ H5.out).mono ?_; rintro e w6 ⟨⟨p6, c6, rfl, hcv⟩, h6⟩; have H6 := hid_in h6; have hc6 := hcv w6 (Below.refl _ _); clear h6 hcv))
          go_upto_region 21 with fail
          have htk := HTK.out
          go_upto_region 23 with (first | (go_at_call 14; refine (HSY.out _ H6.out).mono ?_; rintro e w7 ⟨rfl, rfl⟩) | (go_at_call 16; refine (HDN.out _ H6.out).mono ?_; rintro e w8 ⟨rfl, rfl⟩))
          go_upto_region 24 with (first | (go_at_call 19; refine (HC2.out _ H6.out).mono ?_; rintro e w9 ⟨rfl, h9⟩; have H9 := hid_in h9; clear h9))
          go_wp2_with (first | (go_at_call 13; refine (HD2.out _ H9.out).mono ?_; rintro e w10 ⟨⟨p10, c10, rfl, hcv⟩, h10⟩; have H10 := hid_in h10; have hc10 := hcv w10 (Below.refl _ _); clear h10 hcv) | (go_at_call 20; refine (HLV.out _ H10.out).mono ?_; rintro e w11 ⟨rfl, rfl⟩))
          go_ret
          exact ⟨rfl, H10.out.1⟩
        · go_upto_region 18 with (first | (go_at_call 16; refine HDW.out.mono ?_; rintro e w4 ⟨rfl, rfl⟩))
          go_upto_region 19 with (first | (go_at_call 19; refine HC1.out.mono ?_; rintro e w5 ⟨rfl, h5⟩; have H5 := hid_in h5; clear h5))
          go_upto_region 20 with (first | (go_at_call 13; refine (HD1.out _ H5.out).mono ?_; rintro e w6 ⟨⟨p6, c6, rfl, hcv⟩, h6⟩; have H6 := hid_in h6; have hc6 := hcv w6 (Below.refl _ _); clear h6 hcv))
          go_upto_region 21 with fail
          have htk := HTK.out
          go_upto_region 23 with (first | (go_at_call 14; refine (HSY.out _ H6.out).mono ?_; rintro e w7 ⟨rfl, rfl⟩) | (go_at_call 16; refine (HDN.out _ H6.out).mono ?_; rintro e w8 ⟨rfl, rfl⟩))
          go_upto_region 24 with (first | (go_at_call 19; refine (HC2.out _ H6.out).mono ?_; rintro e w9 ⟨rfl, h9⟩; have H9 := hid_in h9; clear h9))
          go_wp2_with (first | (go_at_call 13; refine (HD2.out _ H9.out).mono ?_; rintro e w10 ⟨⟨p10, c10, rfl, hcv⟩, h10⟩; have H10 := hid_in h10; have hc10 := hcv w10 (Below.refl _ _); clear h10 hcv) | (go_at_call 20; refine (HLV.out _ H10.out).mono ?_; rintro e w11 ⟨rfl, rfl⟩))
          go_ret
          exact ⟨rfl, H10.out.1⟩
      · have hj1 : ¬ (i : Int) < (L0 : Int) := by omega
        clear hi6 hiL hlt hM2
        obtain ⟨X, HX⟩ : ∃ X, Hid (str d.a0.bs = X) := ⟨_, hid_in rfl⟩
        obtain ⟨t, HTD⟩ : ∃ t, Hid (cutN keep d.a0 = t) := ⟨_, hid_in rfl⟩
        obtain ⟨A1, HA1⟩ : ∃ A, Hid (cutAr 0 d.a1 = A) := ⟨_, hid_in rfl⟩
        have hok := hpq.2.elim (fun _ h => h.elim (fun _ h => h.ok.o0))
        have htl := cutN_le (k := keep) hok
        have hs0 := hok.1
        have hn0 := hok.2.2
        rw [HTD.out] at htl
        have HZL : Hid ((d.a0.bs.take t).length = t) := hid_in (by rw [List.length_take]; omega)
        have e1 : cutD [keep] d = ⟨⟨d.a0.bs.take t, (d.a0.bs.take t).length⟩, A1, false, false, 0⟩ := by
          unfold cutD cutAr
          simp only [List.getD_cons_zero, List.getD_cons_succ, List.getD_nil]
          rw [HZL.out, ← HTD.out, ← HA1.out, hlv]
          rfl
        have HC1 : Hid (Calls Try.prog 19 #[.pointer (some ⟨g, 0, none⟩), .slice (some ⟨wr.heap.size, 0, none⟩) 1 1] (wr.alloc (.cells #[.int .i64 keep] 3)) fun e w' => e = .returned (.tuple #[]) ∧ Pq a w' g ⟨⟨d.a0.bs.take t, (d.a0.bs.take t).length⟩, A1, false, false, 0⟩) := hid_in (by rw [← e1]; exact cut_q1 hpq keep)
        have e2 : cutD [] (⟨⟨d.a0.bs.take t, (d.a0.bs.take t).length⟩, A1, false, false, 0⟩ : Dk) = ⟨⟨d.a0.bs.take t, (d.a0.bs.take t).length⟩, cutAr 0 A1, false, false, 0⟩ := by
          unfold cutD
          simp only [cutAr_all, List.getD_nil]
        obtain ⟨A2, HA2⟩ : ∃ A, Hid (cutAr 0 A1 = A) := ⟨_, hid_in rfl⟩
        rw [HA2.out] at e2
        have HC2 : Hid (∀ W, Pq a W g ⟨⟨d.a0.bs.take t, (d.a0.bs.take t).length⟩, A1, false, false, 0⟩ → Calls Try.prog 19 #[.pointer (some ⟨g, 0, none⟩), .slice none 0 0] W fun e w' => e = .returned (.tuple #[]) ∧ Pq a w' g ⟨⟨d.a0.bs.take t, (d.a0.bs.take t).length⟩, A2, false, false, 0⟩) := hid_in (fun W hW => by rw [← e2]; exact cut_q0 hW)
        have HD1 : Hid (∀ W, Pq a W g ⟨⟨d.a0.bs.take t, (d.a0.bs.take t).length⟩, A1, false, false, 0⟩ → Calls Try.prog 13 #[.pointer (some ⟨g, 0, none⟩), .int .i64 0] W fun e w' => (∃ p c, e = .returned (.slice p (d.a0.bs.take t).length c) ∧ ∀ W', Below w'.heap.size w' W' → (convert 34 9 (.slice p (d.a0.bs.take t).length c)).run Try.prog W' = .ok (.string (str (d.a0.bs.take t))) W') ∧ Pq a w' g ⟨⟨d.a0.bs.take t, (d.a0.bs.take t).length⟩, A1, false, false, 0⟩) := hid_in (fun W hW => read_q hW 0)
        have HD2 : Hid (∀ W, Pq a W g ⟨⟨d.a0.bs.take t, (d.a0.bs.take t).length⟩, A2, false, false, 0⟩ → Calls Try.prog 13 #[.pointer (some ⟨g, 0, none⟩), .int .i64 0] W fun e w' => (∃ p c, e = .returned (.slice p (d.a0.bs.take t).length c) ∧ ∀ W', Below w'.heap.size w' W' → (convert 34 9 (.slice p (d.a0.bs.take t).length c)).run Try.prog W' = .ok (.string (str (d.a0.bs.take t))) W') ∧ Pq a w' g ⟨⟨d.a0.bs.take t, (d.a0.bs.take t).length⟩, A2, false, false, 0⟩) := hid_in (fun W hW => read_q hW 0)
        have HSY : Hid (∀ W, Pq a W g ⟨⟨d.a0.bs.take t, (d.a0.bs.take t).length⟩, A1, false, false, 0⟩ → Calls Try.prog 14 #[.pointer (some ⟨g, 0, none⟩), .int .i64 0] W fun e w' => e = .returned (.int .i64 ((d.a0.bs.take t).length : Int)) ∧ w' = W) := hid_in (fun W hW => synced_q hW 0)
        have HDN : Hid (∀ W, Pq a W g ⟨⟨d.a0.bs.take t, (d.a0.bs.take t).length⟩, A1, false, false, 0⟩ → Calls Try.prog 16 #[.pointer (some ⟨g, 0, none⟩)] W fun e w' => e = .returned (.bool false) ∧ w' = W) := hid_in (fun W hW => down_q hW)
        have HLV : Hid (∀ W, Pq a W g ⟨⟨d.a0.bs.take t, (d.a0.bs.take t).length⟩, A2, false, false, 0⟩ → Calls Try.prog 20 #[.pointer (some ⟨g, 0, none⟩)] W fun e w' => e = .returned (.int .i64 0) ∧ w' = W) := hid_in (fun W hW => live_q hW)
        have HPQ := hid_in hpq
        have HTK : Hid (X.extract 0 t = str (d.a0.bs.take t)) := hid_in (by rw [← HX.out]; exact str_take _ _)
        have hXs : X.size = d.a0.bs.length := by rw [← HX.out]; exact Nd.str_size _
        have hZs : (str (d.a0.bs.take t)).size = t := by rw [Nd.str_size]; exact HZL.out
        have HTI := hid_in (cutN_int keep d.a0 hok)
        rw [HTD.out] at HTI
        rw [HX.out]
        clear e1 e2 hok HTD HA1 HA2 HX hpq hlv
        rw [HZL.out] at HC1 HC2 HD1 HD2 HSY HDN HLV
        generalize (⟨⟨d.a0.bs.take t, t⟩, A1, false, false, 0⟩ : Dk) = E1 at *
        generalize (⟨⟨d.a0.bs.take t, t⟩, A2, false, false, 0⟩ : Dk) = E2 at *
        generalize str (d.a0.bs.take t) = Z at *
        obtain ⟨MK, HMK⟩ : ∃ m, Hid (max keep 0 = m) := ⟨_, hid_in rfl⟩
        obtain ⟨Y, HY⟩ : ∃ y : Int, Hid ((d.a0.bs.length : Int) - (d.a0.sy : Int) = y) := ⟨_, hid_in rfl⟩
        obtain ⟨NN, HNN2⟩ : ∃ m, Hid (min MK Y = m) := ⟨_, hid_in rfl⟩
        rw [HMK.out, HY.out, HNN2.out] at HTI
        have hTN : (t : Int) = (d.a0.sy : Int) + NN := HTI.out
        clear HTI
        generalize d.a0.sy = s at *
        generalize d.a0.bs.length = n0 at *
        have z1 : wrap64 ((n0 : Int) - (s : Int)) = Y := by have := HY.out; unfold wrap64; omega
        have z2 : IntKind.i64.wrap ((n0 : Int) - (s : Int)) = Y := by have := HY.out; rw [IntKind.wrap_i64]; omega
        have z3 : wrap64 ((s : Int) + NN) = (t : Int) := by rw [← hTN]; unfold wrap64; omega
        have z4 : IntKind.i64.wrap ((s : Int) + NN) = (t : Int) := by rw [← hTN, IntKind.wrap_i64]; omega
        have htn : (t : Int) ≤ (n0 : Int) := by omega
        have hy0 : ¬ Y < 0 := by have := HY.out; omega
        have hNC : (keep < 0 ∧ NN = 0) ∨ (¬ keep < 0 ∧ Y < keep ∧ NN = Y) ∨ (¬ keep < 0 ∧ ¬ Y < keep ∧ NN = keep) := by
          have h1 := HMK.out
          have h3 := HNN2.out
          rcases Int.lt_or_le keep 0 with hk | hk
          · rw [Int.max_eq_right (by omega)] at h1
            subst h1
            rw [Int.min_eq_left (by omega)] at h3
            exact .inl ⟨hk, h3.symm⟩
          · rw [Int.max_eq_left hk] at h1
            subst h1
            rcases Int.lt_or_le Y keep with hy | hy
            · rw [Int.min_eq_right (by omega)] at h3
              exact .inr (.inl ⟨by omega, hy, h3.symm⟩)
            · rw [Int.min_eq_left hy] at h3
              exact .inr (.inr ⟨by omega, by omega, h3.symm⟩)
        generalize (s : Int) = sI at *
        clear hTN hs0 hn0 htl HY HMK HNN2
        have hid := True.intro
        rcases hNC with ⟨hk, rfl⟩ | ⟨hk, hy, rfl⟩ | ⟨hk, hy, rfl⟩
        · have z5 : wrap64 sI = (t : Int) := by rw [← z3, Int.add_zero]
          have z6 : IntKind.i64.wrap sI = (t : Int) := by rw [← z4, Int.add_zero]
          go_upto_region 18 with (first | (go_at_call 16; refine HDW.out.mono ?_; rintro e w4 ⟨rfl, rfl⟩))
          go_upto_region 19 with (first | (go_at_call 19; refine HC1.out.mono ?_; rintro e w5 ⟨rfl, h5⟩; have H5 := hid_in h5; clear h5))
          go_upto_region 20 with (first | (go_at_call 13; refine (HD1.out _ H5.out).mono ?_; rintro e w6 ⟨⟨p6, c6, rfl, hcv⟩, h6⟩; have H6 := hid_in h6; have hc6 := hcv w6 (Below.refl _ _); clear h6 hcv))
          go_upto_region 21 with fail
          have htk := HTK.out
          go_upto_region 23 with (first | (go_at_call 14; refine (HSY.out _ H6.out).mono ?_; rintro e w7 ⟨rfl, rfl⟩) | (go_at_call 16; refine (HDN.out _ H6.out).mono ?_; rintro e w8 ⟨rfl, rfl⟩))
          go_upto_region 24 with (first | (go_at_call 19; refine (HC2.out _ H6.out).mono ?_; rintro e w9 ⟨rfl, h9⟩; have H9 := hid_in h9; clear h9))
          go_wp2_with (first | (go_at_call 13; refine (HD2.out _ H9.out).mono ?_; rintro e w10 ⟨⟨p10, c10, rfl, hcv⟩, h10⟩; have H10 := hid_in h10; have hc10 := hcv w10 (Below.refl _ _); clear h10 hcv) | (go_at_call 20; refine (HLV.out _ H10.out).mono ?_; rintro e w11 ⟨rfl, rfl⟩))
          go_ret
          exact ⟨rfl, H10.out.1⟩
        · go_upto_region 18 with (first | (go_at_call 16; refine HDW.out.mono ?_; rintro e w4 ⟨rfl, rfl⟩))
          go_upto_region 19 with (first | (go_at_call 19; refine HC1.out.mono ?_; rintro e w5 ⟨rfl, h5⟩; have H5 := hid_in h5; clear h5))
          go_upto_region 20 with (first | (go_at_call 13; refine (HD1.out _ H5.out).mono ?_; rintro e w6 ⟨⟨p6, c6, rfl, hcv⟩, h6⟩; have H6 := hid_in h6; have hc6 := hcv w6 (Below.refl _ _); clear h6 hcv))
          go_upto_region 21 with fail
          have htk := HTK.out
          go_upto_region 23 with (first | (go_at_call 14; refine (HSY.out _ H6.out).mono ?_; rintro e w7 ⟨rfl, rfl⟩) | (go_at_call 16; refine (HDN.out _ H6.out).mono ?_; rintro e w8 ⟨rfl, rfl⟩))
          go_upto_region 24 with (first | (go_at_call 19; refine (HC2.out _ H6.out).mono ?_; rintro e w9 ⟨rfl, h9⟩; have H9 := hid_in h9; clear h9))
          go_wp2_with (first | (go_at_call 13; refine (HD2.out _ H9.out).mono ?_; rintro e w10 ⟨⟨p10, c10, rfl, hcv⟩, h10⟩; have H10 := hid_in h10; have hc10 := hcv w10 (Below.refl _ _); clear h10 hcv) | (go_at_call 20; refine (HLV.out _ H10.out).mono ?_; rintro e w11 ⟨rfl, rfl⟩))
          go_ret
          exact ⟨rfl, H10.out.1⟩
        · go_upto_region 18 with (first | (go_at_call 16; refine HDW.out.mono ?_; rintro e w4 ⟨rfl, rfl⟩))
          go_upto_region 19 with (first | (go_at_call 19; refine HC1.out.mono ?_; rintro e w5 ⟨rfl, h5⟩; have H5 := hid_in h5; clear h5))
          go_upto_region 20 with (first | (go_at_call 13; refine (HD1.out _ H5.out).mono ?_; rintro e w6 ⟨⟨p6, c6, rfl, hcv⟩, h6⟩; have H6 := hid_in h6; have hc6 := hcv w6 (Below.refl _ _); clear h6 hcv))
          go_upto_region 21 with fail
          have htk := HTK.out
          go_upto_region 23 with (first | (go_at_call 14; refine (HSY.out _ H6.out).mono ?_; rintro e w7 ⟨rfl, rfl⟩) | (go_at_call 16; refine (HDN.out _ H6.out).mono ?_; rintro e w8 ⟨rfl, rfl⟩))
          go_upto_region 24 with (first | (go_at_call 19; refine (HC2.out _ H6.out).mono ?_; rintro e w9 ⟨rfl, h9⟩; have H9 := hid_in h9; clear h9))
          go_wp2_with (first | (go_at_call 13; refine (HD2.out _ H9.out).mono ?_; rintro e w10 ⟨⟨p10, c10, rfl, hcv⟩, h10⟩; have H10 := hid_in h10; have hc10 := hcv w10 (Below.refl _ _); clear h10 hcv) | (go_at_call 20; refine (HLV.out _ H10.out).mono ?_; rintro e w11 ⟨rfl, rfl⟩))
          go_ret
          exact ⟨rfl, H10.out.1⟩
end Go.Proofs.Ytcdmdmbdgmihfaa.Pt
