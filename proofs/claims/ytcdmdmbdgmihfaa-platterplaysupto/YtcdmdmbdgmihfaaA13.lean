/-
  The walk of PlatterPlays.
-/
import Derived.Test.YtcdmdmbdgmihfaaA00
import Derived.Test.YtcdmdmbdgmihfaaA01
import Derived.Test.YtcdmdmbdgmihfaaA02
import Derived.Test.YtcdmdmbdgmihfaaA03
import Derived.Test.YtcdmdmbdgmihfaaA04
import Derived.Test.YtcdmdmbdgmihfaaA05
import Derived.Test.YtcdmdmbdgmihfaaA06
import Derived.Test.YtcdmdmbdgmihfaaA07
import Derived.Test.YtcdmdmbdgmihfaaA08
import Derived.Test.YtcdmdmbdgmihfaaA09
import Derived.Test.YtcdmdmbdgmihfaaA10
import Derived.Test.YtcdmdmbdgmihfaaA11
import Derived.Test.YtcdmdmbdgmihfaaA12
namespace Go.Proofs.Ytcdmdmbdgmihfaa.Pt
open Go.RowKit
open Nd (take_put Row wp_world grownBy_setCell below_of_grown grownBy_trans grown_of_below grownBy_refl u8v Grew Moved Sl hid_in i5h str)
set_option maxHeartbeats 16000000 in
set_option maxRecDepth 100000 in
theorem plays_any (a : World) (v : Value) (ss : List Cl1) (h : Cls a v ss) (hbk : ∀ x ∈ ss, x.xs.length ≤ 1048576) :
    Calls Try.prog 3 #[v] a fun e w' => e = .returned (.bool true) ∧ Below a.heap.size a w' := by
  have HAW := hid_in (awake_any a)
  have HFI := hid_in (fun W (x : Below a.heap.size a W) => fits_any W v ss (h.below x))
  have HNW := hid_in (fun (w : World) (h : Below a.heap.size a w) => new_q h)
  obtain ⟨p, cp, rfl, hl, hok, hat⟩ := h.at_
  have HAT := hid_in hat
  have HOK := hid_in hok
  have HBK := hid_in hbk
  have hM : (ss.length : Int) ≤ 9223372036854775807 := by omega
  generalize hn : ss.length = M at *
  have HNN := hid_in hn
  obtain ⟨KK, HK⟩ : ∃ K, Hid (K = min M 100) := ⟨_, hid_in rfl⟩
  clear h hat hl hn hok hbk
  go_enter Try.func3, Try.ntmps3
  go_upto_region 3 with (first | (go_at_call 7; refine HAW.out.mono ?_; rintro e w1 ⟨rfl, hb1⟩; have HB1 := hid_in hb1; clear hb1))
  go_upto_region 5 with (first | (go_at_call 8; refine (HFI.out _ HB1.out).mono ?_; rintro e w2 ⟨⟨ft, rfl⟩, rfl⟩; rcases ft with _ | _))
  · go_wp2_with fail
    go_ret
    exact ⟨rfl, HB1.out⟩
  · go_upto_region 6 with (first | (go_at_call 9; refine (HNW.out _ HB1.out).mono ?_; rintro e w3 ⟨g, rfl, q3⟩; have Q3 := hid_in q3; clear q3))
    obtain ⟨w4, HW4⟩ : ∃ w4, Hid (w3.alloc (.cells #[.string ⟨#[]⟩, .string ⟨#[]⟩, .int .i64 0, .int .i64 0, .int .i64 0, .int .i64 0, .bool false] 31) = w4) := ⟨_, hid_in rfl⟩
    have HR4 : Hid (Row w4 w3.heap.size (rcells newD) 31) := hid_in (by rw [← HW4.out]; exact Row.new w3 (rcells newD) 31)
    have HB34 : Hid (Below w3.heap.size w3 w4) := hid_in (by rw [← HW4.out]; exact (Below.refl _ _).alloc (Nat.le_refl _) _)
    have HRA : Hid (a.heap.size ≤ w3.heap.size) := hid_in Q3.out.1.size
    have HST : Hid (Pl a g w3.heap.size 0 w4) := hid_in (by
      obtain ⟨h1, v0, v1, h2⟩ := Q3.out
      exact ⟨newD, ⟨v0, v1, h2.below HB34.out⟩, HR4.out, h1.trans (HB34.out.mono h1.size), by decide⟩)
    go_upto_region 9 with fail
    refine wp_world HW4.out ?_
    generalize w3.heap.size = r at *
    clear HR4 HB34 HW4 Q3
    go_wp2_with fail
    go_loopw [5] (fun vi W => ∃ i : Nat, i ≤ KK ∧ vi = .int .i64 (i : Int) ∧ Hid (Pl a g r (i * 1048576) W)) (fun vi _ => KK - (intOf vi).toNat)
    case atStart => exact ⟨0, by omega, rfl, by rw [Nat.zero_mul]; exact HST.out⟩
    case round =>
      obtain ⟨i, hi, rfl, hst⟩ := hrel
      by_cases hlt : i < KK
      · have hj1 : (i : Int) < (M : Int) := by have := HK.out; omega
        have hj2 : (i : Int) < 100 := by have := HK.out; omega
        have HLT := hid_in hlt
        have hlo : i < ss.length := by rw [HNN.out]; have := HK.out; omega
        obtain ⟨b, o, rfl, hcs⟩ := HAT.out (by intro e; rw [e] at hlo; simp at hlo)
        obtain ⟨x, hx⟩ : ∃ x, ss[i]? = some x := ⟨_, List.getElem?_eq_getElem hlo⟩
        have hmem : x ∈ ss := List.mem_of_getElem? hx
        have HXO := hid_in (HOK.out x hmem)
        have HXL := hid_in (HBK.out x hmem)
        have HCS := hid_in (fun W (hW : Below a.heap.size a W) => hcs W hW i x hx)
        obtain ⟨kd, A, bv, n, kv, xs, ks⟩ := x
        have HCS : Hid (∀ W, Below a.heap.size a W → W.rangeAt b (o + i * 5) [.int .i64 kd, .int .i64 A, bv, .int .i64 n, kv]) := HCS
        have HXL : Hid (xs.length ≤ 1048576) := HXL
        have HN : Hid (n ≤ 9223372036854775807) := hid_in HXO.out.n
        obtain ⟨d, ⟨v0, v1, hp⟩, hr, hb, hmx⟩ := hst.out
        have HOKD := hid_in hp.ok
        have HLX : Hid ((arOf A d).bs.length + xs.length ≤ 140737488355328) := hid_in (by
          have h1 := mx_ar (a := A) (d := d)
          have h2 := HXL.out
          have h3 : i < 100 := by omega
          have h4 : i * 1048576 ≤ 100 * 1048576 := Nat.mul_le_mul_right _ (by omega)
          omega)
        have HPD := hid_in (hp.below (Below.refl _ wr).drew)
        have HBD := hid_in (hb.trans (((Below.refl wr.heap.size wr).drew).mono hb.size))
        have HRD := hid_in (hr.below (Below.refl _ wr).drew hr.lt)
        have HDO : Hid (Calls Try.prog 10 #[.pointer (some ⟨g, 0, none⟩), .agg #[.int .i64 kd, .int .i64 A, bv, .int .i64 n, kv]] wr.drew fun e w' => e = .returned (.int .i64 (doE (kmod kd) A d)) ∧ Stp wr.drew w' a.heap.size g v0 v1 (doD (kmod kd) A xs n ks d)) := hid_in (do_any HPD.out ⟨kd, A, bv, n, kv, xs, ks⟩ (HXO.out.sl HBD.out) HLX.out HN.out (HXO.out.kp HBD.out _ (fun k hk => (HPD.out.fs_lt k hk).1)))
        have HMX : Hid (mx (doD (kmod kd) A xs n ks d) ≤ (i + 1) * 1048576) := hid_in (by
          have h1 := mx_do (kmod kd) A xs n ks d
          have h2 := HXL.out
          rw [Nat.add_mul]
          omega)
        clear hlo hcs hx hmem hp hr hb hmx hst hlt hi
        go_upto_region 12 with fail
        refine wp_region_held_drew (S := fun W => Below a.heap.size a W) (by kernel_rfl) HBD.out (fun hHeld => ?_)
        refine take_put (i := 0) (d := 26) (v := ?_) rfl rfl (by kernel_rfl) (by kernel_rfl) (by kernel_rfl) (fun _ _ _ h => h) (Or.inl ⟨by kernel_rfl, ?_⟩) hHeld ?_
        rotate_left
        · (intro w hSw; (try dsimp only at hSw); go_simp; (try with_reducible rfl))
        simp only [Act.put, List.setIfInBounds_toArray, List.set_cons_zero, List.set_cons_succ]
        refine take_put (i := 1) (d := 27) (v := ?_) rfl rfl (by kernel_rfl) (by kernel_rfl) (by kernel_rfl) (fun _ _ _ h => h) (Or.inl ⟨by kernel_rfl, ?_⟩) hHeld ?_
        rotate_left
        · (intro w hSw; (try dsimp only at hSw); go_simp; (try with_reducible rfl))
        simp only [Act.put, List.setIfInBounds_toArray, List.set_cons_zero, List.set_cons_succ]
        refine take_put (i := 2) (d := 28) (v := ?_) rfl rfl (by kernel_rfl) (by kernel_rfl) (by kernel_rfl) (fun _ _ _ h => h) (Or.inl ⟨by kernel_rfl, ?_⟩) hHeld ?_
        rotate_left
        · (intro w hSw; (try dsimp only at hSw); go_simp; (try with_reducible rfl))
        simp only [Act.put, List.setIfInBounds_toArray, List.set_cons_zero, List.set_cons_succ]
        refine take_put (i := 3) (d := 29) (v := ?_) rfl rfl (by kernel_rfl) (by kernel_rfl) (by kernel_rfl) (fun _ _ _ h => h) (Or.inl ⟨by kernel_rfl, ?_⟩) hHeld ?_
        rotate_left
        · (intro w hSw; (try dsimp only at hSw); go_simp; (try with_reducible rfl))
        simp only [Act.put, List.setIfInBounds_toArray, List.set_cons_zero, List.set_cons_succ]
        refine take_put (i := 4) (d := 30) (v := .agg [.int .i64 kd, .int .i64 A, bv, .int .i64 n, kv].toArray) rfl rfl (by kernel_rfl) (by kernel_rfl) (by kernel_rfl) (fun _ _ _ h => h) (yieldsIf_load_mid (by rfl) 37 _ rfl _ _ rfl [.int .i64 kd, .int .i64 A, bv, .int .i64 n, kv] _ (fun w hSw => HCS.out w hSw) Try.underlying37 rfl (by rw [info37]; rfl)) hHeld ?_
        simp only [Act.put, List.setIfInBounds_toArray, List.set_cons_zero, List.set_cons_succ]
        refine take_put (i := 6) (d := 32) (v := ?_) rfl rfl (by kernel_rfl) (by kernel_rfl) (by kernel_rfl) (fun _ _ _ h => h) (Or.inl ⟨by kernel_rfl, ?_⟩) hHeld ?_
        rotate_left
        · (intro w hSw; (try dsimp only at hSw); go_simp; (try with_reducible rfl))
        simp only [Act.put, List.setIfInBounds_toArray, List.set_cons_zero, List.set_cons_succ]
        refine take_put (i := 7) (d := 33) (v := ?_) rfl rfl (by kernel_rfl) (by kernel_rfl) (by kernel_rfl) (fun _ _ _ h => h) (Or.inl ⟨by kernel_rfl, ?_⟩) hHeld ?_
        rotate_left
        · (intro w hSw; (try dsimp only at hSw); go_simp; (try with_reducible rfl))
        simp only [Act.put, List.setIfInBounds_toArray, List.set_cons_zero, List.set_cons_succ]
        refine take_put (i := 8) (d := 34) (v := ?_) rfl rfl (by kernel_rfl) (by kernel_rfl) (by kernel_rfl) (fun _ _ _ h => h) (Or.inl ⟨by kernel_rfl, ?_⟩) hHeld ?_
        rotate_left
        · (intro w hSw; (try dsimp only at hSw); go_simp; (try with_reducible rfl))
        simp only [Act.put, List.setIfInBounds_toArray, List.set_cons_zero, List.set_cons_succ]
        refine take_put (i := 9) (d := 35) (v := ?_) rfl rfl (by kernel_rfl) (by kernel_rfl) (by kernel_rfl) (fun _ _ _ h => h) (Or.inl ⟨by kernel_rfl, ?_⟩) hHeld ?_
        rotate_left
        · (intro w hSw; (try dsimp only at hSw); go_simp; (try with_reducible rfl))
        simp only [Act.put, List.setIfInBounds_toArray, List.set_cons_zero, List.set_cons_succ]
        refine take_put (i := 10) (d := 36) (v := .agg [.int .i64 kd, .int .i64 A, bv, .int .i64 n, kv].toArray) rfl rfl (by kernel_rfl) (by kernel_rfl) (by kernel_rfl) (fun _ _ _ h => h) (yieldsIf_load_mid (by rfl) 37 _ rfl _ _ rfl [.int .i64 kd, .int .i64 A, bv, .int .i64 n, kv] _ (fun w hSw => HCS.out w hSw) Try.underlying37 rfl (by rw [info37]; rfl)) hHeld ?_
        simp only [Act.put, List.setIfInBounds_toArray, List.set_cons_zero, List.set_cons_succ]
        refine wpAnyH_ready (rs := [5]) (by kernel_rfl) (by simp) ?_
        refine AllReadyH.cons rfl (fun K hK => ?_) AllReadyH.nil
        rw [if_pos (by rfl)]
        go_simp
        refine HDO.out.mono ?_
        rintro e w5 ⟨rfl, hs5⟩
        have HS5 := hid_in hs5
        have HB5 := hid_in (Stp.after HPD.out HBD.out hs5)
        have HRR5 := hid_in (Stp.row HPD.out hs5 HRD.out (by decide) (by decide))
        obtain ⟨u0, u1, hp5, -, -⟩ := hs5
        have HP5 := hid_in hp5
        have HRDO := hid_in (rdo_any HRR5.out HOKD.out kd A n bv kv HN.out xs (HXO.out.cv HB5.out HRA.out) HLX.out ks (HXO.out.kp HB5.out (fun k => some k = some r) (fun k hk => by cases hk; exact HRA.out)))
        clear hp5
        go_simp
        refine hK.out _ _ HB5.out (fun hHeld => ?_)
        clear hK K
        refine wpAnyH_ready (rs := [11]) (by kernel_rfl) (by simp) ?_
        refine AllReadyH.cons rfl (fun K hK => ?_) AllReadyH.nil
        rw [if_pos (by rfl)]
        go_simp
        refine HRDO.out.mono ?_
        rintro e w6 ⟨rfl, hr6, hg6⟩
        have HR6 := hid_in hr6
        have HP6 := hid_in (HP5.out.keep (Grew.of_grown hg6) (fun k hk e => HP5.out.typed HRR5.out (by decide) (by decide) (by cases e; exact hk)))
        have HB6 := hid_in (below_of_grown HB5.out hg6 HB5.out.size HRA.out)
        clear hr6 hg6
        go_simp
        refine hK.out _ _ HB6.out (fun hHeld => ?_)
        clear hK K
        refine take_put (i := 12) (d := 38) (v := .bool false) rfl rfl (by kernel_rfl) (by kernel_rfl) (by kernel_rfl) (fun _ _ _ h => h) (Or.inl ⟨by kernel_rfl, fun w hSw => ?_⟩) hHeld ?_
        · (go_simp)
        simp only [Act.put, List.setIfInBounds_toArray, List.set_cons_zero, List.set_cons_succ]
        refine take_put (i := 13) (d := 39) (v := .bool false) rfl rfl (by kernel_rfl) (by kernel_rfl) (by kernel_rfl) (fun _ _ _ h => h) (Or.inl ⟨by kernel_rfl, fun w hSw => ?_⟩) hHeld ?_
        · (go_simp)
        simp only [Act.put, List.setIfInBounds_toArray, List.set_cons_zero, List.set_cons_succ]
        refine take_put (i := 14) (d := 40) (v := ?_) rfl rfl (by kernel_rfl) (by kernel_rfl) (by kernel_rfl) (fun _ _ _ h => h) (Or.inl ⟨by kernel_rfl, ?_⟩) hHeld ?_
        rotate_left
        · (intro w hSw; (try dsimp only at hSw); go_simp; (try with_reducible rfl))
        simp only [Act.put, List.setIfInBounds_toArray, List.set_cons_zero, List.set_cons_succ]
        refine take_put (i := 15) (d := 41) (v := ?_) rfl rfl (by kernel_rfl) (by kernel_rfl) (by kernel_rfl) (fun _ _ _ h => h) (Or.inl ⟨by kernel_rfl, ?_⟩) hHeld ?_
        rotate_left
        · (intro w hSw; (try dsimp only at hSw); go_simp; (try with_reducible rfl))
        simp only [Act.put, List.setIfInBounds_toArray, List.set_cons_zero, List.set_cons_succ]
        refine wpAnyH_ready (rs := [16]) (by kernel_rfl) (by simp) ?_
        refine AllReadyH.cons rfl (fun K hK => ?_) AllReadyH.nil
        rw [if_pos (by rfl)]
        go_simp
        refine (same_any HP6.out HR6.out).mono ?_
        rintro e w7 ⟨rfl, hb7⟩
        have HP7 := hid_in (HP6.out.below hb7)
        have HR7 := hid_in (HR6.out.below hb7 HR6.out.lt)
        have HB7 := hid_in (HB6.out.trans (hb7.mono HB6.out.size))
        clear hb7
        go_simp
        refine hK.out _ _ HB7.out (fun hHeld => ?_)
        clear hK K
        refine take_put (i := 17) (d := 43) (v := .bool false) rfl rfl (by kernel_rfl) (by kernel_rfl) (by kernel_rfl) (fun _ _ _ h => h) (Or.inl ⟨by kernel_rfl, fun w hSw => ?_⟩) hHeld ?_
        · (go_simp)
        simp only [Act.put, List.setIfInBounds_toArray, List.set_cons_zero, List.set_cons_succ]
        refine take_put (i := 18) (d := 44) (v := .bool false) rfl rfl (by kernel_rfl) (by kernel_rfl) (by kernel_rfl) (fun _ _ _ h => h) (Or.inl ⟨by kernel_rfl, fun w hSw => ?_⟩) hHeld ?_
        · (go_simp)
        simp only [Act.put, List.setIfInBounds_toArray, List.set_cons_zero, List.set_cons_succ]
        refine wpAnyH_done (by kernel_rfl) ?_ _
        clear hHeld
        go_wp2_with fail
        exact ⟨⟨i + 1, by have := HLT.out; omega, by go_num, _, ⟨_, _, HP7.out⟩, HR7.out, HB7.out, HMX.out⟩, by have := HLT.out; simp [intOf]; omega⟩
      · have hiK : i = KK := by omega
        obtain ⟨d, ⟨v0, v1, hp⟩, hr, hb, hmx⟩ := hst.out
        have HRM : Hid (∀ W x, isA x = false → Below wr.heap.size wr W → Calls Try.prog 13 #[.pointer (some ⟨g, 0, none⟩), .int .i64 x] W fun e w' => (∃ p c, e = .returned (.slice p 0 c)) ∧ Below wr.heap.size wr w') := hid_in (fun W x hx hW => by
          refine (read_any (hp.below hW) x).mono ?_
          rintro e w' ⟨v, rfl, ho, hb2⟩
          have e0 : bytesOf x d = [] := by unfold bytesOf; rw [hx]; rfl
          rw [e0] at ho
          obtain ⟨p', c', rfl, -, -⟩ := own_some ho
          exact ⟨⟨p', c', rfl⟩, hW.trans (hb2.mono hW.size)⟩)
        have HRM1 := hid_in (HRM.out wr (-1) rfl (Below.refl _ _))
        have HRM2 := hid_in (fun W hW => HRM.out W 2 rfl hW)
        have HSY : Hid (∀ W, Below wr.heap.size wr W → Calls Try.prog 14 #[.pointer (some ⟨g, 0, none⟩), .int .i64 2] W fun e w' => e = .returned (.int .i64 0) ∧ w' = W) := hid_in (fun W hW => synced_any (hp.below hW) 2)
        have HBB := hid_in hb
        clear hp hr hb hmx hst HRM
        by_cases hM2 : i < M
        · have hj1 : (i : Int) < (M : Int) := by omega
          have hj2 : ¬ (i : Int) < 100 := by have := HK.out; omega
          clear hiK hlt hi hM2
          go_upto_region 14 with fail
          go_wp2_with (first | (go_at_call 13; refine HRM1.out.mono ?_; clear HRM1; rintro e w8 ⟨⟨p8, c8, rfl⟩, hb8⟩; have HB8 := hid_in hb8; clear hb8) | (go_at_call 13; have hx := HB8.out; clear hx; refine (HRM2.out _ HB8.out).mono ?_; clear HRM2; rintro e w9 ⟨⟨p9, c9, rfl⟩, hb9⟩; have HB9 := hid_in hb9; clear hb9) | (go_at_call 14; refine (HSY.out _ HB9.out).mono ?_; rintro e w10 ⟨rfl, rfl⟩))
          go_ret
          exact ⟨rfl, HBB.out.trans (HB9.out.mono HBB.out.size)⟩
        · have hj1 : ¬ (i : Int) < (M : Int) := by omega
          clear hiK hlt hi hM2
          go_upto_region 14 with fail
          go_wp2_with (first | (go_at_call 13; refine HRM1.out.mono ?_; clear HRM1; rintro e w8 ⟨⟨p8, c8, rfl⟩, hb8⟩; have HB8 := hid_in hb8; clear hb8) | (go_at_call 13; have hx := HB8.out; clear hx; refine (HRM2.out _ HB8.out).mono ?_; clear HRM2; rintro e w9 ⟨⟨p9, c9, rfl⟩, hb9⟩; have HB9 := hid_in hb9; clear hb9) | (go_at_call 14; refine (HSY.out _ HB9.out).mono ?_; rintro e w10 ⟨rfl, rfl⟩))
          go_ret
          exact ⟨rfl, HBB.out.trans (HB9.out.mono HBB.out.size)⟩
end Go.Proofs.Ytcdmdmbdgmihfaa.Pt
