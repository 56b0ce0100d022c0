/-
  The walk of SessionOnce.
-/
import Derived.Deep.RegionLaw
import Derived.Deep.DrawnRows
import Derived.OwnWalk
import Derived.Lib.AppendZeros
import Derived.Laws.StructEq
import Derived.Laws.Tables
import Derived.Laws.CopyOwn
import Derived.Test.YtiijlnlkhpneaaaA00
import Derived.Test.YtiijlnlkhpneaaaA01
import Derived.Test.YtiijlnlkhpneaaaA02
import Derived.Test.YtiijlnlkhpneaaaA03
import Derived.Test.YtiijlnlkhpneaaaA04
import Derived.Test.YtiijlnlkhpneaaaA05
import Derived.Test.YtiijlnlkhpneaaaA06
namespace Go.Proofs.Ytiijlnlkhpneaaa.Se
open Go.RowKit
open Nd (Row wp_world grownBy_setCell below_of_grown grownBy_trans grown_of_below grownBy_refl)
theorem row_grown {w w' : World} {b g : Nat} {vs : List Value} {t : TypeId} (h : Row w b vs t) (hg : w.grownBy w' (some g)) (hne : b ≠ g) : Row w' b vs t := h.grown hg (fun e => hne (Option.some.inj e))
set_option maxHeartbeats 16000000 in
set_option maxRecDepth 100000 in
theorem once_any (room : Int) (a : World) (v : Value) (ss : List Act1) (h : Acts a v ss) :
    Calls Try.prog 4 #[.int .i64 room, v] a fun e w' => e = .returned (.bool true) ∧ Below a.heap.size a w' := by
  have HAW := hid_in (awake_any a)
  have HFI := hid_in (fun W (x : Below a.heap.size a W) => fits_any W v ss (h.below x))
  obtain ⟨p, cp, rfl, hl, hat⟩ := h.at_
  have HAT := hid_in hat
  have hM : (ss.length : Int) ≤ 9223372036854775807 := by omega
  generalize hn : ss.length = M at *
  have HNN := hid_in hn
  obtain ⟨K, HK⟩ : ∃ K, Hid (K = min M 200) := ⟨_, hid_in rfl⟩
  clear h hat hl hn
  go_enter Try.func4, Try.ntmps4
  go_upto_region 3 with (first | (go_at_call 8; refine HAW.out.mono ?_; rintro e w1 ⟨rfl, hb1⟩; have HB1 := hid_in hb1; clear hb1))
  by_cases hro : roomOk room
  · have r1 : ¬ room < 0 := by have := hro.1; omega
    have r2 : ¬ 8192 < room := by have := hro.2; omega
    have H0 := hid_in hro.1
    have HMK := hid_in (fun W => make_ok room W hro)
    clear hro
    go_upto_region 5 with (first | (go_at_call 9; refine (HFI.out _ HB1.out).mono ?_; rintro e w2 ⟨⟨ft, rfl⟩, rfl⟩; rcases ft with _ | _))
    · go_wp2_with fail
      go_ret
      exact ⟨rfl, HB1.out⟩
    · go_upto_region 8 with (first | (go_at_call 10; refine (HMK.out _).mono ?_; rintro e w3 ⟨g, rfl, ht3, hb3, hg3⟩; have HT3 := hid_in ht3; have HB3 := hid_in (HB1.out.trans (hb3.mono HB1.out.size)); have HGA := hid_in (Nat.le_trans HB1.out.size hg3); clear ht3 hb3 hg3))
      obtain ⟨l, HL⟩ : ∃ l, Hid (w3.heap.size = l) := ⟨_, hid_in rfl⟩
      have HLG : Hid (l ≠ g) := hid_in (by have := HT3.out.lt; have := HL.out; omega)
      have HLA : Hid (a.heap.size ≤ l) := hid_in (by rw [← HL.out]; exact HB3.out.size)
      have HST : Hid (Tab (w3.alloc (.cells (nine noTab).toArray 42)) g room noTab ∧ Row (w3.alloc (.cells (nine noTab).toArray 42)) l (nine noTab) 42 ∧ Below a.heap.size a (w3.alloc (.cells (nine noTab).toArray 42))) := hid_in ⟨HT3.out.alloc _, Row.newAt w3 l _ 42 HL.out, HB3.out.alloc HB3.out.size _⟩
      go_wp2_with fail
      rw [HL.out]
      go_loopw [8] (fun vi W => ∃ (i : Nat) (T : List Seat), i ≤ K ∧ vi = .int .i64 (i : Int) ∧ Hid (Right T) ∧ Hid (Tab W g room T ∧ Row W l (nine T) 42 ∧ Below a.heap.size a W)) (fun vi _ => K - (intOf vi).toNat)
      case atStart => exact ⟨0, noTab, by omega, rfl, right_no, HST.out⟩
      case round =>
        obtain ⟨i, T, hi, rfl, hr, hst⟩ := hrel
        by_cases hlt : i < K
        · have hj1 : (i : Int) < (M : Int) := by have := HK.out; omega
          have hj2 : (i : Int) < 200 := by have := HK.out; omega
          have HLT := hid_in hlt
          have hlo : i < ss.length := by rw [HNN.out]; have := HK.out; omega
          obtain ⟨b, o, rfl, hcs⟩ := HAT.out (by intro e; rw [e] at hlo; simp at hlo)
          obtain ⟨a0, a1, a2, a3, a4⟩ := hcs wr hst.out.2.2 i _ (List.getElem?_eq_getElem hlo)
          generalize ss[i] = x at *
          obtain ⟨xf, xc, xn, xa, xr⟩ := x
          simp only at a0 a1 a2 a3 a4
          obtain ⟨w4, HW4⟩ : ∃ w4, Hid (wr.alloc (.cells #[.bool xf, .int .i64 xc, .int .i64 xn, .int .i64 xa, .string xr] 44) = w4) := ⟨_, hid_in rfl⟩
          have HB4 : Hid (Below wr.heap.size wr w4) := by rw [← HW4.out]; exact (Below.refl _ _).alloc (Nat.le_refl _) _
          have HR4 : Hid (Row w4 wr.heap.size [.bool xf, .int .i64 xc, .int .i64 xn, .int .i64 xa, .string xr] 44) := by rw [← HW4.out]; exact Row.new wr [.bool xf, .int .i64 xc, .int .i64 xn, .int .i64 xa, .string xr] 44
          have HS4 : Hid (Tab w4 g room T ∧ Row w4 l (nine T) 42 ∧ Below a.heap.size a w4) := hid_in ⟨hst.out.1.below HB4.out hst.out.1.lt, hst.out.2.1.below HB4.out hst.out.2.1.lt, hst.out.2.2.trans (HB4.out.mono hst.out.2.2.size)⟩
          have HNG : Hid (wr.heap.size ≠ g) := hid_in (by have := hst.out.1.lt; omega)
          have HNL : Hid (wr.heap.size ≠ l) := hid_in (by have := hst.out.2.1.lt; omega)
          clear hlo hcs hlt hi
          go_upto_region 13 with fail
          refine wp_world HW4.out ?_
          clear a0 a1 a2 a3 a4
          have b0 : w4.cell? ⟨wr.heap.size, 0, none⟩ = some (.bool xf) := HR4.out.cell 0
          have b1 : w4.cell? ⟨wr.heap.size, 1, none⟩ = some (.int .i64 xc) := HR4.out.cell 1
          have b2 : w4.cell? ⟨wr.heap.size, 2, none⟩ = some (.int .i64 xn) := HR4.out.cell 2
          have b3 : w4.cell? ⟨wr.heap.size, 3, none⟩ = some (.int .i64 xa) := HR4.out.cell 3
          have b4 : w4.cell? ⟨wr.heap.size, 4, none⟩ = some (.string xr) := HR4.out.cell 4
          rcases xf with _ | _
          · have HRE := hid_in (record_any HS4.out.1 hr.out H0.out xc xn xa xr)
            have HCA := hid_in (rec_cases H0.out hr.out xc xn xa xr)
            go_upto_region 16 with (first | (go_at_call 17; refine HRE.out.mono ?_; rintro e w5 ⟨rfl, ht5, hg5⟩; have HT5 := hid_in ht5; have HG5 := hid_in hg5; clear ht5 hg5))
            have HR5 := hid_in (row_grown HR4.out HG5.out HNG.out)
            have HN5 := hid_in (row_grown HS4.out.2.1 HG5.out HLG.out)
            have HB5 := hid_in (below_of_grown HS4.out.2.2 HG5.out HS4.out.2.2.size HGA.out)
            have d1 : w5.cell? ⟨wr.heap.size, 1, none⟩ = some (.int .i64 xc) := HR5.out.cell 1
            have d2 : w5.cell? ⟨wr.heap.size, 2, none⟩ = some (.int .i64 xn) := HR5.out.cell 2
            clear b0 b1 b2 b3 b4
            rcases HCA.out with ⟨k1, k2, k3⟩ | ⟨k, s, k1, k2, rfl, k4, k5, k6, k7, k8, k9, k10⟩
            · rw [k2] at HT5
              generalize recE T xc xn xr = E at *
              by_cases hC : isC xc = true
              · have hC2 : 1 ≤ xc ∧ xc ≤ 8 := of_decide_eq_true hC
                have y1 : ¬ xc < 1 := by omega
                have y2 : ¬ 8 < xc := by omega
                have y3 : (E == 0) = false := by simpa using k1
                have HS5 : Hid (Tab w5 g room T ∧ Row w5 l (nine T) 42 ∧ Below a.heap.size a w5) := hid_in ⟨HT5.out, HN5.out, HB5.out⟩
                clear k1 k2 k3 hC hC2
                go_wp2_with fail
                go_loopw [11] (fun vc W => ∃ c : Nat, 1 ≤ c ∧ c ≤ 9 ∧ vc = .int .i64 (c : Int) ∧ Hid (Tab W g room T ∧ Row W l (nine T) 42 ∧ Below a.heap.size a W)) (fun vc _ => 9 - (intOf vc).toNat)
                case atStart => exact ⟨1, by omega, by omega, rfl, HS5.out⟩
                case round =>
                  obtain ⟨c, hc1, hc2, rfl, hst⟩ := hrel
                  by_cases hc8 : c < 9
                  · obtain ⟨k, rfl⟩ : ∃ k, c = k + 1 := ⟨c - 1, by omega⟩
                    obtain ⟨s, hs⟩ : ∃ s, T[k]? = some s := ⟨_, List.getElem?_eq_getElem (by rw [hr.out.len]; omega)⟩
                    have q0 : wr.cell? ⟨l, k + 1, none⟩ = some (.int .i64 s.number) := by rw [hst.out.2.1.cell]; exact nine_at hs
                    have HLK := hid_in (fun W (x : Tab W g room T) => look_any x ((k : Int) + 1) s.number)
                    have HOWN := hid_in (look_own hr.out (by omega) hs)
                    have HQ := hid_in (fun W (x : Below wr.heap.size wr W) => (by rw [((hst.out.2.1).below x (hst.out.2.1).lt).cell]; exact nine_at hs : W.cell? ⟨l, k + 1, none⟩ = some (.int .i64 s.number)))
                    generalize lookS T ((k : Int) + 1) s.number = lk at *
                    generalize s.number = sn at *
                    have hk8 : (k : Int) + 1 ≤ 8 := by omega
                    have hk9 : (k : Int) + 1 < 9 := by omega
                    have hk0 : 0 ≤ (k : Int) + 1 := by omega
                    have HC8 := hid_in hc8
                    have hcast : ((k + 1 : Nat) : Int) = (k : Int) + 1 := by omega
                    rw [hcast]
                    clear hs hc1 hc2 hc8 hcast
                    go_upto_region 27 with (first | (go_at_call 14; refine (HLK.out _ hst.out.1).mono ?_; rintro e w7 ⟨rfl, hb7⟩; have HB7 := hid_in hb7; clear hb7))
                    have q7 := HQ.out _ HB7.out
                    have HST7 : Hid (Tab w7 g room T ∧ Row w7 l (nine T) 42 ∧ Below a.heap.size a w7) := hid_in ⟨hst.out.1.below HB7.out hst.out.1.lt, hst.out.2.1.below HB7.out hst.out.2.1.lt, hst.out.2.2.trans (HB7.out.mono hst.out.2.2.size)⟩
                    obtain ⟨l1, l2⟩ := lk
                    simp only at HOWN
                    rcases HOWN.out with ⟨z1, z2⟩ | ⟨z1, z2, z3⟩
                    · subst z1
                      subst z2
                      go_wp2_with fail
                      exact ⟨⟨k + 2, by omega, by have := HC8.out; omega, by go_num, HST7.out⟩, by have := HC8.out; simp [intOf]; omega⟩
                    · have y1 : (sn == 0) = false := by simpa using z1
                      have y2 : (l1 == 0) = false := by simpa using z2
                      have y3 : (l1 == 1) = false := by simpa using z3
                      clear z1 z2 z3
                      go_wp2_with fail
                      exact ⟨⟨k + 2, by omega, by have := HC8.out; omega, by go_num, HST7.out⟩, by have := HC8.out; simp [intOf]; omega⟩
                  · obtain rfl : c = 9 := by omega
                    clear hc1 hc2 hc8
                    go_wp2_with fail
                    exact ⟨⟨i + 1, T, by have := HLT.out; omega, by go_num, hr.out, hst.out⟩, by have := HLT.out; simp [intOf]; omega⟩
              · have hCf : isC xc = false := by simpa using hC
                have hE := k3 hCf
                subst hE
                have hC2 : ¬ (1 ≤ xc ∧ xc ≤ 8) := of_decide_eq_false hCf
                have HS5 : Hid (Tab w5 g room T ∧ Row w5 l (nine T) 42 ∧ Below a.heap.size a w5) := hid_in ⟨HT5.out, HN5.out, HB5.out⟩
                clear k1 k2 k3 hC hCf
                by_cases y1 : xc < 1
                · clear hC2
                  go_wp2_with fail
                  exact ⟨⟨i + 1, T, by have := HLT.out; omega, by go_num, hr.out, HS5.out⟩, by have := HLT.out; simp [intOf]; omega⟩
                · have y2 : 8 < xc := by omega
                  clear hC2
                  go_wp2_with fail
                  exact ⟨⟨i + 1, T, by have := HLT.out; omega, by go_num, hr.out, HS5.out⟩, by have := HLT.out; simp [intOf]; omega⟩
            · rw [k1]
              rw [k8] at HT5 k10
              have HR2 := hid_in k10
              have HNI := hid_in (rec_nine H0.out k9)
              have t9 : w5.cell? ⟨l, k + 1, none⟩ = some (.int .i64 s.number) := by rw [HN5.out.cell]; exact nine_at k4
              have HZ := hid_in (fun W (x : Row W l (nine T) 42) => x.frozen (k + 1))
              have HQ9 := hid_in (fun W (x : Row W l (nine T) 42) => (by rw [x.cell]; exact nine_at k4 : W.cell? ⟨l, k + 1, none⟩ = some (.int .i64 s.number)))
              generalize mkR room (T.set k ⟨(k : Int) + 1, xn, xa, true, xr⟩) = T2 at *
              generalize hsn : s.number = sn at *
              have y1 : ¬ (k : Int) + 1 < 1 := by omega
              have y2 : ¬ 8 < (k : Int) + 1 := by omega
              have y3 : ¬ xn ≤ sn := by omega
              have y4 : (k : Int) + 1 < 9 := by omega
              have y5 : 0 ≤ (k : Int) + 1 := by omega
              clear k1 k2 k4 k5 k6 k7 k8 k9 k10 hsn
              go_upto_region 20 with fail
              go_quiet (fail)
              have HB6 : Hid (Below w5.heap.size w5 (w5.drewN nq)) := hid_in (Nd.below_drewN (Below.refl _ w5) nq)
              have HR6 := hid_in (HR5.out.below HB6.out HR5.out.lt)
              have HN6 := hid_in (HN5.out.below HB6.out HN5.out.lt)
              have HT6 := hid_in (HT5.out.below HB6.out HT5.out.lt)
              have hbd : Below a.heap.size a (w5.drewN nq) := HB5.out.trans (HB6.out.mono HB5.out.size)
              generalize w5.drewN nq = w6 at *
              have e1 : w6.cell? ⟨wr.heap.size, 1, none⟩ = some (.int .i64 ((k : Int) + 1)) := HR6.out.cell 1
              have e2 : w6.cell? ⟨wr.heap.size, 2, none⟩ = some (.int .i64 xn) := HR6.out.cell 2
              have e9 := HQ9.out _ HN6.out
              have z9 := HZ.out _ HN6.out
              have HN7 : Hid (Row (w6.setCell ⟨l, k + 1, none⟩ (.int .i64 xn)) l (nine T2) 42) := hid_in (by rw [HNI.out]; exact HN6.out.set_same (k + 1) _)
              have hg7 := grownBy_setCell w6 ⟨l, k + 1, none⟩ (.int .i64 xn)
              have HS7 : Hid (Tab (w6.setCell ⟨l, k + 1, none⟩ (.int .i64 xn)) g room T2 ∧ Row (w6.setCell ⟨l, k + 1, none⟩ (.int .i64 xn)) l (nine T2) 42 ∧ Below a.heap.size a (w6.setCell ⟨l, k + 1, none⟩ (.int .i64 xn))) := hid_in ⟨HT6.out.grown hg7 (fun e => HLG.out (Option.some.inj e).symm), HN7.out, below_of_grown hbd hg7 hbd.size HLA.out⟩
              clear hg7 hbd d1 d2 t9
              go_wp2_with fail
              go_loopw [11] (fun vc W => ∃ c : Nat, 1 ≤ c ∧ c ≤ 9 ∧ vc = .int .i64 (c : Int) ∧ Hid (Tab W g room T2 ∧ Row W l (nine T2) 42 ∧ Below a.heap.size a W)) (fun vc _ => 9 - (intOf vc).toNat)
              case atStart => exact ⟨1, by omega, by omega, rfl, HS7.out⟩
              case round =>
                obtain ⟨c, hc1, hc2, rfl, hst⟩ := hrel
                by_cases hc8 : c < 9
                · obtain ⟨k, rfl⟩ : ∃ k, c = k + 1 := ⟨c - 1, by omega⟩
                  obtain ⟨s, hs⟩ : ∃ s, T2[k]? = some s := ⟨_, List.getElem?_eq_getElem (by rw [HR2.out.len]; omega)⟩
                  have q0 : wr.cell? ⟨l, k + 1, none⟩ = some (.int .i64 s.number) := by rw [hst.out.2.1.cell]; exact nine_at hs
                  have HLK := hid_in (fun W (x : Tab W g room T2) => look_any x ((k : Int) + 1) s.number)
                  have HOWN := hid_in (look_own HR2.out (by omega) hs)
                  have HQ := hid_in (fun W (x : Below wr.heap.size wr W) => (by rw [((hst.out.2.1).below x (hst.out.2.1).lt).cell]; exact nine_at hs : W.cell? ⟨l, k + 1, none⟩ = some (.int .i64 s.number)))
                  generalize lookS T2 ((k : Int) + 1) s.number = lk at *
                  generalize s.number = sn at *
                  have hk8 : (k : Int) + 1 ≤ 8 := by omega
                  have hk9 : (k : Int) + 1 < 9 := by omega
                  have hk0 : 0 ≤ (k : Int) + 1 := by omega
                  have HC8 := hid_in hc8
                  have hcast : ((k + 1 : Nat) : Int) = (k : Int) + 1 := by omega
                  rw [hcast]
                  clear hs hc1 hc2 hc8 hcast
                  go_upto_region 27 with (first | (go_at_call 14; refine (HLK.out _ hst.out.1).mono ?_; rintro e w7 ⟨rfl, hb7⟩; have HB7 := hid_in hb7; clear hb7))
                  have q7 := HQ.out _ HB7.out
                  have HST7 : Hid (Tab w7 g room T2 ∧ Row w7 l (nine T2) 42 ∧ Below a.heap.size a w7) := hid_in ⟨hst.out.1.below HB7.out hst.out.1.lt, hst.out.2.1.below HB7.out hst.out.2.1.lt, hst.out.2.2.trans (HB7.out.mono hst.out.2.2.size)⟩
                  obtain ⟨l1, l2⟩ := lk
                  simp only at HOWN
                  rcases HOWN.out with ⟨z1, z2⟩ | ⟨z1, z2, z3⟩
                  · subst z1
                    subst z2
                    go_wp2_with fail
                    exact ⟨⟨k + 2, by omega, by have := HC8.out; omega, by go_num, HST7.out⟩, by have := HC8.out; simp [intOf]; omega⟩
                  · have y1 : (sn == 0) = false := by simpa using z1
                    have y2 : (l1 == 0) = false := by simpa using z2
                    have y3 : (l1 == 1) = false := by simpa using z3
                    clear z1 z2 z3
                    go_wp2_with fail
                    exact ⟨⟨k + 2, by omega, by have := HC8.out; omega, by go_num, HST7.out⟩, by have := HC8.out; simp [intOf]; omega⟩
                · obtain rfl : c = 9 := by omega
                  clear hc1 hc2 hc8
                  go_wp2_with fail
                  exact ⟨⟨i + 1, T2, by have := HLT.out; omega, by go_num, HR2.out, hst.out⟩, by have := HLT.out; simp [intOf]; omega⟩
          · have HFO := hid_in (forget_any HS4.out.1 xc)
            have HNU := hid_in (forgT_nums hr.out xc)
            go_wp2_with (first | (go_at_call 16; refine HFO.out.mono ?_; rintro e w5 ⟨rfl, ht5, hg5, hs5⟩; have HT5 := hid_in ht5; have HG5 := hid_in hg5; clear ht5 hg5 hs5))
            exact ⟨⟨i + 1, forgT T xc, by have := HLT.out; omega, by go_num, HNU.out.2, HT5.out, by unfold nine; rw [HNU.out.1]; exact row_grown HS4.out.2.1 HG5.out HLG.out, below_of_grown HS4.out.2.2 HG5.out HS4.out.2.2.size HGA.out⟩, by have := HLT.out; simp [intOf]; omega⟩
        · have hiK : i = K := by omega
          by_cases hM2 : i < M
          · have hj1 : (i : Int) < (M : Int) := by omega
            have hj2 : ¬ (i : Int) < 200 := by have := HK.out; omega
            clear hiK hlt hi hM2
            have HLS := hid_in (list_any hst.out.1)
            have HLI := hid_in (fun k s h => listed hr.out (k := k) (s := s) h)
            have HL8 := hid_in (filter_le8 hr.out)
            generalize hX : T.filter seated = X at *
            clear hX
            go_upto_region 30 with (first | (go_at_call 13; refine HLS.out.mono ?_; rintro e w5 ⟨v5, rfl, hso5, hb5⟩; have HSO := hid_in hso5; have HB5 := hid_in hb5; clear hso5 hb5))
            have HROW := hid_in (hst.out.2.1.below HB5.out hst.out.2.1.lt)
            have HBF := hid_in (hst.out.2.2.trans (HB5.out.mono hst.out.2.2.size))
            obtain ⟨p5, c5, rfl, -, hat5⟩ := HSO.out.sls.at_
            have HAT5 := hid_in hat5
            have h8 : (X.length : Int) ≤ 8 := by have := HL8.out; omega
            generalize hm : X.length = m at *
            have HM := hid_in hm
            clear hm hat5
            go_wp2_with fail
            go_loopw [15] (fun vk W => ∃ k : Nat, k ≤ m ∧ vk = .int .i64 (k : Int) ∧ ∃ d, W = w5.drewN d) (fun vk _ => m - (intOf vk).toNat)
            case atStart => exact ⟨0, by omega, rfl, 0, rfl⟩
            case round =>
              obtain ⟨k, hk, rfl, d, rfl⟩ := hrel
              by_cases hkm : k < m
              · obtain ⟨s, hs⟩ : ∃ s, X[k]? = some s := ⟨_, List.getElem?_eq_getElem (by rw [HM.out]; exact hkm)⟩
                obtain ⟨b5, o5, rfl, hcs5⟩ := HAT5.out (by rintro rfl; simp at hs)
                obtain ⟨u0, u1, -, -, -⟩ := hcs5 _ (Below.refl _ _) k s hs
                obtain ⟨j, hj, -, hcl, -, hn9⟩ := HLI.out k s hs
                have u9 : w5.cell? ⟨l, j + 1, none⟩ = some (.int .i64 s.number) := by rw [HROW.out.cell]; exact hn9
                rw [hcl] at u0
                generalize s.number = sn at *
                have hkm2 : (k : Int) < (m : Int) := by omega
                have j1 : (j : Int) + 1 < 9 := by omega
                have j2 : 0 ≤ (j : Int) + 1 := by omega
                have HKM := hid_in hkm
                clear hs hcs5 hj hcl hn9 hk hkm
                go_upto_region 33 with fail
                go_quiet (fail)
                go_wp2_with fail
                exact ⟨⟨k + 1, by have := HKM.out; omega, by go_num, _, rfl⟩, by have := HKM.out; simp [intOf]; omega⟩
              · obtain rfl : k = m := by omega
                clear hk hkm
                go_wp2_with fail
                go_ret
                exact ⟨rfl, Nd.below_drewN HBF.out d⟩
          · have hj1 : ¬ (i : Int) < (M : Int) := by omega
            clear hiK hlt hi hM2
            have HLS := hid_in (list_any hst.out.1)
            have HLI := hid_in (fun k s h => listed hr.out (k := k) (s := s) h)
            have HL8 := hid_in (filter_le8 hr.out)
            generalize hX : T.filter seated = X at *
            clear hX
            go_upto_region 30 with (first | (go_at_call 13; refine HLS.out.mono ?_; rintro e w5 ⟨v5, rfl, hso5, hb5⟩; have HSO := hid_in hso5; have HB5 := hid_in hb5; clear hso5 hb5))
            have HROW := hid_in (hst.out.2.1.below HB5.out hst.out.2.1.lt)
            have HBF := hid_in (hst.out.2.2.trans (HB5.out.mono hst.out.2.2.size))
            obtain ⟨p5, c5, rfl, -, hat5⟩ := HSO.out.sls.at_
            have HAT5 := hid_in hat5
            have h8 : (X.length : Int) ≤ 8 := by have := HL8.out; omega
            generalize hm : X.length = m at *
            have HM := hid_in hm
            clear hm hat5
            go_wp2_with fail
            go_loopw [15] (fun vk W => ∃ k : Nat, k ≤ m ∧ vk = .int .i64 (k : Int) ∧ ∃ d, W = w5.drewN d) (fun vk _ => m - (intOf vk).toNat)
            case atStart => exact ⟨0, by omega, rfl, 0, rfl⟩
            case round =>
              obtain ⟨k, hk, rfl, d, rfl⟩ := hrel
              by_cases hkm : k < m
              · obtain ⟨s, hs⟩ : ∃ s, X[k]? = some s := ⟨_, List.getElem?_eq_getElem (by rw [HM.out]; exact hkm)⟩
                obtain ⟨b5, o5, rfl, hcs5⟩ := HAT5.out (by rintro rfl; simp at hs)
                obtain ⟨u0, u1, -, -, -⟩ := hcs5 _ (Below.refl _ _) k s hs
                obtain ⟨j, hj, -, hcl, -, hn9⟩ := HLI.out k s hs
                have u9 : w5.cell? ⟨l, j + 1, none⟩ = some (.int .i64 s.number) := by rw [HROW.out.cell]; exact hn9
                rw [hcl] at u0
                generalize s.number = sn at *
                have hkm2 : (k : Int) < (m : Int) := by omega
                have j1 : (j : Int) + 1 < 9 := by omega
                have j2 : 0 ≤ (j : Int) + 1 := by omega
                have HKM := hid_in hkm
                clear hs hcs5 hj hcl hn9 hk hkm
                go_upto_region 33 with fail
                go_quiet (fail)
                go_wp2_with fail
                exact ⟨⟨k + 1, by have := HKM.out; omega, by go_num, _, rfl⟩, by have := HKM.out; simp [intOf]; omega⟩
              · obtain rfl : k = m := by omega
                clear hk hkm
                go_wp2_with fail
                go_ret
                exact ⟨rfl, Nd.below_drewN HBF.out d⟩
  · unfold roomOk at hro
    by_cases r1 : room < 0
    · clear hro
      go_wp2_with (first | (go_at_call 9; refine (HFI.out _ HB1.out).mono ?_; rintro e w2 ⟨⟨ft, rfl⟩, rfl⟩; rcases ft with _ | _))
      all_goals
        go_wp2_with fail
        go_ret
        exact ⟨rfl, HB1.out⟩
    · have r2 : 8192 < room := by omega
      clear hro
      go_wp2_with (first | (go_at_call 9; refine (HFI.out _ HB1.out).mono ?_; rintro e w2 ⟨⟨ft, rfl⟩, rfl⟩; rcases ft with _ | _))
      all_goals
        go_wp2_with fail
        go_ret
        exact ⟨rfl, HB1.out⟩
end Go.Proofs.Ytiijlnlkhpneaaa.Se
