/-
  Record. A script that is read; fits; awake. Plain facts for SessionOnce.
-/
import Derived.OwnWalk
import Derived.Laws.CopyOwn
import Derived.Laws.Tables
import Derived.Deep.RegionLaw
import Derived.Deep.DrawnRows
import Derived.Test.YtiijlnlkhpneaaaF00
import Derived.Test.YtiijlnlkhpneaaaF01
import Derived.Test.YtiijlnlkhpneaaaF02
import Derived.Test.YtiijlnlkhpneaaaF03
import Derived.Test.YtiijlnlkhpneaaaF04
import Derived.Test.YtiijlnlkhpneaaaF05
import Derived.Test.YtiijlnlkhpneaaaF06
import Derived.Test.YtiijlnlkhpneaaaF07
import Derived.Test.YtiijlnlkhpneaaaF08
import Derived.Test.YtiijlnlkhpneaaaF09
import Derived.Test.YtiijlnlkhpneaaaF10
import Derived.Test.YtiijlnlkhpneaaaF11
namespace Go.Proofs.Ytiijlnlkhpneaaa.Se
open Go.RowKit
open Nd (Row wp_world post_Row grownBy_setCell below_of_grown grownBy_trans grown_of_below grownBy_refl)
/-- what is wrong with a record -/
def recE (T : List Seat) (c n : Int) (r : ByteArray) : Int := if (lookS T c n).1 = 0 then 1 else if (lookS T c n).1 = 1 then (if 8192 < (r.size : Int) then 2 else 0) else 6
def recT (room : Int) (T : List Seat) (c n a : Int) (r : ByteArray) : List Seat := if recE T c n r = 0 then mkR room (T.set (c - 1).toNat ⟨c, n, a, true, r⟩) else T
theorem tcells_put5 : ∀ (T : List Seat) (i : Nat) (s : Seat), i < T.length → (((((tcells T).set (i * 5) (.int .i64 s.client)).set (i * 5 + 1) (.int .i64 s.number)).set (i * 5 + 2) (.int .i64 s.at_)).set (i * 5 + 3) (.bool s.kept)).set (i * 5 + 4) (.string s.reply) = tcells (T.set i s)
  | [], i, s, h => by simp at h
  | a :: r, 0, s, h => rfl
  | a :: r, i + 1, s, h => by
    have ih := tcells_put5 r i s (by simpa using h)
    have e : tcells (a :: r) = a.cells ++ tcells r := rfl
    have e2 : tcells ((a :: r).set (i + 1) s) = a.cells ++ tcells (r.set i s) := rfl
    rw [e, e2, ← ih, show (i + 1) * 5 + 3 = (i * 5 + 3) + 5 by omega, show (i + 1) * 5 + 4 = (i * 5 + 4) + 5 by omega, show (i + 1) * 5 + 2 = (i * 5 + 2) + 5 by omega, show (i + 1) * 5 + 1 = (i * 5 + 1) + 5 by omega, show (i + 1) * 5 = (i * 5) + 5 by omega]
    rfl
theorem tab_put5 {w : World} {g : Nat} {room : Int} {T : List Seat} (h : Tab w g room T) (i : Nat) (hi : i < 8) (s : Seat) : Tab (((((w.setCell ⟨g, 1 + i * 5, none⟩ (.int .i64 s.client)).setCell ⟨g, 1 + i * 5 + 1, none⟩ (.int .i64 s.number)).setCell ⟨g, 1 + i * 5 + 2, none⟩ (.int .i64 s.at_)).setCell ⟨g, 1 + i * 5 + 3, none⟩ (.bool s.kept)).setCell ⟨g, 1 + i * 5 + 4, none⟩ (.string s.reply)) g room (T.set i s) := by
  refine ⟨?_, by rw [List.length_set]; exact h.len⟩
  have h1 := ((((h.row.set_same (1 + i * 5) (.int .i64 s.client)).set_same (1 + i * 5 + 1) (.int .i64 s.number)).set_same (1 + i * 5 + 2) (.int .i64 s.at_)).set_same (1 + i * 5 + 3) (.bool s.kept)).set_same (1 + i * 5 + 4) (.string s.reply)
  rw [show 1 + i * 5 + 3 = (i * 5 + 3) + 1 by omega, show 1 + i * 5 + 4 = (i * 5 + 4) + 1 by omega, show 1 + i * 5 + 2 = (i * 5 + 2) + 1 by omega, show 1 + i * 5 + 1 = (i * 5 + 1) + 1 by omega, show 1 + i * 5 = (i * 5) + 1 by omega] at h1 ⊢
  rw [List.set_cons_succ, List.set_cons_succ, List.set_cons_succ, List.set_cons_succ, List.set_cons_succ, tcells_put5 T i s (by rw [h.len]; exact hi)] at h1
  exact h1
theorem look_range (T : List Seat) (c n : Int) (h : (lookS T c n).1 ≠ 0) : isC c = true ∧ isN n = true := by
  unfold lookS at h
  cases hc : isC c <;> cases hn : isN n <;> simp [hc, hn] at h ⊢
theorem right_put {T : List Seat} (hr : Right T) {i : Nat} {n a : Int} {r : ByteArray} (hn : isN n = true) (hl : r.size ≤ 8192) : Right (T.set i ⟨(i : Int) + 1, n, a, true, r⟩) :=
  hr.set i _ ⟨.inr ⟨hn, rfl⟩, (fun h => by cases h), hl⟩
set_option maxHeartbeats 4000000 in
set_option maxRecDepth 100000 in
theorem record_any {w : World} {g : Nat} {room : Int} {T : List Seat} (h : Tab w g room T) (hr : Right T) (h0 : 0 ≤ room) (c n a : Int) (r : ByteArray) :
    Calls Try.prog 17 #[.pointer (some ⟨g, 0, none⟩), .int .i64 c, .int .i64 n, .int .i64 a, .string r] w fun e w' => e = .returned (.int .i64 (recE T c n r)) ∧ Tab w' g room (recT room T c n a r) ∧ w.grownBy w' (some g) := by
  have H := hid_in h
  have HLK := hid_in (look_any h c n)
  have HIN := hid_in (look_range T c n)
  unfold recT
  unfold recE
  generalize (lookS T c n).2 = lr at *
  generalize (lookS T c n).1 = st at *
  by_cases k0 : st = 0
  · subst k0
    rw [if_pos rfl, if_neg (by decide)]
    clear h hr h0
    go_enter Try.func17, Try.ntmps17
    go_wp2_with (first | (go_at_call 14; refine HLK.out.mono ?_; rintro e w2 ⟨rfl, hb2⟩; have HB2 := hid_in hb2; clear hb2))
    go_ret
    exact ⟨rfl, H.out.below HB2.out H.out.lt, grown_of_below HB2.out⟩
  · rw [if_neg k0]
    have k0b : (st == 0) = false := by simpa using k0
    by_cases k1 : st = 1
    · subst k1
      rw [if_pos rfl]
      obtain ⟨hc, hn⟩ := HIN.out k0
      clear k0b
      by_cases k2 : 8192 < (r.size : Int)
      · rw [if_pos k2, if_neg (by decide)]
        clear h hr h0 hc hn
        go_enter Try.func17, Try.ntmps17
        go_wp2_with (first | (go_at_call 14; refine HLK.out.mono ?_; rintro e w2 ⟨rfl, hb2⟩; have HB2 := hid_in hb2; clear hb2))
        go_ret
        exact ⟨rfl, H.out.below HB2.out H.out.lt, grown_of_below HB2.out⟩
      · rw [if_neg k2, if_pos rfl]
        obtain ⟨i, s, hi, rfl, hs, -⟩ := isC_at hc h.len
        have e1 : ((i : Int) + 1 - 1).toNat = i := by omega
        rw [e1]
        have HI := hid_in hi
        have HRP := hid_in (right_put (i := i) (a := a) hr hn (by omega : r.size ≤ 8192))
        have HCS := hid_in (fun W (x : Below w.heap.size w W) => (h.below x h.lt).cs hs)
        have HZ := hid_in (fun W (x : Below w.heap.size w W) j => (h.below x h.lt).row.frozen j)
        have HMR := hid_in (fun W (x : Tab W g room (T.set i ⟨(i : Int) + 1, n, a, true, r⟩)) => makeRoom_any x HRP.out h0)
        have e3 : (i : Int) < 8 := by omega
        have e4 : 0 ≤ (i : Int) := by omega
        clear h hr h0 hc hn hs e1 hi k0
        go_enter Try.func17, Try.ntmps17
        go_upto_region 10 with (first | (go_at_call 14; refine HLK.out.mono ?_; rintro e w2 ⟨rfl, hb2⟩; have HB2 := hid_in hb2; clear hb2))
        obtain ⟨c0, c1, c2, c3, c4⟩ := HCS.out _ HB2.out
        have z0 := HZ.out _ HB2.out (1 + i * 5)
        have z1 := HZ.out _ HB2.out (1 + i * 5 + 1)
        have z2 := HZ.out _ HB2.out (1 + i * 5 + 2)
        have z3 := HZ.out _ HB2.out (1 + i * 5 + 3)
        have z4 := HZ.out _ HB2.out (1 + i * 5 + 4)
        have HT3 := hid_in (tab_put5 (H.out.below HB2.out H.out.lt) i HI.out ⟨(i : Int) + 1, n, a, true, r⟩)
        simp only at HT3
        have HG3 : Hid (w2.grownBy (((((w2.setCell ⟨g, 1 + i * 5, none⟩ (.int .i64 ((i : Int) + 1))).setCell ⟨g, 1 + i * 5 + 1, none⟩ (.int .i64 n)).setCell ⟨g, 1 + i * 5 + 2, none⟩ (.int .i64 a)).setCell ⟨g, 1 + i * 5 + 3, none⟩ (.bool true)).setCell ⟨g, 1 + i * 5 + 4, none⟩ (.string r)) (some g)) := hid_in (grownBy_trans (grownBy_trans (grownBy_trans (grownBy_trans (grownBy_setCell _ _ _) (grownBy_setCell _ _ _)) (grownBy_setCell _ _ _)) (grownBy_setCell _ _ _)) (grownBy_setCell _ _ _))
        go_wp2_with (first | (go_at_call 29; refine (HMR.out _ HT3.out).mono ?_; rintro e w5 ⟨rfl, ht5, hg5⟩; have HT5 := hid_in ht5; have HG5 := hid_in hg5; clear ht5 hg5))
        go_ret
        exact ⟨rfl, HT5.out, grownBy_trans (grown_of_below HB2.out) (grownBy_trans HG3.out HG5.out)⟩
    · rw [if_neg k1, if_neg (by decide)]
      have k1b : (st != 1) = true := by simpa using k1
      clear h hr h0 k0 k1
      go_enter Try.func17, Try.ntmps17
      go_wp2_with (first | (go_at_call 14; refine HLK.out.mono ?_; rintro e w2 ⟨rfl, hb2⟩; have HB2 := hid_in hb2; clear hb2))
      go_ret
      exact ⟨rfl, H.out.below HB2.out H.out.lt, grown_of_below HB2.out⟩
end Go.Proofs.Ytiijlnlkhpneaaa.Se
namespace Go.Proofs.Ytiijlnlkhpneaaa.Se
open Go.RowKit
open Nd (Row wp_world post_Row grownBy_setCell below_of_grown grownBy_trans grown_of_below grownBy_refl)
/-- a record, or a forget -/
structure Act1 where
  forget : Bool
  client : Int
  number : Int
  at_ : Int
  reply : ByteArray
def Act1.cells (s : Act1) : List Value := [.bool s.forget, .int .i64 s.client, .int .i64 s.number, .int .i64 s.at_, .string s.reply]
/-- a value that reads as acts -/
def Acts (w : World) (v : Value) (ss : List Act1) : Prop := ∃ p cap b o, v = .slice p ss.length cap ∧ ss.length ≤ cap ∧ cap ≤ 9223372036854775807 ∧ (ss ≠ [] → p = some ⟨b, o, none⟩ ∧ b < w.heap.size) ∧ (∀ (i : Nat) x, ss[i]? = some x → w.rangeAt b (o + i * 5) x.cells)
theorem Acts.below {w w' : World} {v : Value} {ss : List Act1} (h : Acts w v ss) (hb : Below w.heap.size w w') : Acts w' v ss := by
  obtain ⟨p, cap, b, o, h1, h2, h3, h4, h5⟩ := h
  refine ⟨p, cap, b, o, h1, h2, h3, fun hn => ⟨(h4 hn).1, Nat.lt_of_lt_of_le (h4 hn).2 hb.size⟩, fun i x hi j u hj => ?_⟩
  have hne : ss ≠ [] := by rintro rfl; simp at hi
  rw [hb.cell (p := ⟨b, _, none⟩) (h4 hne).2]
  exact h5 i x hi j u hj
theorem Acts.at_ {w : World} {v : Value} {ss : List Act1} (h : Acts w v ss) : ∃ p c, v = .slice p ss.length c ∧ ss.length ≤ 9223372036854775807 ∧ (ss ≠ [] → ∃ b o, p = some ⟨b, o, none⟩ ∧ ∀ W, Below w.heap.size w W → ∀ (i : Nat) x, ss[i]? = some x → W.cell? ⟨b, o + i * 5, none⟩ = some (.bool x.forget) ∧ W.cell? ⟨b, o + i * 5 + 1, none⟩ = some (.int .i64 x.client) ∧ W.cell? ⟨b, o + i * 5 + 2, none⟩ = some (.int .i64 x.number) ∧ W.cell? ⟨b, o + i * 5 + 3, none⟩ = some (.int .i64 x.at_) ∧ W.cell? ⟨b, o + i * 5 + 4, none⟩ = some (.string x.reply)) := by
  obtain ⟨p, cap, b, o, h1, h2, h3, h4, h5⟩ := h
  refine ⟨p, cap, h1, by omega, fun hne => ⟨b, o, (h4 hne).1, fun W hb i x hi => ?_⟩⟩
  have hr := h5 i x hi
  have hc : ∀ j, W.cell? ⟨b, j, none⟩ = w.cell? ⟨b, j, none⟩ := fun j => hb.cell (p := ⟨b, j, none⟩) (h4 hne).2
  simp only [hc]
  exact ⟨hr 0 _ rfl, hr 1 _ rfl, hr 2 _ rfl, hr 3 _ rfl, hr 4 _ rfl⟩
set_option maxHeartbeats 2000000 in
set_option maxRecDepth 100000 in
theorem fits_any (w : World) (v : Value) (ss : List Act1) (h : Acts w v ss) :
    Calls Try.prog 9 #[v] w fun e w' => (∃ t, e = .returned (.bool t)) ∧ w' = w := by
  obtain ⟨p, c, rfl, hl, hat⟩ := h.at_
  have HAT := hid_in hat
  have hM : (ss.length : Int) ≤ 9223372036854775807 := by omega
  generalize hn : ss.length = n at *
  have HNN := hid_in hn
  clear h hat hl hn
  go_enter Try.func9, Try.ntmps9
  go_wp2
  go_loopw [4, 3] (fun vj vs W => W = w ∧ ∃ (j : Nat) (s : Int), j ≤ n ∧ vj = .int .i64 (j : Int) ∧ vs = .int .i64 s) (fun vj _ _ => n - (intOf vj).toNat)
  case atStart => exact ⟨rfl, 0, 0, by omega, rfl, rfl⟩
  case round =>
    obtain ⟨rfl, j, s, hj, rfl, rfl⟩ := hrel
    by_cases hlt : j < n
    · have hlo : j < ss.length := by rw [HNN.out]; exact hlt
      obtain ⟨b, o, rfl, hcs⟩ := HAT.out (by intro e; rw [e] at hlo; simp at hlo)
      obtain ⟨k0, k1, k2, k3, k4⟩ := hcs wr (Below.refl _ _) j _ (List.getElem?_eq_getElem hlo)
      generalize (ss[j]).reply = xd at *
      have HL := hid_in hlt
      have hlt2 : (j : Int) < (n : Int) := by omega
      clear hj hlt hlo hcs k1 k2 k3 k0
      go_wp2
      exact ⟨⟨trivial, j + 1, _, by have := HL.out; omega, by go_num, rfl⟩, by have := HL.out; simp [intOf]; omega⟩
    · obtain rfl : j = n := by omega
      clear hj hlt
      go_wp2
      go_ret
      exact ⟨⟨_, rfl⟩, rfl⟩
def A1 : List Seat := recT 5 noTab 1 1 10 ⟨#[97, 98, 99]⟩
def A2 : List Seat := recT 5 A1 2 7 11 ⟨#[100, 101]⟩
def A3 : List Seat := recT 5 A2 3 1 12 ⟨#[102]⟩
theorem recT_right {room : Int} (h0 : 0 ≤ room) {T : List Seat} (hr : Right T) (c n a : Int) (r : ByteArray) : Right (recT room T c n a r) := by
  unfold recT
  split
  · rename_i h
    have h1 : (lookS T c n).1 = 1 := by
      unfold recE at h
      split at h
      · cases h
      · split at h
        · assumption
        · cases h
    have h2 : r.size ≤ 8192 := by
      unfold recE at h
      rw [h1] at h
      simp at h
      omega
    obtain ⟨hc, hn⟩ := look_range T c n (by rw [h1]; decide)
    obtain ⟨i, s, hi, rfl, hs, -⟩ := isC_at hc hr.len
    rw [show ((i : Int) + 1 - 1).toNat = i by omega]
    exact (mk_ind h0 (fun _ => True) (fun _ _ _ _ _ _ _ _ => trivial) _ _ (Nat.le_refl _) (right_put hr hn h2) trivial).2.1
  · exact hr
set_option maxHeartbeats 2000000 in
set_option maxRecDepth 100000 in
theorem awake_any (w : World) : Calls Try.prog 8 #[] w fun e w' => e = .returned (.bool true) ∧ Below w.heap.size w w' := by
  have HM := hid_in (make_ok 5 w ⟨by decide, by decide⟩)
  have R1 : Right A1 := recT_right (by decide) right_no _ _ _ _
  have R2 : Right A2 := recT_right (by decide) R1 _ _ _ _
  have H1 := hid_in (fun W g (h : Tab W g 5 noTab) => record_any h right_no (by decide) 1 1 10 ⟨#[97, 98, 99]⟩)
  have H2 := hid_in (fun W g (h : Tab W g 5 A1) => record_any h R1 (by decide) 2 7 11 ⟨#[100, 101]⟩)
  have H3 := hid_in (fun W g (h : Tab W g 5 A2) => record_any h R2 (by decide) 3 1 12 ⟨#[102]⟩)
  have e1 : recE noTab 1 1 ⟨#[97, 98, 99]⟩ = 0 := by decide +kernel
  have e2 : recE A1 2 7 ⟨#[100, 101]⟩ = 0 := by decide +kernel
  have e3 : recE A2 3 1 ⟨#[102]⟩ = 0 := by decide +kernel
  rw [e1] at H1
  rw [e2] at H2
  rw [e3] at H3
  have L1 := hid_in (fun W g (h : Tab W g 5 A3) => look_any h 1 1)
  have L2 := hid_in (fun W g (h : Tab W g 5 A3) => look_any h 2 7)
  have L3 := hid_in (fun W g (h : Tab W g 5 A3) => look_any h 2 6)
  have f1 : lookS A3 1 1 = (3, ⟨#[]⟩) := by kernel_rfl
  have f2 : lookS A3 2 7 = (2, ⟨#[100, 101]⟩) := by kernel_rfl
  have f3 : lookS A3 2 6 = (4, ⟨#[]⟩) := by kernel_rfl
  rw [f1] at L1
  rw [f2] at L2
  rw [f3] at L3
  have q1 : recT 5 noTab 1 1 10 ⟨#[97, 98, 99]⟩ = A1 := rfl
  have q2 : recT 5 A1 2 7 11 ⟨#[100, 101]⟩ = A2 := rfl
  have q3 : recT 5 A2 3 1 12 ⟨#[102]⟩ = A3 := rfl
  rw [q1] at H1
  rw [q2] at H2
  rw [q3] at H3
  generalize A1 = X1 at *
  generalize A2 = X2 at *
  generalize A3 = X3 at *
  generalize noTab = X0 at *
  clear R1 R2 e1 e2 e3 f1 f2 f3 q1 q2 q3
  go_enter Try.func8, Try.ntmps8
  go_upto_region 4 with (first | (go_at_call 10; refine HM.out.mono ?_; rintro e w1 ⟨g, rfl, ht1, hb1, hg1⟩; have HT1 := hid_in ht1; have HB1 := hid_in hb1; have HGE := hid_in hg1; clear ht1 hb1 hg1))
  go_upto_region 5 with (first | (go_at_call 17; refine (H1.out _ _ HT1.out).mono ?_; rintro e w2 ⟨rfl, ht2, hg2⟩; have HT2 := hid_in ht2; have HB2 := hid_in (below_of_grown HB1.out hg2 HB1.out.size HGE.out); clear ht2 hg2))
  go_upto_region 6 with (first | (go_at_call 17; refine (H2.out _ _ HT2.out).mono ?_; rintro e w3 ⟨rfl, ht3, hg3⟩; have HT3 := hid_in ht3; have HB3 := hid_in (below_of_grown HB2.out hg3 HB2.out.size HGE.out); clear ht3 hg3))
  go_upto_region 7 with (first | (go_at_call 17; refine (H3.out _ _ HT3.out).mono ?_; rintro e w4 ⟨rfl, ht4, hg4⟩; have HT4 := hid_in ht4; have HB4 := hid_in (below_of_grown HB3.out hg4 HB3.out.size HGE.out); clear ht4 hg4))
  go_upto_region 8 with (first | (go_at_call 14; refine (L1.out _ _ HT4.out).mono ?_; rintro e w5 ⟨rfl, hb5⟩; have HT5 := hid_in (HT4.out.below hb5 HT4.out.lt); have HB5 := hid_in (HB4.out.trans (hb5.mono HB4.out.size)); clear hb5))
  go_upto_region 9 with (first | (go_at_call 14; refine (L2.out _ _ HT5.out).mono ?_; rintro e w6 ⟨rfl, hb6⟩; have HT6 := hid_in (HT5.out.below hb6 HT5.out.lt); have HB6 := hid_in (HB5.out.trans (hb6.mono HB5.out.size)); clear hb6))
  go_wp2_with (first | (go_at_call 14; refine (L3.out _ _ HT6.out).mono ?_; rintro e w7 ⟨rfl, hb7⟩; have HB7 := hid_in (HB6.out.trans (hb7.mono HB6.out.size)); clear hb7))
  go_ret
  exact ⟨rfl, HB7.out⟩
end Go.Proofs.Ytiijlnlkhpneaaa.Se
namespace Go.Proofs.Ytiijlnlkhpneaaa.Se
open Go.RowKit
open Nd (Row wp_world post_Row grownBy_setCell below_of_grown grownBy_trans grown_of_below grownBy_refl)
def nums (T : List Seat) : List Int := 0 :: T.map (·.number)
/-- the last numbers, as they lie in memory -/
def nine (T : List Seat) : List Value := (nums T).map (Value.int .i64)
theorem nine_at {T : List Seat} {i : Nat} {s : Seat} (h : T[i]? = some s) : (nine T)[i + 1]? = some (.int .i64 s.number) := by
  simp [nine, nums, h]
/-- a seat that is listed -/
theorem listed {T : List Seat} (hr : Right T) {k : Nat} {s : Seat} (h : (T.filter seated)[k]? = some s) : ∃ i : Nat, i < 8 ∧ T[i]? = some s ∧ s.client = (i : Int) + 1 ∧ s.number ≠ 0 ∧ (nine T)[i + 1]? = some (.int .i64 s.number) := by
  have h1 := List.mem_filter.1 (List.mem_of_getElem? h)
  obtain ⟨i, hi⟩ := List.getElem?_of_mem h1.1
  have h2 : s.number ≠ 0 := by simpa [seated] using h1.2
  have hl : i < 8 := by rw [← hr.len]; exact (List.getElem?_eq_some_iff.1 hi).1
  refine ⟨i, hl, hi, ?_, h2, nine_at hi⟩
  rcases (hr.at_ i s hi).who with h3 | h3
  · rw [h3] at h2
    exact absurd rfl h2
  · exact h3.2
theorem filter_le8 {T : List Seat} (hr : Right T) : (T.filter seated).length ≤ 8 := Nat.le_trans (List.length_filter_le _ _) (Nat.le_of_eq hr.len)
end Go.Proofs.Ytiijlnlkhpneaaa.Se
