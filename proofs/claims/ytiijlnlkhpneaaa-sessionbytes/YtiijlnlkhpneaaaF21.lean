/-
  What bytes are read as: read.
-/
import Derived.Deep.CutRange
import Derived.OwnWalk
import Derived.Laws.CopyOwn
import Derived.Laws.Tables
import Derived.Deep.RegionLaw
import Derived.Deep.DrawnRows
import Derived.Test.YtiijlnlkhpneaaaF00
import Derived.Test.YtiijlnlkhpneaaaF01
import Derived.Test.YtiijlnlkhpneaaaF02
import Derived.Test.YtiijlnlkhpneaaaF03
import Derived.Test.YtiijlnlkhpneaaaF04
import Derived.Test.YtiijlnlkhpneaaaF05
import Derived.Test.YtiijlnlkhpneaaaF06
import Derived.Test.YtiijlnlkhpneaaaF07
import Derived.Test.YtiijlnlkhpneaaaF08
import Derived.Test.YtiijlnlkhpneaaaF09
import Derived.Test.YtiijlnlkhpneaaaF10
import Derived.Test.YtiijlnlkhpneaaaF11
import Derived.Test.YtiijlnlkhpneaaaF12
import Derived.Test.YtiijlnlkhpneaaaF13
import Derived.Test.YtiijlnlkhpneaaaF14
import Derived.Test.YtiijlnlkhpneaaaF15
import Derived.Test.YtiijlnlkhpneaaaF16
import Derived.Test.YtiijlnlkhpneaaaF17
import Derived.Test.YtiijlnlkhpneaaaF18
import Derived.Test.YtiijlnlkhpneaaaF19
import Derived.Test.YtiijlnlkhpneaaaF20
namespace Go.Proofs.Ytiijlnlkhpneaaa.Se
open Go.RowKit
open Nd (Row wp_world post_Row grownBy_setCell below_of_grown grownBy_trans grown_of_below grownBy_refl In Sta sNum sText sFlag sInt Grew str sNum_lt i64r)
/-- a seat that was read is put -/
def seatE (T : List Seat) (x : Seat) : Int := recE T x.client x.number x.reply
def seatT (room : Int) (T : List Seat) (x : Seat) : List Seat := if x.kept then recT room T x.client x.number x.at_ x.reply else forgT (recT room T x.client x.number x.at_ x.reply) x.client
def readL : Nat → Int → List Seat → Sta → List Seat × Int
  | 0, _, T, _ => (T, 0)
  | k + 1, room, T, s => if seatE T (sSeat s).1 = 0 then readL k room (seatT room T (sSeat s).1) (sSeat s).2 else (T, seatE T (sSeat s).1)
/-- what bytes mean, in whatever form -/
def readT (s : Sta) : Option (Nat × List Seat) :=
  if sCut 8192 s ≤ 8192 then
    (if (readL (sCut 8 (sNum s).2) (sCut 8192 s : Nat) noTab (sNum (sNum s).2).2).2 = 0 then some (sCut 8192 s, (readL (sCut 8 (sNum s).2) (sCut 8192 s : Nat) noTab (sNum (sNum s).2).2).1) else none)
  else none
theorem seatT_right {room : Int} (h0 : 0 ≤ room) {T : List Seat} (hr : Right T) (x : Seat) : Right (seatT room T x) := by
  unfold seatT
  split
  · exact recT_right h0 hr _ _ _ _
  · exact forgT_right (recT_right h0 hr _ _ _ _) _
theorem grew_by {w w' : World} {g : Nat} (h : Grew w w' (· = g)) : w.grownBy w' (some g) := ⟨h.os, h.tape, h.output, h.size, fun k hk hn => h.block k hk (fun e => hn (by rw [e]))⟩
theorem grew_of {w w' : World} {g : Nat} (h : Below w.heap.size w w') : Grew w w' (· = g) := ⟨h.os, h.tape, h.output, h.size, fun k hk _ => h.block k hk⟩
theorem grew_new {w w' W : World} {ig g : Nat} (h : Grew w W (· = ig)) (k : W.grownBy w' (some g)) (hg : w.heap.size ≤ g) : Grew w w' (· = ig) := ⟨k.os.trans h.os, k.tape.trans h.tape, k.output.trans h.output, Nat.le_trans h.size k.size, fun b hb hn => by
  rw [k.block b (Nat.lt_of_lt_of_le hb h.size) (fun e => by have := Option.some.inj e; omega)]
  exact h.block b hb hn⟩
theorem in_lt {w : World} {ig B : Nat} {s : Sta} (hi : In B w ig s) : ig < w.heap.size := by
  obtain ⟨p, cap, b, off, hr, _⟩ := hi.ex
  exact hr.lt
/-- between two rounds of read -/
structure RR (w : World) (g ig B : Nat) (room : Int) (n : Nat) (R : List Seat × Int) (i : Nat) (T : List Seat) (t : Sta) (W : World) : Prop where
  tab : Tab W g room T
  right : Right T
  inn : In B W ig t
  gr : Grew w W (· = ig)
  rest : readL (n - i) room T t = R
def ReadP (w : World) (ig : Nat) (s : Sta) (e : Ending) (w' : World) : Prop := ((readT s = none ∧ ∃ k : Int, k ≠ 0 ∧ e = .returned (.tuple #[.pointer none, .int .i64 k])) ∨ (∃ (rm : Nat) (T : List Seat) (g : Nat), readT s = some (rm, T) ∧ e = .returned (.tuple #[.pointer (some ⟨g, 0, none⟩), .int .i64 0]) ∧ Tab w' g rm T ∧ w.heap.size ≤ g)) ∧ Grew w w' (· = ig)
set_option maxHeartbeats 4000000 in
set_option maxRecDepth 100000 in
theorem read_any (w : World) (ig B : Nat) (s : Sta) (hB : B ≤ w.heap.size) (hi : In B w ig s) : Calls Try.prog 39 #[.pointer (some ⟨ig, 0, none⟩)] w fun e w' => ReadP w ig s e w' := by
  have HBB := hid_in hB
  have HI := hid_in hi
  have HIL := hid_in (in_lt hi)
  have HN1 := hid_in (fun W t (k : In B W ig t) => number_s W ig B t 8192 (by omega) k)
  have HN2 := hid_in (fun W t (k : In B W ig t) => number_s W ig B t 8 (by omega) k)
  simp only [show ((8192 : Nat) : Int) = 8192 from rfl] at HN1
  simp only [show ((8 : Nat) : Int) = 8 from rfl] at HN2
  have HU : Hid (readT s = (if sCut 8192 s ≤ 8192 then
    (if (readL (sCut 8 (sNum s).2) (sCut 8192 s : Nat) noTab (sNum (sNum s).2).2).2 = 0 then some (sCut 8192 s, (readL (sCut 8 (sNum s).2) (sCut 8192 s : Nat) noTab (sNum (sNum s).2).2).1) else none)
  else none)) := hid_in rfl
  have HC2 := hid_in (cut_le 8 (sNum s).2)
  clear hB hi
  by_cases hq : sCut 8192 s ≤ 8192
  · rw [if_pos hq] at HU
    have HNO := hid_in (fun W => make_ok (sCut 8192 s : Nat) W ⟨by omega, by omega⟩)
    have H0 : Hid ((0 : Int) ≤ (sCut 8192 s : Nat)) := hid_in (by omega)
    clear hq
    go_enter Try.func39, Try.ntmps39
    go_upto_region 4 with (first | (go_at_call 10; refine (HNO.out _).mono ?_; rintro e w3 ⟨g, rfl, ht3, hb3, hg3⟩; have HT3 := hid_in ht3; have HGW := hid_in (Nat.le_trans HG2.out.size hg3); have HI3 := hid_in (HI2.out.below hb3); have HG3 := hid_in (HG2.out.trans (grew_of hb3) (fun _ _ h => h)); clear ht3 hb3 hg3) | (go_at_call 51; refine (HN1.out _ _ HI.out).mono ?_; rintro e w2 ⟨rfl, hi2, hg2⟩; have HI2 := hid_in hi2; have HG2 := hid_in hg2; clear hi2 hg2))
    clear HN1 HNO
    have HGI : Hid (g ≠ ig) := hid_in (by have := HGW.out; have := HIL.out; omega)
    go_upto_region 5 with (go_at_call 51; refine (HN2.out _ _ HI3.out).mono ?_; rintro e w4 ⟨rfl, hi4, hg4⟩; have HI4 := hid_in hi4; have HT4 := hid_in (HT3.out.grown (grew_by hg4) (fun e => HGI.out (Option.some.inj e))); have HG4 := hid_in (HG3.out.trans hg4 (fun _ _ h => h)); clear hi4 hg4)
    generalize hN : sCut 8192 s = rm at *
    generalize hk : sCut 8 (sNum s).2 = n at *
    generalize ht : (sNum (sNum s).2).2 = t3 at *
    have hn : (n : Int) ≤ 9 := by have := HC2.out; omega
    obtain ⟨R, HRD⟩ : ∃ R, Hid (readL n rm noTab t3 = R) := ⟨_, hid_in rfl⟩
    rw [HRD.out] at HU
    clear hN hk ht HG2 HI2 HT3 HG3 HI3
    go_loopw [19] (fun vi W => ∃ i : Nat, i ≤ n ∧ vi = .int .i64 (i : Int) ∧ Hid (∃ T t, RR w g ig B rm n R i T t W)) (fun vi _ => n - (intOf vi).toNat)
    case atStart => exact ⟨0, by omega, rfl, noTab, t3, HT4.out, right_no, HI4.out, HG4.out, HRD.out⟩
    case round =>
      obtain ⟨i, hi, rfl, hrr⟩ := hrel
      obtain ⟨T, t, hR⟩ := hrr.out
      by_cases hlt : i < n
      · have hl2 : (i : Int) < (n : Int) := by omega
        have HR := hid_in hR
        have HRI := hid_in (readSeat_s wr ig B t (in_lt hR.inn) (Nat.le_trans HBB.out hR.gr.size) hR.inn)
        have hst : readL (n - i) rm T t = if seatE T (sSeat t).1 = 0 then readL (n - (i + 1)) rm (seatT rm T (sSeat t).1) (sSeat t).2 else (T, seatE T (sSeat t).1) := by
          rw [show n - i = (n - (i + 1)) + 1 by omega]
          rfl
        rw [hR.rest] at hst
        have HRT := hid_in (seatT_right H0.out hR.right (sSeat t).1)
        have HPU := hid_in (fun W (k : Tab W g rm T) => record_any k hR.right H0.out (sSeat t).1.client (sSeat t).1.number (sSeat t).1.at_ (sSeat t).1.reply)
        unfold seatT at hst HRT
        unfold seatE at hst
        generalize (sSeat t).2 = t' at *
        generalize (sSeat t).1 = x at *
        obtain ⟨xc, xn, xa, xk, xr⟩ := x
        simp only at HRI HPU hst HRT
        have HST := hid_in hst
        generalize recE T xc xn xr = E at *
        generalize recT rm T xc xn xa xr = T2 at *
        have HFO := hid_in (fun W (k : Tab W g rm T2) => forget_any k xc)
        have HLT := hid_in hlt
        clear hst hlt hi hrr hR
        go_upto_region 7 with (go_at_call 52; refine HRI.out.mono ?_; rintro e w5 ⟨rfl, hi5, hg5⟩; have HI5 := hid_in hi5; have HT5 := hid_in (HR.out.tab.grown (grew_by hg5) (fun e => HGI.out (Option.some.inj e))); have HG5 := hid_in (HR.out.gr.trans hg5 (fun _ _ h => h)); clear hi5 hg5)
        obtain ⟨w6, HW6⟩ : ∃ w6, Hid (w5.alloc (.cells #[.int .i64 xc, .int .i64 xn, .int .i64 xa, .bool xk, .string xr] 48) = w6) := ⟨_, hid_in rfl⟩
        have HBX : Hid (Below w5.heap.size w5 w6) := hid_in (by rw [← HW6.out]; exact (Below.refl _ _).alloc (Nat.le_refl _) _)
        have HR6 : Hid (Row w6 w5.heap.size [.int .i64 xc, .int .i64 xn, .int .i64 xa, .bool xk, .string xr] 48) := hid_in (by rw [← HW6.out]; exact Row.new w5 [.int .i64 xc, .int .i64 xn, .int .i64 xa, .bool xk, .string xr] 48)
        have HT6 := hid_in (HT5.out.below HBX.out HT5.out.lt)
        have HI6 : Hid (In B w6 ig t') := hid_in (HI5.out.below HBX.out)
        have HG6 := hid_in (HG5.out.trans (grew_of HBX.out) (fun _ _ h => h))
        have HBG : Hid (w5.heap.size ≠ g) := hid_in (by have := HT5.out.lt; omega)
        refine wp_world HW6.out ?_
        generalize w5.heap.size = bs at *
        have r0 := HR6.out.cell 0
        have r1 := HR6.out.cell 1
        have r2 := HR6.out.cell 2
        have r4 := HR6.out.cell 4
        simp only [List.getElem?_cons_succ, List.getElem?_cons_zero] at r0 r1 r2 r4
        go_upto_region 8 with (go_at_call 17; refine (HPU.out _ HT6.out).mono ?_; rintro e w7 ⟨rfl, ht7, hg7⟩; have HT7 := hid_in ht7; have HR7 := hid_in (HR6.out.grown hg7 (fun e => HBG.out (Option.some.inj e))); have HI7 : Hid (In B w7 ig t') := hid_in (Nd.In.grown HI6.out hg7 (Nat.le_trans HBB.out HGW.out) HGI.out.symm); have HG7 := hid_in (grew_new HG6.out hg7 HGW.out); clear ht7 hg7)
        have r3 := HR7.out.cell 3
        have r5 := HR7.out.cell 0
        simp only [List.getElem?_cons_succ, List.getElem?_cons_zero] at r3 r5
        by_cases h0 : E = 0
        · subst h0
          rw [if_pos rfl] at HST
          cases xk with
          | true =>
            simp only [if_true] at HST HRT
            go_wp2_with fail
            go_roundw
            case rel => exact ⟨i + 1, by have := HLT.out; omega, by go_num, T2, t', HT7.out, HRT.out, HI7.out, HG7.out, HST.out.symm⟩
            case measure => have := HLT.out; simp [intOf]; omega
          | false =>
            simp only [Bool.false_eq_true, if_false] at HST HRT
            go_wp2_with (go_at_call 16; refine (HFO.out _ HT7.out).mono ?_; rintro e w8 ⟨rfl, ht8, hg8, -⟩; have HT8 := hid_in ht8; have HI8 := hid_in (Nd.In.grown HI7.out hg8 (Nat.le_trans HBB.out HGW.out) HGI.out.symm); have HG8 := hid_in (grew_new HG7.out hg8 HGW.out); clear ht8 hg8)
            go_roundw
            case rel => exact ⟨i + 1, by have := HLT.out; omega, by go_num, forgT T2 xc, t', HT8.out, HRT.out, HI8.out, HG8.out, HST.out.symm⟩
            case measure => have := HLT.out; simp [intOf]; omega
        · have h0b : (E != 0) = true := by simpa using h0
          have HE0 := hid_in h0
          rw [if_neg h0] at HST
          clear h0
          go_wp2_with fail
          go_ret2
          refine ⟨.inl ⟨?_, E, HE0.out, rfl⟩, HG7.out⟩
          rw [HU.out, HST.out, if_neg HE0.out]
      · obtain rfl : i = n := by omega
        have HR := hid_in hR
        have HRE : Hid (R = (T, 0)) := hid_in (by rw [← hR.rest, Nat.sub_self]; rfl)
        clear hlt hi hrr hR
        go_wp2_with fail
        go_ret2
        refine ⟨.inr ⟨rm, T, g, ?_, rfl, HR.out.tab, HGW.out⟩, HR.out.gr⟩
        rw [HU.out, HRE.out]
        rfl
  · rw [if_neg hq] at HU
    have HNO := hid_in (fun W => make_bad (sCut 8192 s : Nat) W (by unfold roomOk; omega))
    clear hq
    go_enter Try.func39, Try.ntmps39
    go_wp2_with (first | (go_at_call 10; refine (HNO.out _).mono ?_; rintro e w3 ⟨rfl, rfl⟩) | (go_at_call 51; refine (HN1.out _ _ HI.out).mono ?_; rintro e w2 ⟨rfl, hi2, hg2⟩; have HG2 := hid_in hg2; clear hi2 hg2))
    go_ret2
    exact ⟨.inl ⟨HU.out, 1, by decide, rfl⟩, HG2.out⟩
end Go.Proofs.Ytiijlnlkhpneaaa.Se
