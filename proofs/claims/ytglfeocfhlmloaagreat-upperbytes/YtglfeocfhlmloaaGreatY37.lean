/-
  bytes.Equal; what reading makes. read: an upper branch that is read.
-/
import Derived.Deep.CutRange
import Derived.Laws.CopyOwn
import Derived.Shelf.SlMaps.Clone
import Derived.Deep.RegionLaw
import Derived.Deep.DrawnRows
import Derived.Laws.Tables
import Derived.Test.YtglfeocfhlmloaaGreatY00
import Derived.Test.YtglfeocfhlmloaaGreatY01
import Derived.Test.YtglfeocfhlmloaaGreatY02
import Derived.Test.YtglfeocfhlmloaaGreatY03
import Derived.Test.YtglfeocfhlmloaaGreatY04
import Derived.Test.YtglfeocfhlmloaaGreatY05
import Derived.Test.YtglfeocfhlmloaaGreatY06
import Derived.Test.YtglfeocfhlmloaaGreatY07
import Derived.Test.YtglfeocfhlmloaaGreatY08
import Derived.Test.YtglfeocfhlmloaaGreatY09
import Derived.Test.YtglfeocfhlmloaaGreatY10
import Derived.Test.YtglfeocfhlmloaaGreatY11
import Derived.Test.YtglfeocfhlmloaaGreatY12
import Derived.Test.YtglfeocfhlmloaaGreatY13
import Derived.Test.YtglfeocfhlmloaaGreatY14
import Derived.Test.YtglfeocfhlmloaaGreatY15
import Derived.Test.YtglfeocfhlmloaaGreatY16
import Derived.Test.YtglfeocfhlmloaaGreatY17
import Derived.Test.YtglfeocfhlmloaaGreatY18
import Derived.Test.YtglfeocfhlmloaaGreatY19
import Derived.Test.YtglfeocfhlmloaaGreatY20
import Derived.Test.YtglfeocfhlmloaaGreatY21
import Derived.Test.YtglfeocfhlmloaaGreatY22
import Derived.Test.YtglfeocfhlmloaaGreatY23
import Derived.Test.YtglfeocfhlmloaaGreatY24
import Derived.Test.YtglfeocfhlmloaaGreatY25
import Derived.Test.YtglfeocfhlmloaaGreatY26
import Derived.Test.YtglfeocfhlmloaaGreatY27
import Derived.Test.YtglfeocfhlmloaaGreatY28
import Derived.Test.YtglfeocfhlmloaaGreatY29
import Derived.Test.YtglfeocfhlmloaaGreatY30
import Derived.Test.YtglfeocfhlmloaaGreatY31
import Derived.Test.YtglfeocfhlmloaaGreatY32
import Derived.Test.YtglfeocfhlmloaaGreatY33
import Derived.Test.YtglfeocfhlmloaaGreatY34
import Derived.Test.YtglfeocfhlmloaaGreatY35
import Derived.Test.YtglfeocfhlmloaaGreatY36
namespace Go.Proofs.YtglfeocfhlmloaaGreat.Up
open Go.RowKit
open Vp (Str B bl Val cmpL parseS showS withinS IsPath checkS)
open Nd (Row wp_world post_Row post_Row2 grownBy_setCell below_of_grown In Sta sNum sText sFlag Grew str Sl)
theorem str_inj {a b : List Nat} (ha : ∀ x ∈ a, x < 256) (hb : ∀ x ∈ b, x < 256) (h : str a = str b) : a = b := by
  have h2 : a.map UInt8.ofNat = b.map UInt8.ofNat := by simpa [str] using h
  have h3 := congrArg (List.map UInt8.toNat) h2
  rw [List.map_map, List.map_map] at h3
  have key : ∀ l : List Nat, (∀ x ∈ l, x < 256) → l.map (UInt8.toNat ∘ UInt8.ofNat) = l := by
    intro l hl
    conv => rhs; rw [← List.map_id l]
    refine List.map_congr_left fun x hx => ?_
    have := hl x hx
    simp only [Function.comp_def, id, UInt8.toNat_ofNat']
    omega
  rw [key a ha, key b hb] at h3
  exact h3
set_option maxHeartbeats 1000000 in
set_option maxRecDepth 100000 in
theorem equal_any {w : World} {xs ys : List Nat} {p q : Option Addr} {c d b o b' o' : Nat} (hx : Sl w p xs c b o) (hy : Sl w q ys d b' o') :
    Calls Tryz.prog 31 #[.slice p xs.length c, .slice q ys.length d] w fun e w' => e = .returned (.bool (decide (xs = ys))) ∧ Below w.heap.size w w' := by
  have h1 := Nd.conv_sl hx
  have h2 := Nd.conv_sl hy
  have hi := fun e => str_inj (a := xs) (b := ys) hx.lt hy.lt e
  generalize xs.length = n1 at *
  generalize ys.length = n2 at *
  clear hx hy
  by_cases he : xs = ys
  · subst he
    rw [decide_eq_true rfl]
    generalize str xs = T at *
    clear hi
    go_enter Tryz.func31, Tryz.ntmps31
    go_wp2
    go_ret
    exact ⟨by simp, Below.refl _ _⟩
  · rw [decide_eq_false he]
    have hne : str xs ≠ str ys := fun e => he (hi e)
    have hb : (str xs == str ys) = false := by rw [Bool.eq_false_iff]; exact fun hh => hne ((MapKept.bytes_beq _ _).1 hh)
    have hlst : ¬ (str xs).toList = (str ys).toList := fun e => hne (toL_inj e)
    generalize str xs = T at *
    generalize str ys = T' at *
    clear hi he
    go_enter Tryz.func31, Tryz.ntmps31
    go_wp2
    go_ret
    exact ⟨by simp [hlst], Below.refl _ _⟩
end Go.Proofs.YtglfeocfhlmloaaGreat.Up
namespace Go.Proofs.YtglfeocfhlmloaaGreat.Up
open Go.RowKit
open Vp (Str B bl Val cmpL parseS showS withinS IsPath checkS)
open Nd (Row wp_world post_Row post_Row2 grownBy_setCell below_of_grown In Sta sNum sText sFlag Grew str Sl)
/-- inodes are read and put, one behind the other -/
def readLoop : Nat → List Ent → Sta → List Ent × Int
  | 0, A, _ => (A, 0)
  | k + 1, A, s => if putEA A (sIno s).1.path (sIno s).1.kind (sIno s).1.opq (sIno s).1.data ≠ 0 then (A, putEA A (sIno s).1.path (sIno s).1.kind (sIno s).1.opq (sIno s).1.data) else readLoop k (putU A (sIno s).1.path (sIno s).1.kind (sIno s).1.opq (sIno s).1.data) (sIno s).2
theorem grew_by {w w' : World} {g : Nat} (h : Grew w w' (· = g)) : w.grownBy w' (some g) := ⟨h.os, h.tape, h.output, h.size, fun k hk hn => h.block k hk (fun e => hn (by rw [e]))⟩
theorem by_grew {w w' : World} {g : Nat} (h : w.grownBy w' (some g)) : Grew w w' (· = g) := ⟨h.os, h.tape, h.output, h.size, fun k hk hn => h.block k hk (fun e => hn (Option.some.inj e))⟩
theorem text_len (m : Nat) (s : Sta) : (sText m s).1.length ≤ m := by
  unfold sText
  split
  · unfold Nd.Wire.rtext
    split
    · simp
    split
    · simp
    · rename_i h1
      split
      · simp
      · simp only [List.length_take]
        have : ((m : Int)).toNat = m := by omega
        omega
  · simp
theorem text_size (m : Nat) (s : Sta) : (str (sText m s).1).size ≤ m := by
  have h : (str (sText m s).1).size = (sText m s).1.length := by simp [Nd.str, ByteArray.size]
  rw [h]
  exact text_len m s
/-- what leads to an In leaves an upper branch as it is -/
theorem FsA.grew {w w' : World} {g m ig B : Nat} {N Z : Int} {A : List Ent} {s : Sta} (h : FsA w g m N Z A) (hi : In B w ig s) (hk : Grew w w' (· = ig)) (hg : ig ≠ g) : FsA w' g m N Z A := by
  obtain ⟨L, h1, h2⟩ := h
  refine ⟨L, h1.grown (grew_by hk) (fun k e => ?_), h2⟩
  obtain rfl := Option.some.inj e
  obtain ⟨p, cap, b, off, hr, _⟩ := hi.ex
  unfold Row at hr
  refine ⟨?_, hg, fun cs fr e2 => ?_⟩
  · rintro rfl
    obtain ⟨es, clock, hb, _⟩ := h1.map.ex
    rw [hb] at hr
    cases hr
  · rw [hr] at e2
    cases e2
/-- what bytes mean, in whatever form -/
def readU (s : Sta) : Option (Nat × Nat × List Ent) :=
  if sCut 128 s ≤ 128 ∧ sCut 8192 (sNum s).2 ≤ 8192 then
    (if (readLoop (sCut 1024 (sNum (sNum s).2).2) [] (sNum (sNum (sNum s).2).2).2).2 = 0 then some (sCut 128 s, sCut 8192 (sNum s).2, (readLoop (sCut 1024 (sNum (sNum s).2).2) [] (sNum (sNum (sNum s).2).2).2).1) else none)
  else none
/-- between two rounds of read -/
structure RR (w : World) (g m ig B : Nat) (N Z : Int) (k : Nat) (R : List Ent × Int) (i : Nat) (A : List Ent) (t : Sta) (W : World) : Prop where
  fs : FsA W g m N Z A
  inn : In B W ig t
  gr : Grew w W (· = ig)
  len : A.length ≤ i
  rest : readLoop (k - i) A t = R
theorem in_ne {w : World} {g m ig B : Nat} {N Z : Int} {A : List Ent} {s : Sta} (h : FsA w g m N Z A) (hi : In B w ig s) : ig ≠ g := by
  obtain ⟨L, h1, _⟩ := h
  obtain ⟨p, cap, b, off, hr, _⟩ := hi.ex
  rintro rfl
  have h2 := h1.row
  unfold Row at h2 hr
  rw [hr] at h2
  cases h2
theorem in_lt {w : World} {ig B : Nat} {s : Sta} (hi : In B w ig s) : ig < w.heap.size := by
  obtain ⟨p, cap, b, off, hr, _⟩ := hi.ex
  exact hr.lt
def ReadP (w : World) (ig : Nat) (s : Sta) (e : Ending) (w' : World) : Prop := ((readU s = none ∧ ∃ k : Int, k ≠ 0 ∧ e = .returned (.tuple #[.pointer none, .int .i64 k])) ∨ (∃ (N Z : Nat) (A : List Ent) (g m : Nat), readU s = some (N, Z, A) ∧ e = .returned (.tuple #[.pointer (some ⟨g, 0, none⟩), .int .i64 0]) ∧ FsA w' g m N Z A ∧ w.heap.size ≤ m ∧ A.length ≤ 1025)) ∧ Grew w w' (· = ig)
theorem cut_le (m : Nat) (s : Sta) : sCut m s ≤ m + 1 := Nat.min_le_right _ _
set_option maxHeartbeats 4000000 in
set_option maxRecDepth 100000 in
theorem readR_any (w : World) (ig B : Nat) (s : Sta) (hB : B ≤ w.heap.size) (hi : In B w ig s) : Calls Tryz.prog 29 #[.pointer (some ⟨ig, 0, none⟩)] w fun e w' => ReadP w ig s e w' := by
  have HBB := hid_in hB
  have HI := hid_in hi
  have HN1 := hid_in (fun W t (k : In B W ig t) => number_s W ig B t 128 (by omega) k)
  have HN2 := hid_in (fun W t (k : In B W ig t) => number_s W ig B t 8192 (by omega) k)
  have HN3 := hid_in (fun W t (k : In B W ig t) => number_s W ig B t 1024 (by omega) k)
  simp only [show ((128 : Nat) : Int) = 128 from rfl] at HN1
  simp only [show ((8192 : Nat) : Int) = 8192 from rfl] at HN2
  simp only [show ((1024 : Nat) : Int) = 1024 from rfl] at HN3
  have hU : readU s = (if sCut 128 s ≤ 128 ∧ sCut 8192 (sNum s).2 ≤ 8192 then
    (if (readLoop (sCut 1024 (sNum (sNum s).2).2) [] (sNum (sNum (sNum s).2).2).2).2 = 0 then some (sCut 128 s, sCut 8192 (sNum s).2, (readLoop (sCut 1024 (sNum (sNum s).2).2) [] (sNum (sNum (sNum s).2).2).2).1) else none)
  else none) := rfl
  have HU := hid_in hU
  have HC3 := hid_in (cut_le 1024 (sNum (sNum s).2).2)
  clear hB hi hU
  by_cases hq : sCut 128 s ≤ 128 ∧ sCut 8192 (sNum s).2 ≤ 8192
  · rw [if_pos hq] at HU
    have HQ : Hid (quotaOk (sCut 128 s : Nat) (sCut 8192 (sNum s).2 : Nat)) := hid_in (by unfold quotaOk; omega)
    have HNO := hid_in (fun W => new_ok (sCut 128 s : Nat) (sCut 8192 (sNum s).2 : Nat) W HQ.out)
    clear hq
    go_enter Tryz.func29, Tryz.ntmps29
    go_upto_region 4 with (first | (go_at_call 6; refine (HNO.out _).mono ?_; rintro e w3 ⟨g, m, rfl, hF3, hb3, hm3⟩; have HF3 : Hid (FsA w3 g m (sCut 128 s : Nat) (sCut 8192 (sNum s).2 : Nat) []) := hid_in ⟨[], hF3, rfl⟩; have HM := hid_in (Nat.le_trans HG2.out.size hm3); have HI3 := hid_in (HI2.out.below hb3); have HG3 := hid_in (HG2.out.trans (by_grew ((grown_of_below hb3).but ig)) (fun _ _ h => h)); clear hF3 hb3 hm3) | (go_at_call 56; refine (HN2.out _ _ HI1.out).mono ?_; rintro e w2 ⟨rfl, hi2, hg2⟩; have HI2 := hid_in hi2; have HG2 := hid_in (HG1.out.trans hg2 (fun _ _ h => h)); clear hi2 hg2) | (go_at_call 56; refine (HN1.out _ _ HI.out).mono ?_; rintro e w1 ⟨rfl, hi1, hg1⟩; have HI1 := hid_in hi1; have HG1 := hid_in hg1; clear hi1 hg1))
    clear HN1 HN2
    go_upto_region 5 with (go_at_call 56; refine (HN3.out _ _ HI3.out).mono ?_; rintro e w4 ⟨rfl, hi4, hg4⟩; have HI4 := hid_in hi4; have HF4 := hid_in (HF3.out.grew HI3.out hg4 (in_ne HF3.out HI3.out)); have HG4 := hid_in (HG3.out.trans hg4 (fun _ _ h => h)); clear hi4 hg4)
    generalize hN : sCut 128 s = N at *
    generalize hZ : sCut 8192 (sNum s).2 = Z at *
    generalize hk : sCut 1024 (sNum (sNum s).2).2 = n at *
    generalize ht : (sNum (sNum (sNum s).2).2).2 = t3 at *
    have hn : (n : Int) ≤ 1025 := by have := HC3.out; omega
    obtain ⟨R, HRD⟩ : ∃ R, Hid (readLoop n [] t3 = R) := ⟨_, hid_in rfl⟩
    rw [HRD.out] at HU
    clear hN hZ hk ht
    go_loopw [20] (fun vi W => ∃ i : Nat, i ≤ n ∧ vi = .int .i64 (i : Int) ∧ Hid (∃ A t, RR w g m ig B N Z n R i A t W)) (fun vi _ => n - (intOf vi).toNat)
    case atStart => exact ⟨0, by omega, rfl, [], t3, HF4.out, HI4.out, HG4.out, by simp, HRD.out⟩
    case round =>
      obtain ⟨i, hi, rfl, hrr⟩ := hrel
      obtain ⟨A, t, hR⟩ := hrr.out
      by_cases hlt : i < n
      · have hl2 : (i : Int) < (n : Int) := by omega
        have HR := hid_in hR
        have HRI := hid_in (readIno_s wr ig B t (in_lt hR.inn) (Nat.le_trans HBB.out hR.gr.size) hR.inn)
        have hp : (sIno t).1.path.size ≤ 256 := text_size 256 t
        have HPU := hid_in (fun W (k : FsA W g m N Z A) => w_put k (by have := hR.len; have := HC3.out; omega) (sIno t).1.path (sIno t).1.kind (sIno t).1.opq (sIno t).1.data (by omega))
        have hst : readLoop (n - i) A t = if putEA A (sIno t).1.path (sIno t).1.kind (sIno t).1.opq (sIno t).1.data ≠ 0 then (A, putEA A (sIno t).1.path (sIno t).1.kind (sIno t).1.opq (sIno t).1.data) else readLoop (n - (i + 1)) (putU A (sIno t).1.path (sIno t).1.kind (sIno t).1.opq (sIno t).1.data) (sIno t).2 := by
          rw [show n - i = (n - (i + 1)) + 1 by omega]
          rfl
        rw [hR.rest] at hst
        have HLN := hid_in (putU_len A (sIno t).1.path (sIno t).1.kind (sIno t).1.opq (sIno t).1.data)
        generalize (sIno t).2 = t' at *
        generalize (sIno t).1 = f at *
        obtain ⟨fp, fk, fq, fd⟩ := f
        simp only at HRI HPU hst HLN
        have HST := hid_in hst
        obtain ⟨E, HE⟩ : ∃ E, Hid (putEA A fp fk fq fd = E) := ⟨_, hid_in rfl⟩
        rw [HE.out] at HPU HST
        have HLT := hid_in hlt
        clear hst hp hlt hi hrr hR
        by_cases h0 : E = 0
        · subst h0
          go_wp2_with (first | (go_at_call 57; refine HRI.out.mono ?_; rintro e w5 ⟨rfl, hi5, hg5⟩; have HI5 := hid_in hi5; have HF5 := hid_in (HR.out.fs.grew HR.out.inn hg5 (in_ne HR.out.fs HR.out.inn)); have HG5 := hid_in (HR.out.gr.trans hg5 (fun _ _ h => h)); clear hi5 hg5) | (go_at_call 14; refine (HPU.out _ HF5.out).mono ?_; rintro e w6 ⟨rfl, hf6, hg6⟩; have HF6 := hid_in hf6; have HI6 := hid_in (HI5.out.grown hg6 (Nat.le_trans HBB.out HM.out) (by have := in_lt HI.out; have := HM.out; omega)); have HG6 := hid_in (HG5.out.trans (by_grew hg6) (fun q hq h => by have := HM.out; omega)); clear hf6 hg6))
          go_roundw
          case rel => exact ⟨i + 1, by have := HLT.out; omega, by go_num, _, t', HF6.out, HI6.out, HG6.out, by have := HLN.out; have := HR.out.len; omega, by rw [HST.out]; simp⟩
          case measure => have := HLT.out; simp [intOf]; omega
        · have HEN := hid_in h0
          go_wp2_with (first | (go_at_call 57; refine HRI.out.mono ?_; rintro e w5 ⟨rfl, hi5, hg5⟩; have HI5 := hid_in hi5; have HF5 := hid_in (HR.out.fs.grew HR.out.inn hg5 (in_ne HR.out.fs HR.out.inn)); have HG5 := hid_in (HR.out.gr.trans hg5 (fun _ _ h => h)); clear hi5 hg5) | (go_at_call 14; refine (HPU.out _ HF5.out).mono ?_; rintro e w6 ⟨rfl, hf6, hg6⟩; have HG6 := hid_in (HG5.out.trans (by_grew hg6) (fun q hq h => by have := HM.out; omega)); clear hf6 hg6))
          go_ret2
          refine ⟨.inl ⟨?_, E, HEN.out, rfl⟩, HG6.out⟩
          rw [HU.out, HST.out, if_pos HEN.out, if_neg HEN.out]
      · obtain rfl : i = n := by omega
        have HR := hid_in hR
        have h0 : (A, (0 : Int)) = R := by rw [← hR.rest, Nat.sub_self]; rfl
        have H0 := hid_in h0
        clear hR hrr hlt hi h0
        go_wp2
        go_ret2
        refine ⟨.inr ⟨N, Z, A, g, m, ?_, rfl, HR.out.fs, HM.out, ?_⟩, HR.out.gr⟩
        · rw [HU.out, ← H0.out]
          rfl
        · have := HR.out.len
          have := HC3.out
          omega
  · rw [if_neg hq] at HU
    have HQ : Hid (¬ quotaOk (sCut 128 s : Nat) (sCut 8192 (sNum s).2 : Nat)) := hid_in (by unfold quotaOk; omega)
    have HNB := hid_in (fun W => new_bad (sCut 128 s : Nat) (sCut 8192 (sNum s).2 : Nat) W HQ.out)
    clear hq
    go_enter Tryz.func29, Tryz.ntmps29
    go_wp2_with (first | (go_at_call 6; refine (HNB.out _).mono ?_; rintro e w3 ⟨rfl, hw3⟩; replace hw3 := hw3.symm; subst hw3) | (go_at_call 56; refine (HN2.out _ _ HI1.out).mono ?_; rintro e w2 ⟨rfl, hi2, hg2⟩; have HI2 := hid_in hi2; have HG2 := hid_in (HG1.out.trans hg2 (fun _ _ h => h)); clear hi2 hg2) | (go_at_call 56; refine (HN1.out _ _ HI.out).mono ?_; rintro e w1 ⟨rfl, hi1, hg1⟩; have HI1 := hid_in hi1; have HG1 := hid_in hg1; clear hi1 hg1))
    go_ret2
    exact ⟨.inl ⟨HU.out, 1, by decide, rfl⟩, HG2.out⟩
end Go.Proofs.YtglfeocfhlmloaaGreat.Up
