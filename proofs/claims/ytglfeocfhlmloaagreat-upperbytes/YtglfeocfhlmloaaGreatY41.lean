/-
  The reference's Encode. The reference's Get.
-/
import Derived.Deep.CutRange
import Derived.Laws.CopyOwn
import Derived.Shelf.SlMaps.Clone
import Derived.Deep.RegionLaw
import Derived.Deep.DrawnRows
import Derived.Laws.Tables
import Derived.Test.YtglfeocfhlmloaaGreatY00
import Derived.Test.YtglfeocfhlmloaaGreatY01
import Derived.Test.YtglfeocfhlmloaaGreatY02
import Derived.Test.YtglfeocfhlmloaaGreatY03
import Derived.Test.YtglfeocfhlmloaaGreatY04
import Derived.Test.YtglfeocfhlmloaaGreatY05
import Derived.Test.YtglfeocfhlmloaaGreatY06
import Derived.Test.YtglfeocfhlmloaaGreatY07
import Derived.Test.YtglfeocfhlmloaaGreatY08
import Derived.Test.YtglfeocfhlmloaaGreatY09
import Derived.Test.YtglfeocfhlmloaaGreatY10
import Derived.Test.YtglfeocfhlmloaaGreatY11
import Derived.Test.YtglfeocfhlmloaaGreatY12
import Derived.Test.YtglfeocfhlmloaaGreatY13
import Derived.Test.YtglfeocfhlmloaaGreatY14
import Derived.Test.YtglfeocfhlmloaaGreatY15
import Derived.Test.YtglfeocfhlmloaaGreatY16
import Derived.Test.YtglfeocfhlmloaaGreatY17
import Derived.Test.YtglfeocfhlmloaaGreatY18
import Derived.Test.YtglfeocfhlmloaaGreatY19
import Derived.Test.YtglfeocfhlmloaaGreatY20
import Derived.Test.YtglfeocfhlmloaaGreatY21
import Derived.Test.YtglfeocfhlmloaaGreatY22
import Derived.Test.YtglfeocfhlmloaaGreatY23
import Derived.Test.YtglfeocfhlmloaaGreatY24
import Derived.Test.YtglfeocfhlmloaaGreatY25
import Derived.Test.YtglfeocfhlmloaaGreatY26
import Derived.Test.YtglfeocfhlmloaaGreatY27
import Derived.Test.YtglfeocfhlmloaaGreatY28
import Derived.Test.YtglfeocfhlmloaaGreatY29
import Derived.Test.YtglfeocfhlmloaaGreatY30
import Derived.Test.YtglfeocfhlmloaaGreatY31
import Derived.Test.YtglfeocfhlmloaaGreatY32
import Derived.Test.YtglfeocfhlmloaaGreatY33
import Derived.Test.YtglfeocfhlmloaaGreatY34
import Derived.Test.YtglfeocfhlmloaaGreatY35
import Derived.Test.YtglfeocfhlmloaaGreatY36
import Derived.Test.YtglfeocfhlmloaaGreatY37
import Derived.Test.YtglfeocfhlmloaaGreatY38
import Derived.Test.YtglfeocfhlmloaaGreatY39
import Derived.Test.YtglfeocfhlmloaaGreatY40
namespace Go.Proofs.YtglfeocfhlmloaaGreat.Up
open Go.RowKit
open Vp (Str B bl Val cmpL parseS showS withinS IsPath checkS)
open Nd (Row wp_world post_Row grownBy_setCell below_of_grown bytesS u8v Sl RE)
/-- bytes that a call makes -/
def CC (fn : Nat) (arg : Value) (Y : List Nat) : Prop := ∀ W, Calls Tryz.prog fn #[arg] W fun e w' => ∃ p c b, e = .returned (.slice p Y.length c) ∧ Sl w' p Y c b 0 ∧ (p = none → Y.length = 0 ∧ c = 0) ∧ w'.ownsRow W.heap.size 5 1 (.slice p Y.length c) Y.length (Y.map u8v) ∧ Below W.heap.size W w'
theorem cc_num (n : Nat) (hn : n < 18446744073709551616) : CC 26 (.int .u64 (n : Int)) (Nd.Wire.num n) := fun W => by
  refine (Nd.rwnum_any W n hn).mono ?_
  rintro e w' ⟨v, rfl, ho, hb⟩
  obtain ⟨p, c, b, rfl, hs, hno⟩ := Nd.own_sl (Nd.num_lt n hn) ho
  exact ⟨p, c, b, rfl, hs, hno, ho, hb⟩
theorem cc_flag (f : Bool) : CC 28 (.bool f) [if f then 1 else 0] := fun W => by
  refine (Nd.rwflag_any W f).mono ?_
  rintro e w' ⟨v, rfl, ho, hb⟩
  obtain ⟨p, c, b, rfl, hs, hno⟩ := Nd.own_sl (by intro x hx; simp only [List.mem_singleton] at hx; rw [hx]; split <;> omega) ho
  exact ⟨p, c, b, rfl, hs, hno, ho, hb⟩
theorem cc_text (s : ByteArray) (hn : s.size ≤ 8192) : CC 27 (.string s) (Nd.Wire.num s.size ++ bytesS s) := fun W => by
  refine (Nd.rwtext_any W s (by omega)).mono ?_
  rintro e w' ⟨v, rfl, ho, hb⟩
  obtain ⟨p, c, b, rfl, hs, hno⟩ := Nd.own_sl (Nd.app_lt (Nd.num_lt s.size (by omega)) (Nd.bytesS_lt s)) ho
  exact ⟨p, c, b, rfl, hs, hno, ho, hb⟩
theorem take_encI {es : List Ent} {i : Nat} {e : Ent} (h : es[i]? = some e) : ((es.take (i + 1)).map Ent.fil).flatMap encI = ((es.take i).map Ent.fil).flatMap encI ++ encI e.fil := by
  rw [List.take_add_one, h, List.map_append, List.flatMap_append]
  simp
set_option maxHeartbeats 4000000 in
set_option maxRecDepth 100000 in
theorem rencode_any {w : World} {r N Z : Nat} {es : List Ent} (h : RU w r (N : Int) (Z : Int) es) (hN : N ≤ 128) (hZ : Z ≤ 8192) (he : ∀ e ∈ es, OkF e.fil) (h8 : es.length ≤ 1024) :
    Calls Tryz.prog 10 #[.pointer (some ⟨r, 0, none⟩)] w fun e w' => ∃ v, e = .returned v ∧ w'.ownsRow w.heap.size 5 1 v (encA N Z es).length ((encA N Z es).map u8v) ∧ Below w.heap.size w w' := by
  obtain ⟨p, cap, b, o, hl1, hl2, hrow, -, hat⟩ := h.at_
  have HAT := hid_in hat
  have HEN := hid_in he
  have HM8 := hid_in h8
  have HNL := hid_in Nd.num_length
  have hn9 : (N : Int) ≤ 128 := by omega
  have hz9 : (Z : Int) ≤ 8192 := by omega
  have hm8 : (es.length : Int) ≤ 1024 := by omega
  have HCL := hid_in (fun W (k : Below w.heap.size w W) => (hrow.below k hrow.lt).cell 2)
  have HCZ := hid_in (fun W (k : Below w.heap.size w W) => (hrow.below k hrow.lt).cell 1)
  simp only [List.getElem?_cons_succ, List.getElem?_cons_zero] at HCL HCZ
  have hq0 : w.cell? ⟨r, 0, none⟩ = some (.int .i64 (N : Int)) := hrow.cell 0
  have HC1 := hid_in (cc_num N (by omega))
  have HC2 := hid_in (cc_num Z (by omega))
  have HC3 := hid_in (cc_num es.length (by omega))
  generalize hm' : es.length = m' at *
  have HM := hid_in hm'
  obtain ⟨Y1, HY1⟩ : ∃ Y, Hid (Nd.Wire.num N = Y) := ⟨_, hid_in rfl⟩
  obtain ⟨Y2, HY2⟩ : ∃ Y, Hid (Nd.Wire.num Z = Y) := ⟨_, hid_in rfl⟩
  obtain ⟨Y3, HY3⟩ : ∃ Y, Hid (Nd.Wire.num m' = Y) := ⟨_, hid_in rfl⟩
  have HL1 := hid_in (HNL.out N)
  have HL2 := hid_in (HNL.out Z)
  have HL3 := hid_in (HNL.out m')
  rw [HY1.out] at HC1 HL1
  rw [HY2.out] at HC2 HL2
  rw [HY3.out] at HC3 HL3
  clear h he h8 hat hrow hl1 hm' hN hZ
  go_enter Tryz.func10, Tryz.ntmps10
  go_upto_region 2 with (first | (go_at_call 26; refine (HC1.out _).mono ?_; rintro e w1 ⟨p1, c1, b1, rfl, -, -, ho1, hb1⟩; have HRE1 : Hid (RE w w1 _ Y1) := hid_in ⟨ho1, hb1⟩; clear ho1 hb1))
  have hq1 := HCZ.out w1 HRE1.out.bel
  go_upto_region 3 with (first | (go_at_call 26; refine (HC2.out _).mono ?_; rintro e a2 ⟨p2, c2, b2, rfl, hs2, hn2, -, hb2⟩; have HA2 := hid_in (HRE1.out.below hb2); have HS2 := hid_in hs2; have HN2 := hid_in hn2; clear hs2 hn2 hb2) | (at_builtin; refine Nd.wpList_app w.heap.size rfl _ _ rfl _ Y1 Y2 rfl HA2.out.own _ _ _ _ _ rfl rfl HS2.out HN2.out (by have := HL1.out; have := HL2.out; omega) HA2.out.bel.size ?_; intro v2 w2 ho2 hg2; have HRE2 := hid_in (HA2.out.more ho2 hg2); clear ho2 hg2 HA2 HS2 HN2))
  obtain ⟨Y12, HY12⟩ : ∃ Y, Hid (Y1 ++ Y2 = Y) := ⟨_, hid_in rfl⟩
  have HL12 : Hid (Y12.length ≤ 20) := hid_in (by rw [← HY12.out]; have h1 := HL1.out; have h2 := HL2.out; simp only [List.length_append]; omega)
  rw [HY12.out] at HRE2
  have hq2 := HCL.out w2 HRE2.out.bel
  clear HRE1 hq1 hq0
  go_upto_region 4 with (first | (go_at_call 26; refine (HC3.out _).mono ?_; rintro e a3 ⟨p3, c3, b3, rfl, hs3, hn3, -, hb3⟩; have HA3 := hid_in (HRE2.out.below hb3); have HS3 := hid_in hs3; have HN3 := hid_in hn3; clear hs3 hn3 hb3) | (at_builtin; refine Nd.wpList_app w.heap.size rfl _ _ rfl _ Y12 Y3 rfl HA3.out.own _ _ _ _ _ rfl rfl HS3.out HN3.out (by have := HL12.out; have := HL3.out; omega) HA3.out.bel.size ?_; intro v3 w3 ho3 hg3; have HRE3 := hid_in (HA3.out.more ho3 hg3); clear ho3 hg3 HA3 HS3 HN3))
  obtain ⟨Y, HY⟩ : ∃ Y, Hid (Y12 ++ Y3 = Y) := ⟨_, hid_in rfl⟩
  have HYL0 : Hid (Y.length ≤ 30) := hid_in (by rw [← HY.out]; have h1 := HL12.out; have h2 := HL3.out; simp only [List.length_append]; omega)
  rw [HY.out] at HRE3
  clear HRE2 hq2
  go_wp2_with fail
  go_loopw [3, 4] (fun vb vi W => ∃ i : Nat, i ≤ m' ∧ vi = .int .i64 (i : Int) ∧ Hid (RE w W vb (Y ++ ((es.take i).map Ent.fil).flatMap encI))) (fun _ vi _ => m' - (intOf vi).toNat)
  case atStart => exact ⟨0, by omega, rfl, hid_in (by simpa using HRE3.out)⟩
  case round =>
    clear HRE3
    obtain ⟨i, hi, rfl, hpr⟩ := hrel
    have q1 := HCL.out _ hpr.out.bel
    by_cases hlt : i < m'
    · have hl2 : (i : Int) < (m' : Int) := by omega
      have hl3 : ¬ (i : Int) < 0 := by omega
      have hl4 : 0 ≤ (i : Int) := by omega
      obtain ⟨s, hs⟩ : ∃ s, es[i]? = some s := ⟨_, List.getElem?_eq_getElem (by rw [HM.out]; exact hlt)⟩
      obtain ⟨rfl, -⟩ := HAT.out _ hpr.out.bel i s hs
      have HCS := hid_in (fun W (k : Below w.heap.size w W) => (HAT.out W k i s hs).2)
      have htk := take_encI hs
      obtain ⟨i1, ⟨i2, i3⟩, i4⟩ := HEN.out s (List.mem_of_getElem? hs)
      have hto := encs_len ((es.take i).map Ent.fil) (fun f hf => by obtain ⟨e, h1, rfl⟩ := List.mem_map.1 hf; exact (HEN.out e (List.mem_of_mem_take h1)).1) (fun f hf => by obtain ⟨e, h1, rfl⟩ := List.mem_map.1 hf; exact (HEN.out e (List.mem_of_mem_take h1)).2.2)
      have htl : ((es.take i).map Ent.fil).length ≤ 1024 := by rw [List.length_map, List.length_take]; have := HM8.out; omega
      obtain ⟨sn, sk, sq, sd⟩ := s
      simp only [Ent.fil] at i1 i2 i3 i4
      simp only at HCS
      obtain ⟨kn, rfl⟩ := Int.eq_ofNat_of_zero_le i2
      obtain ⟨Zb, HZ⟩ : ∃ Z, Hid (Y ++ ((es.take i).map Ent.fil).flatMap encI = Z) := ⟨_, hid_in rfl⟩
      have HYL : Hid (Zb.length ≤ 2000000) := hid_in (by rw [← HZ.out, List.length_append]; have := HYL0.out; omega)
      obtain ⟨sp, HSP⟩ : ∃ x, Hid (B (showS sn) = x) := ⟨_, hid_in rfl⟩
      rw [HSP.out] at HCS i1
      have HNX : Hid (Y ++ ((es.take (i + 1)).map Ent.fil).flatMap encI = (((Zb ++ (Nd.Wire.num sp.size ++ bytesS sp)) ++ Nd.Wire.num kn) ++ [if sq then 1 else 0]) ++ (Nd.Wire.num sd.size ++ bytesS sd)) := hid_in (by
        rw [htk, ← List.append_assoc, HZ.out]
        simp only [encI, Ent.fil, HSP.out, Int.toNat_natCast, List.append_assoc])
      have HC6 := hid_in (cc_text sp (by omega))
      have HC7 := hid_in (cc_num kn (by omega))
      have HC8 := hid_in (cc_flag sq)
      have HC9 := hid_in (cc_text sd (by omega))
      have HLS0 : Hid ((Nd.Wire.num sp.size ++ bytesS sp).length + (Nd.Wire.num kn).length + [if sq then 1 else 0].length + (Nd.Wire.num sd.size ++ bytesS sd).length ≤ 2000) := hid_in (by
        have h1 := HNL.out sp.size; have h2 := HNL.out kn; have h4 := HNL.out sd.size
        rw [List.length_append, List.length_append, Nd.bytesS_length, Nd.bytesS_length]
        simp only [List.length_cons, List.length_nil]
        omega)
      obtain ⟨A1, HA1⟩ : ∃ A, Hid (Nd.Wire.num sp.size ++ bytesS sp = A) := ⟨_, hid_in rfl⟩
      obtain ⟨A2, HA2⟩ : ∃ A, Hid (Nd.Wire.num kn = A) := ⟨_, hid_in rfl⟩
      obtain ⟨A3, HA3⟩ : ∃ A : List Nat, Hid (([if sq then 1 else 0] : List Nat) = A) := ⟨_, hid_in rfl⟩
      obtain ⟨A4, HA4⟩ : ∃ A, Hid (Nd.Wire.num sd.size ++ bytesS sd = A) := ⟨_, hid_in rfl⟩
      rw [HA1.out] at HC6
      rw [HA2.out] at HC7
      rw [HA3.out] at HC8
      rw [HA4.out] at HC9
      rw [HA1.out, HA2.out, HA3.out, HA4.out] at HNX HLS0
      have HLS := HLS0
      clear HLS0 HA1 HA2 HA3 HA4
      have HRE5 := hid_in hpr.out
      rw [HZ.out] at HRE5
      have HLT := hid_in hlt
      have k1 : (kn : Int) ≤ 3 := i3
      obtain ⟨e0, -, -, -⟩ := HCS.out _ HRE5.out.bel
      clear hs htk hto htl i1 i2 i3 i4 hpr hi hlt
      go_upto_region 8 with (first | (go_at_call 27; refine (HC6.out _).mono ?_; rintro e a6 ⟨p6, c6, b6, rfl, hs6, hn6, -, hb6⟩; have HA6 := hid_in (HRE5.out.below hb6); have HS6 := hid_in hs6; have HN6 := hid_in hn6; clear hs6 hn6 hb6) | (at_builtin; refine Nd.wpList_app w.heap.size rfl _ _ rfl _ Zb A1 rfl HA6.out.own _ _ _ _ _ rfl rfl HS6.out HN6.out (by have := HYL.out; have := HLS.out; (try simp only [List.length_append]); omega) HA6.out.bel.size ?_; intro v6 w6 ho6 hg6; have HRE6 := hid_in (HA6.out.more ho6 hg6); clear ho6 hg6 HA6 HS6 HN6))
      have q6 := HCL.out _ HRE6.out.bel
      obtain ⟨-, e1, -, -⟩ := HCS.out _ HRE6.out.bel
      go_upto_region 9 with (first | (go_at_call 26; refine (HC7.out _).mono ?_; rintro e a7 ⟨p7, c7, b7, rfl, hs7, hn7, -, hb7⟩; have HA7 := hid_in (HRE6.out.below hb7); have HS7 := hid_in hs7; have HN7 := hid_in hn7; clear hs7 hn7 hb7) | (at_builtin; refine Nd.wpList_app w.heap.size rfl _ _ rfl _ (Zb ++ A1) A2 rfl HA7.out.own _ _ _ _ _ rfl rfl HS7.out HN7.out (by have := HYL.out; have := HLS.out; (try simp only [List.length_append]); omega) HA7.out.bel.size ?_; intro v7 w7 ho7 hg7; have HRE7 := hid_in (HA7.out.more ho7 hg7); clear ho7 hg7 HA7 HS7 HN7))
      have q7 := HCL.out _ HRE7.out.bel
      obtain ⟨-, -, e2, -⟩ := HCS.out _ HRE7.out.bel
      go_upto_region 10 with (first | (go_at_call 28; refine (HC8.out _).mono ?_; rintro e a8 ⟨p8, c8, b8, rfl, hs8, hn8, -, hb8⟩; have HA8 := hid_in (HRE7.out.below hb8); have HS8 := hid_in hs8; have HN8 := hid_in hn8; clear hs8 hn8 hb8) | (at_builtin; refine Nd.wpList_app w.heap.size rfl _ _ rfl _ ((Zb ++ A1) ++ A2) A3 rfl HA8.out.own _ _ _ _ _ rfl rfl HS8.out HN8.out (by have := HYL.out; have := HLS.out; (try simp only [List.length_append]); omega) HA8.out.bel.size ?_; intro v8 w8 ho8 hg8; have HRE8 := hid_in (HA8.out.more ho8 hg8); clear ho8 hg8 HA8 HS8 HN8))
      have q8 := HCL.out _ HRE8.out.bel
      obtain ⟨-, -, -, e3⟩ := HCS.out _ HRE8.out.bel
      go_wp2_with (first | (go_at_call 27; refine (HC9.out _).mono ?_; rintro e a9 ⟨p9, c9, b9, rfl, hs9, hn9, -, hb9⟩; have HA9 := hid_in (HRE8.out.below hb9); have HS9 := hid_in hs9; have HN9 := hid_in hn9; clear hs9 hn9 hb9) | (at_builtin; refine Nd.wpList_app w.heap.size rfl _ _ rfl _ (((Zb ++ A1) ++ A2) ++ A3) A4 rfl HA9.out.own _ _ _ _ _ rfl rfl HS9.out HN9.out (by have := HYL.out; have := HLS.out; (try simp only [List.length_append]); omega) HA9.out.bel.size ?_; intro v9 w9 ho9 hg9; have HRE9 := hid_in (HA9.out.more ho9 hg9); clear ho9 hg9 HA9 HS9 HN9))
      refine ⟨⟨i + 1, by have := HLT.out; omega, by go_num, ?_⟩, by have := HLT.out; simp [intOf]; omega⟩
      rw [HNX.out]
      exact HRE9.out
    · obtain rfl : i = m' := by omega
      have hall : es.take i = es := by rw [List.take_of_length_le]; rw [HM.out]; exact Nat.le_refl _
      rw [hall] at hpr
      clear hall hlt hi
      go_wp2_with fail
      go_ret
      refine ⟨_, rfl, ?_, hpr.out.bel⟩
      have e : encA N Z es = Y ++ (es.map Ent.fil).flatMap encI := by unfold encA encU; rw [HM.out, HY1.out, HY2.out, HY3.out, HY12.out, HY.out]
      rw [e]
      exact hpr.out.own
end Go.Proofs.YtglfeocfhlmloaaGreat.Up
namespace Go.Proofs.YtglfeocfhlmloaaGreat.Up
open Go.RowKit
open Vp (Str B bl Val cmpL parseS showS withinS IsPath checkS)
open Nd (Row wp_world post_Row post_Row2 grownBy_setCell below_of_grown)
/-- an inode as a value -/
def Ent.ino (e : Ent) : Value := .agg #[.string (B (showS e.names)), .int .i64 e.kind, .bool e.opq, .string e.data]
def inoZ : Value := .agg #[.string ⟨#[]⟩, .int .i64 0, .bool false, .string ⟨#[]⟩]
def inoA (o : Option Ent) : Value := match o with | none => inoZ | some e => e.ino
set_option maxHeartbeats 2000000 in
set_option maxRecDepth 100000 in
theorem rget_any {w : World} {r : Nat} {N Z : Int} {es : List Ent} (h : RU w r N Z es) (hg : GoodL es) (hnd : (es.map (·.names)).Nodup) {u : Value} {xs : List Str} (hv : Val w u xs) (hl : Lib.lens xs + xs.length ≤ 140737488355328) :
    Calls Tryz.prog 47 #[.pointer (some ⟨r, 0, none⟩), u] w fun e w' => e = .returned (.tuple #[inoA (entAt es xs), .bool (entAt es xs).isSome]) ∧ Below w.heap.size w w' := by
  obtain ⟨np, nc, rfl⟩ : ∃ p c, u = .slice p xs.length c := by obtain ⟨p, c, e, _⟩ := hv; exact ⟨p, c, e⟩
  obtain ⟨w1, HW1⟩ : ∃ w1, Hid (w.alloc (.cells #[.string ⟨#[]⟩, .int .i64 0, .bool false, .string ⟨#[]⟩] 42) = w1) := ⟨_, hid_in rfl⟩
  have HB1 : Hid (Below w.heap.size w w1) := by rw [← HW1.out]; exact (Below.refl _ _).alloc (Nat.le_refl _) _
  have HR1 : Hid (Row w1 w.heap.size [.string ⟨#[]⟩, .int .i64 0, .bool false, .string ⟨#[]⟩] 42) := by rw [← HW1.out]; exact Row.new w [.string ⟨#[]⟩, .int .i64 0, .bool false, .string ⟨#[]⟩] 42
  have HPL := hid_in (rplace_any (h.below HB1.out) hg (hv.below HB1.out) hl)
  obtain ⟨p, cap, b, o, hc1, hc2, hrow, -, hat⟩ := h.at_
  have HAT := hid_in hat
  have HROW := hid_in hrow
  have HND := hid_in hnd
  obtain ⟨V, HV⟩ : ∃ V, Hid (inoA (entAt es xs) = V) := ⟨_, hid_in rfl⟩
  obtain ⟨S, HS⟩ : ∃ S, Hid ((entAt es xs).isSome = S) := ⟨_, hid_in rfl⟩
  rw [HV.out, HS.out]
  generalize xs.length = nl at *
  generalize hnn : es.length = n at *
  have HNN := hid_in hnn
  clear h hg hv hl hnd hat hrow hnn
  go_enter Tryz.func47, Tryz.ntmps47
  go_upto_region 1 with fail
  refine wp_world HW1.out ?_
  go_upto_region 2 with (go_at_call 50; refine HPL.out.mono ?_; rintro e w2 ⟨k, rfl, hk, hb2⟩; have HK := hid_in hk; have HB2 := hid_in (HB1.out.trans (hb2.mono HB1.out.size)); have HR2 := hid_in (HR1.out.below hb2 HR1.out.lt); clear hk hb2)
  have r0 := HR2.out.cell 0
  have r1 := HR2.out.cell 1
  have r2 := HR2.out.cell 2
  have r3 := HR2.out.cell 3
  have z0 := HR2.out.frozen 0
  have z1 := HR2.out.frozen 1
  have z2 := HR2.out.frozen 2
  have z3 := HR2.out.frozen 3
  have q2 : w2.cell? ⟨r, 2, none⟩ = some (.slice p n cap) := (HROW.out.below HB2.out HROW.out.lt).cell 2
  clear HPL HR1 HB1
  rcases HK.out with ⟨rfl, hno⟩ | ⟨i, e, rfl, he, hen⟩
  · have HNO := hid_in hno
    clear hno
    go_wp2
    exact post_Row2 4 5 42 rfl w.heap.size rfl 42 [.string ⟨#[]⟩, .int .i64 0, .bool false, .string ⟨#[]⟩] ((((HR2.out.set_same 0 _).set_same 1 _).set_same 2 _).set_same 3 _) _ Tryz.underlying42 rfl 4 info36 rfl rfl ⟨by rw [← HV.out, ← HS.out, HNO.out]; rfl, (set4_below HB2.out (Nat.le_refl _) HB2.out.size _ _ _ _).1⟩
  · have hx := at_mem HND.out (List.mem_of_getElem? he)
    rw [hen] at hx
    have HNO := hid_in hx
    have HVE : Hid (V = .agg #[.string (B (showS e.names)), .int .i64 e.kind, .bool e.opq, .string e.data] ∧ S = true) := hid_in (by rw [← HV.out, ← HS.out, hx]; exact ⟨rfl, rfl⟩)
    obtain ⟨rfl, c0, c1, c2, c3⟩ := HAT.out _ HB2.out i e he
    have hi : (i : Int) < (n : Int) := by have := (List.getElem?_eq_some_iff.1 he).1; have := HNN.out; omega
    have hi0 : ¬ (i : Int) < 0 := by omega
    generalize B (showS e.names) = T at *
    generalize e.kind = ek at *
    generalize e.opq = eq at *
    generalize e.data = ed at *
    clear he hen hx HK HAT
    go_wp2
    exact post_Row2 4 5 42 rfl w.heap.size rfl 42 [.string T, .int .i64 ek, .bool eq, .string ed] ((((HR2.out.set_same 0 _).set_same 1 _).set_same 2 _).set_same 3 _) _ Tryz.underlying42 rfl 4 info36 rfl rfl ⟨by rw [HVE.out.1, HVE.out.2]; rfl, (set4_below HB2.out (Nat.le_refl _) HB2.out.size _ _ _ _).1⟩
end Go.Proofs.YtglfeocfhlmloaaGreat.Up
