/-
  The walks of Int and Flag, written and read, of wire and of the reference. The walk of Node: the node that plain data mean. Plain facts on a right node's bytes, and what comes in with a Raw in later worlds. The walk of the reference's Encode. Int and Flag that are written and read, by states. The words of the kinds: the walks of Word, the program's and the reference's, Reads and Kind. What the document says of paths, over lists of bytes; small laws on strings. Which texts may be a path's, and which are names: the walks of the program's and of the reference's tests. The pieces of a text: what stands between its strokes. The walk of strings.Cut at one stroke.
-/
import Derived.Laws.CopyOwn
import Derived.OwnWalk
import Derived.Deep.RegionLaw
import Derived.Deep.DrawnRows
import Derived.Laws.Tables
import Derived.Laws.BitsAllLaws
import Derived.Deep.CutRange
import Derived.Test.YtjlhjpooggkkoaaRows
import Derived.WalkKit
import Derived.WalkSpells
import Derived.WalkLawsBesides
import Derived.Deep.Light
import Derived.Lib.Strings
import Derived.BigQuiet
import Derived.BigRegion
import Derived.Lib.Bytealg
import Derived.Lib.Walk
import Derived.Laws.Strings3
import Derived.Deep.Draws
import Derived.BigCall
import Derived.BigGuard
import Derived.Test.YtjlhjpooggkkoaaR00
import Derived.Test.YtjlhjpooggkkoaaR01
import Derived.Test.YtjlhjpooggkkoaaR02
import Derived.Test.YtjlhjpooggkkoaaR03
namespace Go.Proofs.Ytjlhjpooggkkoaa.Nd
open Go.RowKit
namespace Wire
/-- a number with a sign, as one without -/
def zz (n : Int) : Nat := if 0 ≤ n then (2 * n).toNat else (-2 * n - 1).toNat
/-- a number with a sign, out of one without -/
def unzz (m : Nat) : Int := if m % 2 = 0 then ((m / 2 : Nat) : Int) else -((m / 2 : Nat) : Int) - 1
/-- a flag that is read: what it is, what is left, what is wrong -/
def rflag : List Nat → Bool × List Nat × Nat
  | [] => (false, [], 20)
  | c :: r => if 1 < c then (false, [], 21) else (decide (c = 1), r, 0)
end Wire
theorem not64 (x : Nat) (hx : x < 18446744073709551616) : bits .xor .u64 (if IntKind.u64.signed = true then -1 else IntKind.u64.max) (x : Int) = ((18446744073709551615 - x : Nat) : Int) := by
  have h : (if IntKind.u64.signed = true then -1 else IntKind.u64.max : Int) = ((18446744073709551615 : Nat) : Int) := by decide
  have hx' : 18446744073709551615 ^^^ x = 18446744073709551615 - x := by
    refine Nat.eq_of_testBit_eq fun i => ?_
    rw [Nat.testBit_xor, show (18446744073709551615 : Nat) = 2 ^ 64 - 1 from rfl, Nat.testBit_two_pow_sub_one, show 2 ^ 64 - 1 - x = 2 ^ 64 - (x + 1) by omega, Nat.testBit_two_pow_sub_succ (show x < 2 ^ 64 by omega)]
    by_cases h : i < 64
    · simp [h]
    · have : x.testBit i = false := Nat.testBit_lt_two_pow (Nat.lt_of_lt_of_le (show x < 2 ^ 64 by omega) (Nat.pow_le_pow_right (by omega) (by omega)))
      simp [h, this]
  rw [h, u64_xor_nat _ _ (by decide) hx, hx']
set_option maxHeartbeats 1000000 in
set_option maxRecDepth 100000 in
theorem oint_any (w : World) (B g : Nat) (v : Value) (xs : List Nat) (n : Int) (hn1 : -9223372036854775808 ≤ n) (hn2 : n ≤ 9223372036854775807) (ho : OutIs w B g v xs) (hl : xs.length + 10 ≤ 140737488355328) :
    Calls Try.prog 30 #[.pointer (some ⟨g, 0, none⟩), .int .i64 n] w fun e w' => e = .returned (.tuple #[]) ∧ ∃ v', OutIs w' B g v' (xs ++ Wire.num (Wire.zz n)) ∧ Grew w w' (OutS g v) ∧ Moved w v v' := by
  obtain ⟨z, HZ, hz⟩ : ∃ z, Hid (z = Wire.zz n) ∧ z < 18446744073709551616 := ⟨_, rfl, by unfold Wire.zz; split <;> omega⟩
  have hnum := onum_any w B g v xs z hz ho hl
  rw [← HZ.out]
  by_cases h0 : 0 ≤ n
  · have hz1 : Hid ((z : Int) = 2 * n) := by show _ = _; rw [HZ.out]; unfold Wire.zz; rw [if_pos h0]; omega
    obtain ⟨m, rfl⟩ := Int.eq_ofNat_of_zero_le h0
    clear ho
    go_enter Try.func30, Try.ntmps30
    go_wp2_with fail
    have e0 : ((m : Int) * 2) = (z : Int) := by have := hz1.out; omega
    rw [e0]
    refine hnum.mono ?_
    rintro e w' ⟨rfl, hh⟩
    have H := hid_in hh
    clear hh hnum
    go_wp2
    go_end0
    exact ⟨rfl, H.out⟩
  · have hz1 : Hid ((z : Int) = -2 * n - 1) := by show _ = _; rw [HZ.out]; unfold Wire.zz; rw [if_neg h0]; omega
    clear ho
    go_enter Try.func30, Try.ntmps30
    go_wp2_with fail
    have e0 : bits .xor .u64 IntKind.u64.max (IntKind.u64.wrap (IntKind.u64.wrap n * 2)) = (z : Int) := by
      have hy : IntKind.u64.wrap (IntKind.u64.wrap n * 2) = (((2 * n + 18446744073709551616).toNat : Nat) : Int) := by
        rw [IntKind.wrap_u64, IntKind.wrap_u64]; omega
      rw [hy]
      have h := not64 (2 * n + 18446744073709551616).toNat (by omega)
      have h' : bits .xor .u64 IntKind.u64.max (((2 * n + 18446744073709551616).toNat : Nat) : Int) = ((18446744073709551615 - (2 * n + 18446744073709551616).toNat : Nat) : Int) := h
      rw [h']
      have := hz1.out
      omega
    rw [e0]
    refine hnum.mono ?_
    rintro e w' ⟨rfl, hh⟩
    have H := hid_in hh
    clear hh hnum e0
    go_wp2
    go_end0
    exact ⟨rfl, H.out⟩
set_option maxHeartbeats 1000000 in
set_option maxRecDepth 100000 in
theorem oflag_any (w : World) (B g : Nat) (v : Value) (xs : List Nat) (fl : Bool) (ho : OutIs w B g v xs) (hl : xs.length + 1 ≤ 140737488355328) :
    Calls Try.prog 42 #[.pointer (some ⟨g, 0, none⟩), .bool fl] w fun e w' => e = .returned (.tuple #[]) ∧ ∃ v', OutIs w' B g v' (xs ++ [if fl then 1 else 0]) ∧ Grew w w' (OutS g v) ∧ Moved w v v' := by
  obtain ⟨i5i, HI5, HE1, HE2, HE3⟩ := i5h
  have c0 : w.cell? ⟨g, 0, none⟩ = some v := ho.row.cell 0
  have f0 := ho.row.frozen 0
  have hown := ho.own
  have hbase := ho.base
  have HO := hid_in ho
  clear ho
  cases fl
  · go_enter Try.func42, Try.ntmps42
    go_wp2_with (at_builtin; refine wpList_append_one_at rfl _ _ 32 rfl B 5 i5i (.int .u8 0) Try.underlying32 HI5.out HE3.out HE1.out HE2.out rfl _ _ _ rfl hown 5 _ rfl rfl hl hbase ?_; intro v1 w1 hown1 hg1 hm1; have HM1 := hid_in hm1; clear hm1; obtain ⟨q1, cq1, rfl, _, _⟩ := hown1.form (Nat.succ_pos _); have cg : w1.cell? ⟨g, 0, none⟩ = some v := (HO.out.row.grew hg1 (fun h => HO.out.apart h.symm)).cell 0; have fg := (HO.out.row.grew hg1 (fun h => HO.out.apart h.symm)).frozen 0)
    exact bodyPost_end (results_none Try.results42 _ _ _) rfl ⟨rfl, _, (out_step (y := 0) (by omega) HO.out hown1 hg1 HM1.out rfl).1, (out_step (y := 0) (by omega) HO.out hown1 hg1 HM1.out rfl).2, HM1.out⟩
  · go_enter Try.func42, Try.ntmps42
    go_wp2_with (at_builtin; refine wpList_append_one_at rfl _ _ 32 rfl B 5 i5i (.int .u8 0) Try.underlying32 HI5.out HE3.out HE1.out HE2.out rfl _ _ _ rfl hown 5 _ rfl rfl hl hbase ?_; intro v1 w1 hown1 hg1 hm1; have HM1 := hid_in hm1; clear hm1; obtain ⟨q1, cq1, rfl, _, _⟩ := hown1.form (Nat.succ_pos _); have cg : w1.cell? ⟨g, 0, none⟩ = some v := (HO.out.row.grew hg1 (fun h => HO.out.apart h.symm)).cell 0; have fg := (HO.out.row.grew hg1 (fun h => HO.out.apart h.symm)).frozen 0)
    exact bodyPost_ret (results_none Try.results42 _ _ _) rfl ⟨rfl, _, (out_step (y := 1) (by omega) HO.out hown1 hg1 HM1.out rfl).1, (out_step (y := 1) (by omega) HO.out hown1 hg1 HM1.out rfl).2, HM1.out⟩
set_option maxHeartbeats 1000000 in
theorem rwint_any (w : World) (n : Int) (hn1 : -9223372036854775808 ≤ n) (hn2 : n ≤ 9223372036854775807) :
    Calls Try.prog 33 #[.int .i64 n] w fun e w' => ∃ v, e = .returned v ∧ w'.ownsRow w.heap.size 5 1 v (Wire.num (Wire.zz n)).length ((Wire.num (Wire.zz n)).map u8v) ∧ Below w.heap.size w w' := by
  obtain ⟨z, HZ, hz⟩ : ∃ z, Hid (z = Wire.zz n) ∧ z < 18446744073709551616 := ⟨_, rfl, by unfold Wire.zz; split <;> omega⟩
  have hnum := rwnum_any w z hz
  rw [← HZ.out]
  by_cases h0 : 0 ≤ n
  · have hz1 : Hid ((z : Int) = 2 * n) := by show _ = _; rw [HZ.out]; unfold Wire.zz; rw [if_pos h0]; omega
    obtain ⟨m, rfl⟩ := Int.eq_ofNat_of_zero_le h0
    go_enter Try.func33, Try.ntmps33
    go_wp2_with fail
    have e0 : (2 * (m : Int)) = (z : Int) := by have := hz1.out; omega
    rw [e0]
    refine hnum.mono ?_
    rintro e w' ⟨v, rfl, hh⟩
    have H := hid_in hh
    clear hh hnum e0
    go_wp2
    go_ret
    exact ⟨_, rfl, H.out⟩
  · have hz1 : Hid ((z : Int) = -2 * n - 1) := by show _ = _; rw [HZ.out]; unfold Wire.zz; rw [if_neg h0]; omega
    have k0 : n < 0 := by omega
    go_enter Try.func33, Try.ntmps33
    go_wp2_with fail
    have e0 : 2 * -(n + 1) + 1 = (z : Int) := by have := hz1.out; omega
    rw [e0]
    refine hnum.mono ?_
    rintro e w' ⟨v, rfl, hh⟩
    have H := hid_in hh
    clear hh hnum e0
    go_wp2
    go_ret
    exact ⟨_, rfl, H.out⟩
theorem rwflag_any (w : World) (fl : Bool) :
    Calls Try.prog 44 #[.bool fl] w fun e w' => ∃ v, e = .returned v ∧ w'.ownsRow w.heap.size 5 1 v 1 ([if fl then 1 else 0].map u8v) ∧ Below w.heap.size w w' := by
  have hb : ∀ x : Value, Below w.heap.size w (w.alloc (.cells #[x] 5)) := fun x => (Below.refl _ _).alloc (Nat.le_refl _) _
  have ho : ∀ y : Nat, (w.alloc (.cells #[u8v y] 5)).ownsRow w.heap.size 5 1 (.slice (some ⟨w.heap.size, 0, none⟩) 1 1) 1 [u8v y] := fun y => by
    refine ⟨by simp, .inr ⟨w.heap.size, 1, _, rfl, Nat.le_refl _, heap_alloc_new w _, by omega, by unfold maxLen; omega, by simp, ?_⟩⟩
    simp
  have HO := hid_in ho
  have HB := hid_in hb
  clear ho hb
  cases fl
  · go_enter Try.func44, Try.ntmps44
    go_wp2
    go_ret
    exact ⟨_, rfl, HO.out 0, HB.out _⟩
  · go_enter Try.func44, Try.ntmps44
    go_wp2
    go_ret
    exact ⟨_, rfl, HO.out 1, HB.out _⟩
theorem and_one64 (x : Nat) (hx : x < 18446744073709551616) : bits .and .u64 (x : Int) 1 = ((x % 2 : Nat) : Int) := by
  have := u64_and_nat x 1 hx (by decide)
  rw [Nat.and_one_is_mod] at this
  exact this
set_option maxHeartbeats 400000 in
theorem iint_of (w : World) (g m : Nat) (hm : m < 18446744073709551616) (R : World → Prop) (hn : Calls Try.prog 47 #[.pointer (some ⟨g, 0, none⟩)] w fun r w' => r = .returned (.int .u64 (m : Int)) ∧ R w') :
    Calls Try.prog 36 #[.pointer (some ⟨g, 0, none⟩)] w fun r w' => r = .returned (.int .i64 (Wire.unzz m)) ∧ R w' := by
  have ha := and_one64 m hm
  go_enter Try.func36, Try.ntmps36
  go_wp2_with fail
  refine hn.mono ?_
  rintro e w1 ⟨rfl, hR⟩
  have HR := hid_in hR
  clear hR hn
  by_cases h : m % 2 = 0
  · have HU : Hid (Wire.unzz m = ((m / 2 : Nat) : Int)) := by show _ = _; unfold Wire.unzz; rw [if_pos h]
    have ha' : bits .and .u64 (m : Int) 1 = 0 := by rw [ha, h]; rfl
    clear ha
    go_wp2
    go_ret
    rw [HU.out]
    exact ⟨by simp, HR.out⟩
  · have HU : Hid (Wire.unzz m = -((m / 2 : Nat) : Int) - 1) := by show _ = _; unfold Wire.unzz; rw [if_neg h]
    have ha' : bits .and .u64 (m : Int) 1 = 1 := by rw [ha, show m % 2 = 1 by omega]; rfl
    clear ha
    go_wp2
    go_ret
    rw [HU.out]
    exact ⟨by simp, HR.out⟩
theorem iflag_bad {B : Nat} (w : World) (g e : Nat) (bs : List Nat) (he : e ≠ 0) (hi : InIs B w g bs e) :
    Calls Try.prog 46 #[.pointer (some ⟨g, 0, none⟩)] w fun r w' => r = .returned (.bool false) ∧ w' = w := by
  have HI := hid_in hi
  clear hi
  go_enter Try.func46, Try.ntmps46
  go_wp2_with fail
  refine (take_bad _ g e 1 bs he HI.out).mono ?_
  rintro e w1 ⟨rfl, rfl⟩
  go_wp2
  go_ret
  exact ⟨rfl, rfl⟩
set_option maxHeartbeats 400000 in
theorem iflag_any {B : Nat} (w : World) (g : Nat) (bs : List Nat) (hlt : ∀ x ∈ bs, x < 256) (hi : InIs B w g bs 0) :
    Calls Try.prog 46 #[.pointer (some ⟨g, 0, none⟩)] w fun r w' => r = .returned (.bool (Wire.rflag bs).1) ∧ InIs B w' g (Wire.rflag bs).2.1 (Wire.rflag bs).2.2 ∧ w.grownBy w' (some g) ∧ w'.heap.size = w.heap.size := by
  have HI := hid_in hi
  clear hi
  go_enter Try.func46, Try.ntmps46
  rcases bs with _ | ⟨c, r⟩
  · go_wp2_with fail
    refine (take_short _ g 1 [] (by simp) HI.out).mono ?_
    rintro e w1 ⟨rfl, h1, h2, h3⟩
    have H1 := hid_in h1
    have H2 := hid_in h2
    have H3 := hid_in h3
    clear h1 h2 h3
    go_wp2
    go_ret
    exact ⟨rfl, H1.out, H2.out, H3.out⟩
  · have hc := hlt c (by simp)
    clear hlt
    go_wp2_with fail
    refine (take_some _ g 1 (c :: r) (by omega) (by simp) HI.out).mono ?_
    rintro e w1 ⟨b, off, cap, rfl, hsl, h1, h2, h3⟩
    have c0 : w1.cell? ⟨b, off, none⟩ = some (.int .u8 (c : Int)) := hsl.src 0 (by simp)
    have H1 : Hid (InIs B w1 g r 0) := h1
    have H2 := hid_in h2
    have H3 := hid_in h3
    have HF1 := hid_in (h1.ex)
    clear h1 h2 h3 hsl HI
    by_cases hbad : 1 < c
    · have k0 : ¬ ((c : Int) = 0) := by omega
      have k1 : ((c : Int) != 0) = true := by rw [bne_iff_ne]; omega
      have k2 : ((c : Int) != 1) = true := by rw [bne_iff_ne]; omega
      have HV : Hid (Wire.rflag (c :: r) = (false, [], 21)) := by show _ = _; unfold Wire.rflag; simp only; rw [if_pos hbad]
      obtain ⟨p2, cap2, b2, off2, hrow, _, _, _⟩ := HF1.out
      have HFF := hid_in (fail_any (B := B) w1 g 21 _ _ hrow)
      clear hrow HF1 hbad
      go_wp2_with fail
      refine HFF.out.mono ?_
      rintro e w2 ⟨rfl, h1, h2, h3⟩
      have H4 := hid_in h1
      have H5 := hid_in h2
      have H6 := hid_in h3
      clear h1 h2 h3
      go_wp2
      go_ret
      rw [HV.out]
      exact ⟨rfl, H4.out, grownBy_trans H2.out H5.out, H6.out.trans H3.out⟩
    · have HV : Hid (Wire.rflag (c :: r) = (decide (c = 1), r, 0)) := by show _ = _; unfold Wire.rflag; simp only; rw [if_neg hbad]
      obtain rfl | rfl : c = 0 ∨ c = 1 := by omega
      · clear hbad hc
        go_wp2
        go_ret
        rw [HV.out]
        exact ⟨rfl, H1.out, H2.out, H3.out⟩
      · clear hbad hc
        go_wp2
        go_ret
        rw [HV.out]
        exact ⟨rfl, H1.out, H2.out, H3.out⟩
theorem rflag_bad {B : Nat} (w : World) (g : Nat) (t : TypeId) (bs : List Nat) (k e : Nat) (he : e ≠ 0) (hi : RIs B w g t bs k e) :
    Calls Try.prog 48 #[.pointer (some ⟨g, 0, none⟩)] w fun r w' => r = .returned (.bool false) ∧ w' = w := by
  obtain ⟨p, cap, b, off, hr, hsl, hne⟩ := hi.ex
  have c2 : w.cell? ⟨g, 2, none⟩ = some (.int .i64 (e : Int)) := hr.cell 2
  have k1 : ¬ ((e : Int) = 0) := by omega
  clear hi hr hsl hne
  go_enter Try.func48, Try.ntmps48
  go_wp2
  go_ret
  exact ⟨rfl, rfl⟩
set_option maxHeartbeats 400000 in
theorem rflag_none {B : Nat} (w : World) (g : Nat) (t : TypeId) (bs : List Nat) (k : Nat) (hd : bs.drop k = []) (hi : RIs B w g t bs k 0) :
    Calls Try.prog 48 #[.pointer (some ⟨g, 0, none⟩)] w fun r w' => r = .returned (.bool false) ∧ RIs B w' g t bs bs.length 20 ∧ Grew w w' (· = g) := by
  have hk : k = bs.length := by have := hi.le; simp at hd; omega
  have hl := hi.len
  obtain ⟨p, cap, b, off, hr, hsl, hne⟩ := hi.ex
  have c0 : w.cell? ⟨g, 0, none⟩ = some (.slice p bs.length cap) := hr.cell 0
  have c1 : w.cell? ⟨g, 1, none⟩ = some (.int .i64 (k : Int)) := hr.cell 1
  have c2 : w.cell? ⟨g, 2, none⟩ = some (.int .i64 0) := hr.cell 2
  have k1 : (bs.length : Int) ≤ (k : Int) := by omega
  have HI := hid_in hi
  clear hi hr hsl hne hd hk
  go_enter Try.func48, Try.ntmps48
  go_wp2_with fail
  go_region
  go_wp2_with fail
  refine (rbad_any w.drew g t bs k 0 20 HI.out.drew).mono ?_
  rintro e1 w1 ⟨rfl, h1, h2, h3⟩
  have H1 := hid_in h1
  have H2 := hid_in h2
  clear h1 h2 h3 c0 c1 c2
  go_wp2
  go_ret
  refine ⟨rfl, H1.out, ?_⟩
  exact ((Grew.of_below (· = g) (Below.refl _ w).drew).trans (Grew.of_grown H2.out) (fun q _ h => by simpa using h))
set_option maxHeartbeats 1000000 in
theorem rflag_over {B : Nat} (w : World) (g : Nat) (t : TypeId) (bs : List Nat) (k c : Nat) (r : List Nat) (hd : bs.drop k = c :: r) (hb : 1 < c) (hi : RIs B w g t bs k 0) :
    Calls Try.prog 48 #[.pointer (some ⟨g, 0, none⟩)] w fun r w' => r = .returned (.bool false) ∧ RIs B w' g t bs bs.length 21 ∧ Grew w w' (· = g) := by
  obtain ⟨hk, hr', ⟨p, cap, b, off, hr, rfl, hcell, hbg⟩, _, hc⟩ := ris_step hi hd
  have HN := hid_in (ris_step hi.drew.drew hd).2.2.2.1
  have hl := hi.len
  have c0 : w.cell? ⟨g, 0, none⟩ = some (.slice (some ⟨b, off, none⟩) bs.length cap) := hr.cell 0
  have c1 : w.cell? ⟨g, 1, none⟩ = some (.int .i64 (k : Int)) := hr.cell 1
  have c2 : w.cell? ⟨g, 2, none⟩ = some (.int .i64 0) := hr.cell 2
  have k1 : ¬ ((bs.length : Int) ≤ (k : Int)) := by omega
  have k2 : (k : Int) < (bs.length : Int) := by omega
  have f1 := hr.frozen 1
  clear hi hr hd hk hr'
  have k3 : (1 : Int) < (c : Int) := by omega
  go_enter Try.func48, Try.ntmps48
  go_wp2_with fail
  go_region
  go_wp2_with fail
  go_region
  go_wp2_with fail
  refine (rbad_any _ g t bs (k + 1) 0 21 HN.out).mono ?_
  rintro e1 w1 ⟨rfl, h1, h2, h3⟩
  have H1 := hid_in h1
  have H2 := hid_in h2
  clear h1 h2 h3 c0 c1 c2 hcell
  go_wp2
  go_ret
  refine ⟨rfl, H1.out, ?_⟩
  exact ((Grew.of_below (· = g) (Below.refl _ w).drew.drew).trans (Grew.of_grown (grownBy_setCell w.drew.drew ⟨g, 1, none⟩ _)) (fun q _ h => by simpa using h)).trans (Grew.of_grown H2.out) (fun q _ h => by simpa using h)
set_option maxHeartbeats 1000000 in
theorem rflag_ok {B : Nat} (w : World) (g : Nat) (t : TypeId) (bs : List Nat) (k c : Nat) (r : List Nat) (hd : bs.drop k = c :: r) (hb : c ≤ 1) (hi : RIs B w g t bs k 0) :
    Calls Try.prog 48 #[.pointer (some ⟨g, 0, none⟩)] w fun r w' => r = .returned (.bool (decide (c = 1))) ∧ RIs B w' g t bs (k + 1) 0 ∧ Grew w w' (· = g) := by
  obtain ⟨hk, hr', ⟨p, cap, b, off, hr, rfl, hcell, hbg⟩, _, hc⟩ := ris_step hi hd
  have HN := hid_in (ris_step hi.drew.drew hd).2.2.2.1
  have hl := hi.len
  have c0 : w.cell? ⟨g, 0, none⟩ = some (.slice (some ⟨b, off, none⟩) bs.length cap) := hr.cell 0
  have c1 : w.cell? ⟨g, 1, none⟩ = some (.int .i64 (k : Int)) := hr.cell 1
  have c2 : w.cell? ⟨g, 2, none⟩ = some (.int .i64 0) := hr.cell 2
  have k1 : ¬ ((bs.length : Int) ≤ (k : Int)) := by omega
  have k2 : (k : Int) < (bs.length : Int) := by omega
  have f1 := hr.frozen 1
  clear hi hr hd hk hr'
  obtain rfl | rfl : c = 0 ∨ c = 1 := by omega
  · go_enter Try.func48, Try.ntmps48
    go_wp2_with fail
    go_region
    go_wp2_with fail
    go_region
    go_wp2_with fail
    go_ret
    exact ⟨rfl, HN.out, (Grew.of_below (· = g) (Below.refl _ w).drew.drew).trans (Grew.of_grown (grownBy_setCell w.drew.drew ⟨g, 1, none⟩ _)) (fun q _ h => by simpa using h)⟩
  · go_enter Try.func48, Try.ntmps48
    go_wp2_with fail
    go_region
    go_wp2_with fail
    go_region
    go_wp2_with fail
    go_ret
    exact ⟨rfl, HN.out, (Grew.of_below (· = g) (Below.refl _ w).drew.drew).trans (Grew.of_grown (grownBy_setCell w.drew.drew ⟨g, 1, none⟩ _)) (fun q _ h => by simpa using h)⟩
set_option maxHeartbeats 400000 in
theorem rint_of (w : World) (g m : Nat) (hm : m < 18446744073709551616) (R : World → Prop) (hn : Calls Try.prog 49 #[.pointer (some ⟨g, 0, none⟩)] w fun r w' => r = .returned (.int .u64 (m : Int)) ∧ R w') :
    Calls Try.prog 39 #[.pointer (some ⟨g, 0, none⟩)] w fun r w' => r = .returned (.int .i64 (Wire.unzz m)) ∧ R w' := by
  go_enter Try.func39, Try.ntmps39
  go_wp2_with fail
  refine hn.mono ?_
  rintro e w1 ⟨rfl, hR⟩
  have HR := hid_in hR
  clear hR hn
  by_cases h : m % 2 = 0
  · have HU : Hid (Wire.unzz m = ((m / 2 : Nat) : Int)) := by show _ = _; unfold Wire.unzz; rw [if_pos h]
    have k1 : (m : Int) % 2 = 0 := by omega
    clear h
    go_wp2
    go_ret
    rw [HU.out]
    exact ⟨by simp, HR.out⟩
  · have HU : Hid (Wire.unzz m = -((m / 2 : Nat) : Int) - 1) := by show _ = _; unfold Wire.unzz; rw [if_neg h]
    have k1 : ¬ ((m : Int) % 2 = 0) := by omega
    clear h
    go_wp2
    go_ret
    rw [HU.out]
    exact ⟨by simp, HR.out⟩
theorem unzz_zz (n : Int) (h1 : -9223372036854775808 ≤ n) (h2 : n ≤ 9223372036854775807) : Wire.unzz (Wire.zz n) = n := by
  unfold Wire.unzz Wire.zz
  split
  · rename_i h
    split
    · omega
    · omega
  · rename_i h
    split
    · omega
    · omega
theorem zz_lt (n : Int) (h1 : -9223372036854775808 ≤ n) (h2 : n ≤ 9223372036854775807) : Wire.zz n < 18446744073709551616 := by
  unfold Wire.zz
  split <;> omega
end Go.Proofs.Ytjlhjpooggkkoaa.Nd
namespace Go.Proofs.Ytjlhjpooggkkoaa.Nd
open Go.RowKit
/-- a slice of slices of bytes -/
def Bss (w : World) (v : Value) (ps : List (List Nat)) : Prop := ∃ p cap b o, v = .slice p ps.length cap ∧ ps.length ≤ cap ∧ cap ≤ 9223372036854775807 ∧ (ps ≠ [] → p = some ⟨b, o, none⟩ ∧ b < w.heap.size) ∧ ∀ (i : Nat) bs, ps[i]? = some bs → ∃ q c b' o', w.cell? ⟨b, o + i, none⟩ = some (.slice q bs.length c) ∧ Sl w q bs c b' o'
/-- a slice of texts -/
def Strs (w : World) (v : Value) (ns : List ByteArray) : Prop := ∃ p cap b o, v = .slice p ns.length cap ∧ ns.length ≤ cap ∧ cap ≤ 9223372036854775807 ∧ (ns ≠ [] → p = some ⟨b, o, none⟩ ∧ b < w.heap.size) ∧ ∀ (i : Nat) s, ns[i]? = some s → w.cell? ⟨b, o + i, none⟩ = some (.string s)
/-- a slice of numbers -/
def Ints (w : World) (v : Value) (ks : List Int) : Prop := ∃ p cap b o, v = .slice p ks.length cap ∧ ks.length ≤ cap ∧ cap ≤ 9223372036854775807 ∧ (ks ≠ [] → p = some ⟨b, o, none⟩ ∧ b < w.heap.size) ∧ ∀ (i : Nat) k, ks[i]? = some k → w.cell? ⟨b, o + i, none⟩ = some (.int .i64 k)
theorem Bss.lt {w : World} {v : Value} {ps : List (List Nat)} (h : Bss w v ps) : ∀ bs ∈ ps, ∀ x ∈ bs, x < 256 := by
  obtain ⟨p, cap, b, o, _, _, _, _, hat⟩ := h
  intro bs hbs
  obtain ⟨i, hi, rfl⟩ := List.getElem_of_mem hbs
  obtain ⟨q, c, b', o', _, hs⟩ := hat i _ (List.getElem?_eq_getElem hi)
  exact hs.lt
end Go.Proofs.Ytjlhjpooggkkoaa.Nd
namespace Go.Proofs.Ytjlhjpooggkkoaa.Nd
open Go.RowKit
theorem app_lt {a b : List Nat} (ha : ∀ x ∈ a, x < 256) (hb : ∀ x ∈ b, x < 256) : ∀ x ∈ a ++ b, x < 256 := by
  intro x hx
  rcases List.mem_append.1 hx with h | h
  · exact ha x h
  · exact hb x h
theorem Bss.below {w w' : World} {v : Value} {ps : List (List Nat)} (h : Bss w v ps) (hb : Below w.heap.size w w') : Bss w' v ps := by
  obtain ⟨p, cap, b, o, rfl, h1, h2, h3, hat⟩ := h
  refine ⟨p, cap, b, o, rfl, h1, h2, fun hne => ⟨(h3 hne).1, Nat.lt_of_lt_of_le (h3 hne).2 hb.size⟩, fun i bs hi => ?_⟩
  obtain ⟨q, c, b', o', hc, hs⟩ := hat i bs hi
  exact ⟨q, c, b', o', (hb.cell (p := ⟨b, o + i, none⟩) (World.block_lt_of_cell? w _ hc)).trans hc, hs.below hb⟩
theorem Strs.below {w w' : World} {v : Value} {ns : List ByteArray} (h : Strs w v ns) (hb : Below w.heap.size w w') : Strs w' v ns := by
  obtain ⟨p, cap, b, o, rfl, h1, h2, h3, hat⟩ := h
  exact ⟨p, cap, b, o, rfl, h1, h2, fun hne => ⟨(h3 hne).1, Nat.lt_of_lt_of_le (h3 hne).2 hb.size⟩, fun i s hi => (hb.cell (p := ⟨b, o + i, none⟩) (World.block_lt_of_cell? w _ (hat i s hi))).trans (hat i s hi)⟩
theorem Ints.below {w w' : World} {v : Value} {ks : List Int} (h : Ints w v ks) (hb : Below w.heap.size w w') : Ints w' v ks := by
  obtain ⟨p, cap, b, o, rfl, h1, h2, h3, hat⟩ := h
  exact ⟨p, cap, b, o, rfl, h1, h2, fun hne => ⟨(h3 hne).1, Nat.lt_of_lt_of_le (h3 hne).2 hb.size⟩, fun i s hi => (hb.cell (p := ⟨b, o + i, none⟩) (World.block_lt_of_cell? w _ (hat i s hi))).trans (hat i s hi)⟩
end Go.Proofs.Ytjlhjpooggkkoaa.Nd
namespace Go.Proofs.Ytjlhjpooggkkoaa.Nd
open Go.RowKit
theorem wpList_app {ops : Array Oper} {rest : List Oper} {o : Oper} {a : Act} {w : World} {Q : Exit → Act → World → Prop} (B : Nat) (hgd : o.guard = none) (s x : Operand) (ho : o.op = .call { callee := .builtin .append, args := #[s, x], argTypes := #[32, 32] })
    (v : Value) (xs ys : List Nat) (hs : a.eval s = v) (hown : w.ownsRow B 5 1 v xs.length (xs.map u8v)) (p : Option Addr) (c b off : Nat) (n : Nat) (hx : a.eval x = .slice p n c) (hn : ys.length = n) (hsl : Sl w p ys c b off) (hno : p = none → ys.length = 0 ∧ c = 0) (hlen : xs.length + ys.length ≤ 140737488355328) (hB : B ≤ w.heap.size)
    (h : ∀ v' w', w'.ownsRow B 5 1 v' (xs ++ ys).length ((xs ++ ys).map u8v) → w.grownBy w' v.ownBlock → wpList Try.prog ops Q rest (a.put o.dst v') w') : wpList Try.prog ops Q (o :: rest) a w := by
  subst hn
  obtain ⟨i5i, HI5, HE1, HE2, HE3⟩ := i5h
  refine wpList_append_any hgd s x 32 ho B 5 i5i (.int .u8 0) Try.underlying32 HI5.out HE3.out HE1.out HE2.out rfl v xs.length (xs.map u8v) hs hown p ys.length c (ys.map u8v) hx (by simp) hno hsl.news (one_u8 ys) hlen hB ?_
  intro v' w' h1 h2
  refine h v' w' ?_ h2
  rw [List.length_append, List.map_append]
  exact h1
/-- bytes that the call itself gathers -/
structure RE (W0 W : World) (v : Value) (xs : List Nat) : Prop where
  own : W.ownsRow W0.heap.size 5 1 v xs.length (xs.map u8v)
  bel : Below W0.heap.size W0 W
theorem RE.below {W0 W W' : World} {v : Value} {xs : List Nat} (h : RE W0 W v xs) (hb : Below W.heap.size W W') : RE W0 W' v xs := ⟨own_belowK h.own hb, h.bel.trans (hb.mono h.bel.size)⟩
theorem RE.more {W0 W W' : World} {v v' : Value} {xs ys : List Nat} (h : RE W0 W v xs) (ho : W'.ownsRow W0.heap.size 5 1 v' (xs ++ ys).length ((xs ++ ys).map u8v)) (hg : W.grownBy W' v.ownBlock) : RE W0 W' v' (xs ++ ys) := ⟨ho, own_step h.bel hg h.bel.size rfl h.own⟩
theorem num_c (W : World) (n : Nat) (hn : n < 18446744073709551616) : Calls Try.prog 45 #[.int .u64 (n : Int)] W fun e w' => ∃ p c b, e = .returned (.slice p (Wire.num n).length c) ∧ Sl w' p (Wire.num n) c b 0 ∧ (p = none → (Wire.num n).length = 0 ∧ c = 0) ∧ w'.ownsRow W.heap.size 5 1 (.slice p (Wire.num n).length c) (Wire.num n).length ((Wire.num n).map u8v) ∧ Below W.heap.size W w' := by
  refine (rwnum_any W n hn).mono ?_
  rintro e w' ⟨v, rfl, ho, hb⟩
  obtain ⟨p, c, b, rfl, hs, hno⟩ := own_sl (num_lt n hn) ho
  exact ⟨p, c, b, rfl, hs, hno, ho, hb⟩
theorem own_base {W : World} {B B' : Nat} {e : TypeId} {size n : Nat} {v : Value} {xs : List Value} (h : W.ownsRow B e size v n xs) (hb : B' ≤ B) : W.ownsRow B' e size v n xs := by
  obtain ⟨h1, h2 | ⟨g, cap, cur, rfl, hB, r⟩⟩ := h
  · exact ⟨h1, .inl h2⟩
  · exact ⟨h1, .inr ⟨g, cap, cur, rfl, Nat.le_trans hb hB, r⟩⟩
theorem RE.fin {w W0 W : World} {v : Value} {xs : List Nat} (h : RE W0 W v xs) (hb : Below w.heap.size w W0) : W.ownsRow w.heap.size 5 1 v xs.length (xs.map u8v) ∧ Below w.heap.size w W := ⟨own_base h.own hb.size, hb.trans (h.bel.mono hb.size)⟩
theorem RE.row {W0 W : World} {v : Value} {xs : List Nat} (h : RE W0 W v xs) {g : Nat} {vs : List Value} {t : TypeId} (hr : Row W0 g vs t) : Row W g vs t := hr.below h.bel hr.lt
end Go.Proofs.Ytjlhjpooggkkoaa.Nd
namespace Go.Proofs.Ytjlhjpooggkkoaa.Nd
open Go.RowKit
def i64r (n : Int) : Prop := -9223372036854775808 ≤ n ∧ n ≤ 9223372036854775807
theorem int_o (w : World) (B g : Nat) (xs : List Nat) (n : Int) (hn : i64r n) (hg : B ≤ g) (ho : OutB w B g xs) (hl : xs.length + 10 ≤ 140737488355328) :
    Calls Try.prog 30 #[.pointer (some ⟨g, 0, none⟩), .int .i64 n] w fun e w' => e = .returned (.tuple #[]) ∧ OutB w' B g (xs ++ Wire.num (Wire.zz n)) ∧ Below B w w' := by
  obtain ⟨v, hv⟩ := ho
  refine (oint_any w B g v xs n hn.1 hn.2 hv hl).mono ?_
  rintro e w' ⟨rfl, v', h1, h2, _⟩
  exact ⟨rfl, ⟨v', h1⟩, out_below hg hv h2⟩
theorem flag_o (w : World) (B g : Nat) (xs : List Nat) (f : Bool) (hg : B ≤ g) (ho : OutB w B g xs) (hl : xs.length + 1 ≤ 140737488355328) :
    Calls Try.prog 42 #[.pointer (some ⟨g, 0, none⟩), .bool f] w fun e w' => e = .returned (.tuple #[]) ∧ OutB w' B g (xs ++ [if f then 1 else 0]) ∧ Below B w w' := by
  obtain ⟨v, hv⟩ := ho
  refine (oflag_any w B g v xs f hv hl).mono ?_
  rintro e w' ⟨rfl, v', h1, h2, _⟩
  exact ⟨rfl, ⟨v', h1⟩, out_below hg hv h2⟩
/-- a number with a sign that is read -/
def sInt (s : Sta) : Int × Sta := (Wire.unzz (sNum s).1, (sNum s).2)
def sFlag (s : Sta) : Bool × Sta := if s.2 = 0 then Wire.rflag s.1 else (false, s)
theorem sNum_lt (s : Sta) : (sNum s).1 < 18446744073709551616 := by
  unfold sNum
  split
  · exact rnum_lt s.1
  · show 0 < 18446744073709551616; decide
theorem int_s (w : World) (g B : Nat) (s : Sta) (hi : In B w g s) : Calls Try.prog 36 #[.pointer (some ⟨g, 0, none⟩)] w fun r w' => r = .returned (.int .i64 (sInt s).1) ∧ In B w' g (sInt s).2 ∧ Grew w w' (· = g) :=
  iint_of w g (sNum s).1 (sNum_lt s) (fun w' => In B w' g (sNum s).2 ∧ Grew w w' (· = g)) (num_s w g B s hi)
theorem rint_s (w : World) (g B : Nat) (s : Sta) (hi : RI B w g s) : Calls Try.prog 39 #[.pointer (some ⟨g, 0, none⟩)] w fun r w' => r = .returned (.int .i64 (sInt s).1) ∧ RI B w' g (sInt s).2 ∧ Grew w w' (· = g) :=
  rint_of w g (sNum s).1 (sNum_lt s) (fun w' => RI B w' g (sNum s).2 ∧ Grew w w' (· = g)) (rnum_s w g B s hi)
theorem flag_s (w : World) (g B : Nat) (s : Sta) (hi : In B w g s) : Calls Try.prog 46 #[.pointer (some ⟨g, 0, none⟩)] w fun r w' => r = .returned (.bool (sFlag s).1) ∧ In B w' g (sFlag s).2 ∧ Grew w w' (· = g) := by
  obtain ⟨bs, e⟩ := s
  unfold sFlag
  split
  · rename_i h
    obtain rfl : e = 0 := h
    refine (iflag_any w g bs hi.lt hi).mono ?_
    rintro r w' ⟨rfl, h1, h2, _⟩
    exact ⟨rfl, h1, grew_of_grownS h2⟩
  · rename_i h
    refine (iflag_bad w g e bs h hi).mono ?_
    rintro r w' ⟨rfl, rfl⟩
    exact ⟨rfl, hi, Grew.refl _ _⟩
theorem rflag_s (w : World) (g B : Nat) (s : Sta) (hi : RI B w g s) : Calls Try.prog 48 #[.pointer (some ⟨g, 0, none⟩)] w fun r w' => r = .returned (.bool (sFlag s).1) ∧ RI B w' g (sFlag s).2 ∧ Grew w w' (· = g) := by
  obtain ⟨l, e⟩ := s
  obtain ⟨bs, k, h, hd⟩ := hi
  simp only at h hd
  unfold sFlag
  split
  · rename_i h0
    obtain rfl : e = 0 := h0
    cases l with
    | nil =>
      refine (rflag_none w g 67 bs k hd h).mono ?_
      rintro r w' ⟨rfl, h1, h2⟩
      exact ⟨rfl, ⟨bs, bs.length, h1, by simp [Wire.rflag]⟩, h2⟩
    | cons c r =>
      by_cases hc : 1 < c
      · refine (rflag_over w g 67 bs k c r hd hc h).mono ?_
        rintro r w' ⟨rfl, h1, h2⟩
        simp only [Wire.rflag, if_pos hc]
        exact ⟨trivial, ⟨bs, bs.length, h1, by simp⟩, h2⟩
      · refine (rflag_ok w g 67 bs k c r hd (by omega) h).mono ?_
        rintro r w' ⟨rfl, h1, h2⟩
        simp only [Wire.rflag, if_neg hc]
        refine ⟨trivial, ⟨bs, k + 1, h1, ?_⟩, h2⟩
        rw [← List.drop_drop, hd]
        rfl
  · rename_i h0
    refine (rflag_bad w g 67 bs k e h0 h).mono ?_
    rintro r w' ⟨rfl, rfl⟩
    exact ⟨rfl, ⟨bs, k, h, hd⟩, Grew.refl _ _⟩
end Go.Proofs.Ytjlhjpooggkkoaa.Nd
namespace Go.Proofs.Ytjlhjpooggkkoaa.Nd
open Go.RowKit
/-- the word of a kind -/
def wordOf (k : Int) : ByteArray :=
  if k = 1 then ⟨#[109, 107, 100, 105, 114]⟩ else if k = 2 then ⟨#[99, 114, 101, 97, 116, 101]⟩ else if k = 3 then ⟨#[119, 114, 105, 116, 101]⟩ else
  if k = 4 then ⟨#[116, 114, 117, 110, 99, 97, 116, 101]⟩ else if k = 5 then ⟨#[117, 110, 108, 105, 110, 107]⟩ else if k = 6 then ⟨#[114, 109, 100, 105, 114]⟩ else
  if k = 7 then ⟨#[114, 101, 110, 97, 109, 101]⟩ else if k = 8 then ⟨#[114, 101, 97, 100]⟩ else if k = 9 then ⟨#[108, 105, 115, 116]⟩ else
  if k = 10 then ⟨#[115, 116, 97, 116]⟩ else if k = 11 then ⟨#[102, 111, 114, 103, 101, 116]⟩ else ⟨#[]⟩
theorem kinds_split (k : Int) : k = 1 ∨ k = 2 ∨ k = 3 ∨ k = 4 ∨ k = 5 ∨ k = 6 ∨ k = 7 ∨ k = 8 ∨ k = 9 ∨ k = 10 ∨ k = 11 ∨ (k ≠ 1 ∧ k ≠ 2 ∧ k ≠ 3 ∧ k ≠ 4 ∧ k ≠ 5 ∧ k ≠ 6 ∧ k ≠ 7 ∧ k ≠ 8 ∧ k ≠ 9 ∧ k ≠ 10 ∧ k ≠ 11) := by omega
set_option maxHeartbeats 1000000 in
set_option maxRecDepth 100000 in
theorem word_any (k : Int) (w : World) : Calls Try.prog 12 #[.int .i64 k] w fun e w' => e = .returned (.string (wordOf k)) ∧ w' = w := by
  rcases kinds_split k with rfl | rfl | rfl | rfl | rfl | rfl | rfl | rfl | rfl | rfl | rfl | ⟨h1, h2, h3, h4, h5, h6, h7, h8, h9, h10, h11⟩
  case inr.inr.inr.inr.inr.inr.inr.inr.inr.inr.inr =>
    have HV : Hid (wordOf k = ⟨#[]⟩) := by show _ = _; simp [wordOf, h1, h2, h3, h4, h5, h6, h7, h8, h9, h10, h11]
    go_enter Try.func12, Try.ntmps12
    go_wp2
    go_ret
    rw [HV.out]
    exact ⟨rfl, rfl⟩
  all_goals
    go_enter Try.func12, Try.ntmps12
    go_wp2
    go_ret
    exact ⟨rfl, rfl⟩
theorem toL_inj {a b : ByteArray} (h : a.toList = b.toList) : a = b := by
  rw [Lib.toList_data, Lib.toList_data] at h
  exact ByteArray.ext (Array.toList_inj.1 h)
end Go.Proofs.Ytjlhjpooggkkoaa.Nd
namespace Go.Proofs.Ytjlhjpooggkkoaa.Vp
open Go.RowKit
theorem hid_in {p : Prop} (h : p) : Hid p := h
/-- a text's bytes -/
abbrev Str := List UInt8
/-- a text as the program has it -/
def B (x : Str) : ByteArray := ⟨x.toArray⟩
def bl (s : ByteArray) : Str := s.data.toList
theorem bl_B (x : Str) : bl (B x) = x := by simp [B, bl]
theorem bl_length (s : ByteArray) : (bl s).length = s.size := by simp only [bl, Array.length_toList]; rfl
theorem B_size (x : Str) : (B x).size = x.length := by rw [← bl_length, bl_B]
/-- may a byte stand in a name? -/
def plainN (n : Nat) : Prop := (97 ≤ n ∧ n ≤ 122) ∨ (65 ≤ n ∧ n ≤ 90) ∨ (48 ≤ n ∧ n ≤ 57) ∨ n = 46 ∨ n = 95 ∨ n = 45
instance (n : Nat) : Decidable (plainN n) := by unfold plainN; infer_instance
def kindN (n : Nat) : Int := if plainN n then 2 else if n = 47 then 1 else 0
/-- may a byte stand in a name? -/
def plain (c : UInt8) : Bool := decide (plainN c.toNat)
theorem index_str (s : ByteArray) (j : Nat) (c : UInt8) (hj : (bl s)[j]? = some c) (k : Int) (hk : k = (j : Int)) (w : World) : (Instr.index 9 (.string s) (.int .i64 k)).run Try.prog w = .ok (.int .u8 (c.toNat : Int)) w := by
  subst hk
  have hlt : j < s.size := by rw [← bl_length]; exact (List.getElem?_eq_some_iff.1 hj).1
  have hs : s[j]? = some s[j] := by simp [hlt]
  have hb : s[j] = c := by
    have h1 : j < s.data.size := hlt
    simp only [bl, Array.getElem?_toList, Array.getElem?_eq_getElem h1, Option.some.injEq] at hj
    exact hj
  simp [Instr.index, asIntOf, run_underlying Try.underlying9, hs, hb]
set_option maxHeartbeats 400000 in
set_option maxRecDepth 100000 in
theorem kind_any (n : Nat) (w : World) : Calls Try.prog 59 #[.int .u8 (n : Int)] w fun e w' => e = .returned (.int .i64 (kindN n)) ∧ w' = w := by
  obtain ⟨K, hK⟩ : ∃ K, Hid (K = kindN n) := ⟨_, rfl⟩
  rw [← hK.out]
  go_enter Try.func59, Try.ntmps59
  go_wp2
  all_goals
    go_ret
    refine ⟨congrArg (fun z => Ending.returned (Value.int .i64 z)) (Eq.trans ?_ hK.out.symm), rfl⟩
    try simp only [beq_iff_eq, beq_eq_false_iff_ne, ne_eq] at *
    unfold kindN
    first
      | (rw [if_pos (by unfold plainN; omega)])
      | (rw [if_neg (by unfold plainN; omega), if_pos (by omega)])
      | (rw [if_neg (by unfold plainN; omega), if_neg (by omega)])
end Go.Proofs.Ytjlhjpooggkkoaa.Vp
namespace Go.Proofs.Ytjlhjpooggkkoaa.Vp
open Go.RowKit
theorem all_snoc {p : UInt8 → Bool} {l : Str} {i : Nat} {c : UInt8} (hc : l[i]? = some c) (h : (l.take i).all p = true) (hp : p c = true) : (l.take (i + 1)).all p = true := by
  rw [List.take_add_one, hc]; simp [List.all_append, h, hp]
theorem all_no {p : UInt8 → Bool} {l : Str} {i : Nat} {c : UInt8} (hc : l[i]? = some c) (hp : p c = false) : l.all p = false := by
  rw [List.all_eq_false]
  exact ⟨c, List.mem_of_getElem? hc, by simp [hp]⟩
/-- a byte that a path's text may have -/
def okByte (c : UInt8) : Bool := plain c || c == 47
/-- a path's text: it begins with a stroke, and has no byte that it may not have -/
def isTextS (x : Str) : Bool := (match x with | [] => false | c :: _ => c == 47) && x.all okByte
theorem n47 : ¬ plainN 47 := by decide
theorem kind_zero (c : UInt8) : (kindN c.toNat == 0) = !okByte c := by
  unfold kindN okByte plain
  by_cases h : plainN c.toNat
  · simp [h]
  · by_cases h2 : c.toNat = 47
    · simp [n47, show c = 47 from UInt8.toNat.inj h2]
    · have : c ≠ 47 := fun e => h2 (by rw [e]; rfl)
      simp [h, h2, this]
theorem kind_one (c : UInt8) : (kindN c.toNat != 1) = !(c == 47) := by
  unfold kindN
  by_cases h2 : c.toNat = 47
  · have hc : c = 47 := UInt8.toNat.inj h2
    simp [n47, hc]
  · have : c ≠ 47 := fun e => h2 (by rw [e]; rfl)
    by_cases h : plainN c.toNat
    · simp [h, this]
    · simp [h, h2, this]
theorem toL (x : Str) : (B x).toList = x := by rw [Lib.toList_data]; exact bl_B x
set_option maxHeartbeats 400000 in
set_option maxRecDepth 100000 in
theorem isText_any (x : Str) (hx : x.length ≤ 9223372036854775807) (w : World) : Calls Try.prog 56 #[.string (B x)] w fun e w' => e = .returned (.bool (isTextS x)) ∧ w' = w := by
  cases x with
  | nil =>
    have hT := toL []
    generalize B [] = s at hT ⊢
    go_enter Try.func56, Try.ntmps56
    go_wp2_with fail
    go_ret
    exact ⟨rfl, rfl⟩
  | cons c r =>
    have hsz : (B (c :: r)).size = (c :: r).length := B_size _
    have i0 := index_str (B (c :: r)) 0 c (by rw [bl_B]; rfl) 0 rfl
    have hix := fun (j : Nat) (d : UInt8) (hj : (c :: r)[j]? = some d) => index_str (B (c :: r)) j d (by rw [bl_B]; exact hj)
    have hT := toL (c :: r)
    have hk1 := kind_one c
    obtain ⟨R, hR⟩ : ∃ R, Hid (R = ((c == 47) && (c :: r).all okByte)) := ⟨_, rfl⟩
    have hR2 : isTextS (c :: r) = R := by rw [hR.out]; rfl
    rw [hR2]
    have HIX := hid_in hix
    have Hne : Hid (c :: r ≠ []) := by show _ ≠ _; simp
    clear hix hR2
    generalize B (c :: r) = s at hsz i0 HIX hT ⊢
    generalize hl : c :: r = l at hsz hT HIX hR hx Hne
    clear hl
    generalize hn : l.length = n at hsz hx
    have Hn := hid_in hn
    clear hn
    have hT2 : s.toList.isEmpty = false := by rw [hT]; simpa using Hne.out
    clear hT
    cases h47 : (c == 47)
    · rw [h47] at hk1
      have hk2 : (kindN c.toNat != 1) = true := hk1
      clear hk1
      have H47 := hid_in h47
      clear h47
      go_enter Try.func56, Try.ntmps56
      go_wp2_with (first | (go_at_call 59; refine (kind_any _ _).mono ?_; rintro e w' ⟨rfl, hw⟩; obtain rfl := hw.symm))
      go_ret
      refine ⟨congrArg (fun z => Ending.returned (Value.bool z)) (Eq.trans ?_ hR.out.symm), rfl⟩
      rw [H47.out]; rfl
    rw [h47] at hk1
    have hk2 : (kindN c.toNat != 1) = false := hk1
    clear hk1
    have H47 := hid_in h47
    clear h47
    go_enter Try.func56, Try.ntmps56
    go_wp2_with (first | (go_at_call 59; refine (kind_any _ _).mono ?_; rintro e w' ⟨rfl, hw⟩; obtain rfl := hw.symm))
    go_loopw [14] (fun vi w' => w' = w ∧ ∃ i : Nat, i ≤ n ∧ vi = .int .i64 (i : Int) ∧ Hid ((l.take i).all okByte = true)) (fun vi _ => n - (intOf vi).toNat)
    case atStart => exact ⟨rfl, 0, by omega, rfl, rfl⟩
    case round =>
      obtain ⟨rfl, i, hi, rfl, hall⟩ := hrel
      by_cases hlt : i < n
      · obtain ⟨d, hd⟩ : ∃ d, l[i]? = some d := ⟨_, List.getElem?_eq_getElem (by rw [Hn.out]; exact hlt)⟩
        have ix := HIX.out i d hd (i : Int) rfl
        cases hp : okByte d
        all_goals
          have kd := kind_zero d
          rw [hp] at kd
          try simp only [Bool.not_true, Bool.not_false] at kd
          have HP := hid_in hp
          clear hp
          have Hd := hid_in hd
          have Hl := hid_in hlt
          clear hd
          go_wp2_with (first | (go_at_call 59; refine (kind_any _ _).mono ?_; rintro e w' ⟨rfl, hw⟩; obtain rfl := hw.symm))
        · go_ret
          refine ⟨congrArg (fun z => Ending.returned (Value.bool z)) (Eq.trans ?_ hR.out.symm), rfl⟩
          rw [all_no Hd.out HP.out, Bool.and_false]
        · go_roundw
          case rel =>
            go_light
            exact ⟨trivial, i + 1, by omega, by go_num, all_snoc Hd.out hall.out HP.out⟩
          case measure => simp [intOf]; omega
      · have hin : i = n := by omega
        have hall2 : l.all okByte = true := by have := hall.out; rw [hin, ← Hn.out, List.take_length] at this; exact this
        clear hin
        go_wp2_with fail
        go_ret
        refine ⟨congrArg (fun z => Ending.returned (Value.bool z)) (Eq.trans ?_ hR.out.symm), rfl⟩
        rw [hall2, H47.out]; rfl
end Go.Proofs.Ytjlhjpooggkkoaa.Vp
namespace Go.Proofs.Ytjlhjpooggkkoaa.Vp
open Go.RowKit
/-- what stands ahead of the first stroke, what behind it, whether there is one -/
def cutS : Str → Str × Str × Bool
  | [] => ([], [], false)
  | c :: r => if c = 47 then ([], r, true) else (c :: (cutS r).1, (cutS r).2.1, (cutS r).2.2)
/-- what stands between the strokes, from the left, empty pieces too -/
def piecesS : Str → List Str
  | [] => [[]]
  | c :: r => if c = 47 then [] :: piecesS r else match piecesS r with
    | [] => [[c]]
    | p :: ps => (c :: p) :: ps
theorem pieces_cut (x : Str) : piecesS x = if (cutS x).2.2 then (cutS x).1 :: piecesS (cutS x).2.1 else [(cutS x).1] := by
  induction x with
  | nil => rfl
  | cons c r ih =>
    by_cases h : c = 47
    · simp [piecesS, cutS, h]
    · have e1 : piecesS (c :: r) = match piecesS r with | [] => [[c]] | p :: ps => (c :: p) :: ps := by rw [piecesS, if_neg h]
      have e2 : cutS (c :: r) = (c :: (cutS r).1, (cutS r).2.1, (cutS r).2.2) := by rw [cutS, if_neg h]
      rw [e1, e2, ih]
      by_cases h2 : (cutS r).2.2 = true
      · simp [h2]
      · simp [h2]
theorem cut_short (x : Str) (h : (cutS x).2.2 = true) : (cutS x).2.1.length < x.length := by
  induction x with
  | nil => simp [cutS] at h
  | cons c r ih =>
    unfold cutS at h ⊢
    by_cases h2 : c = 47
    · simp [h2]
    · simp only [h2, if_false] at h ⊢
      have := ih h
      simp; omega
theorem idx_cases (x : Str) : (Lib.indexByte x 47 = -1 ∧ cutS x = (x, [], false)) ∨ ∃ i : Nat, Lib.indexByte x 47 = (i : Int) ∧ i < x.length ∧ cutS x = (x.take i, x.drop (i + 1), true) := by
  induction x with
  | nil => exact .inl ⟨rfl, rfl⟩
  | cons c r ih =>
    unfold Lib.indexByte cutS
    by_cases h : c = 47
    · exact .inr ⟨0, by simp [h], by simp, by simp [h]⟩
    · rcases ih with ⟨h1, h2⟩ | ⟨i, h1, hi, h2⟩
      · exact .inl ⟨by simp [h, h1], by simp [h, h2]⟩
      · refine .inr ⟨i + 1, ?_, by simp; omega, by simp [h, h2]⟩
        rw [h1]
        have : ¬ ((i : Int) = -1) := by omega
        simp [h, this]
theorem extract_B (x : Str) (a b : Nat) : (B x).extract a b = B ((x.take b).drop a) := by
  refine ByteArray.ext ?_
  rw [ByteArray.data_extract]
  apply Array.toList_inj.1
  simp [B, List.drop_take]
set_option maxHeartbeats 400000 in
set_option maxRecDepth 100000 in
theorem indexByte_any (s : ByteArray) (c : Int) (w : World) : Calls Try.prog 64 #[.string s, .int .u8 c] w fun e w' => e = .returned (.int .i64 (Lib.indexByte s.data.toList c.toNat.toUInt8)) ∧ w' = w := by
  go_enter Try.func64, Try.ntmps64
  go_wp2
  rw [run_callFunc_extern Try.func68 (by kernel_rfl) (by kernel_rfl) (by kernel_rfl) (e := Extern.BytealgIndexByte.indexByte) (by kernel_rfl), Lib.run_indexByteString]
  simp only [Result.andThen]
  rw [Oper.upon_value]
  go_wp2
  go_ret
  exact ⟨rfl, rfl⟩
set_option maxHeartbeats 2000000 in
set_option maxRecDepth 100000 in
theorem index_any (x : Str) (w : World) : Calls Try.prog 63 #[.string (B x), .string ⟨#[47]⟩] w fun e w' => e = .returned (.int .i64 (Lib.indexByte x 47)) ∧ w' = w := by
  have hT := toL x
  have hD : (B x).data.toList = x := bl_B x
  obtain ⟨K, hK⟩ : ∃ K, Hid (K = Lib.indexByte x 47) := ⟨_, rfl⟩
  rw [← hK.out]
  have hC := indexByte_any (B x) 47
  rw [hD, show (47 : Int).toNat.toUInt8 = 47 from rfl, ← hK.out] at hC
  generalize B x = s at hT hC ⊢
  clear hD
  have HC := hid_in hC
  have HT := hid_in hT
  clear hC hT
  go_enter Try.func63, Try.ntmps63
  go_wp2_with (go_at_call 64; refine (HC.out _).mono ?_; rintro e w' ⟨rfl, hw⟩; obtain rfl := hw.symm)
  · have h : ([47] == s.toList) = true := by assumption
    go_ret
    refine ⟨congrArg (fun z => Ending.returned (Value.int .i64 z)) (Eq.trans ?_ hK.out.symm), rfl⟩
    have e : x = [47] := by rw [← HT.out]; exact (beq_iff_eq.1 h).symm
    rw [e]; rfl
  · go_ret
    exact ⟨rfl, rfl⟩
set_option maxHeartbeats 1000000 in
set_option maxRecDepth 100000 in
theorem lcut_any (x : Str) (hx : x.length ≤ 4294967296) (w : World) : Calls Try.prog 62 #[.string (B x), .string ⟨#[47]⟩] w fun e w' => e = .returned (.tuple #[.string (B (cutS x).1), .string (B (cutS x).2.1), .bool (cutS x).2.2]) ∧ ∃ n, w' = w.drewN n := by
  have hI := index_any x
  have hsz : (B x).size = x.length := B_size x
  rcases idx_cases x with ⟨h1, h2⟩ | ⟨i, h1, hi, h2⟩
  · rw [h1] at hI
    rw [h2]
    have HI := hid_in hI
    clear hI
    go_enter Try.func62, Try.ntmps62
    go_wp2_with (go_at_call 63; refine (HI.out _).mono ?_; rintro e w' ⟨rfl, hw⟩; obtain rfl := hw.symm)
    go_ret3
    exact ⟨rfl, 0, rfl⟩
  · rw [h1] at hI
    have e1 : (B x).extract 0 i = B (x.take i) := by rw [extract_B]; simp
    have e2 : (B x).extract (i + 1) x.length = B (x.drop (i + 1)) := by rw [extract_B]; simp
    rw [h2]
    have HI := hid_in hI
    have E1 := hid_in e1
    have E2 := hid_in e2
    have c2 : (i : Int) ≤ ((B x).size : Int) := by omega
    have c4 : (i : Int) + 1 ≤ ((B x).size : Int) := by omega
    clear hI h1 h2 e1 e2
    show Calls Try.prog 62 #[.string (B x), .string ⟨#[47]⟩] w fun e w' => e = .returned (.tuple #[.string (B (x.take i)), .string (B (x.drop (i + 1))), .bool true]) ∧ ∃ n, w' = w.drewN n
    generalize B x = s at hsz HI E1 E2 c2 c4 ⊢
    generalize x.length = n at *
    go_enter Try.func62, Try.ntmps62
    go_wp2_with (go_at_call 63; refine (HI.out _).mono ?_; rintro e w' ⟨rfl, hw⟩; obtain rfl := hw.symm)
    go_region
    go_wp2
    go_ret3
    refine ⟨?_, 1, rfl⟩
    simp [E1.out, E2.out]
set_option maxHeartbeats 1000000 in
set_option maxRecDepth 100000 in
theorem cut_any (x : Str) (hx : x.length ≤ 4294967296) (w : World) : Calls Try.prog 61 #[.string (B x), .string ⟨#[47]⟩] w fun e w' => e = .returned (.tuple #[.string (B (cutS x).1), .string (B (cutS x).2.1), .bool (cutS x).2.2]) ∧ ∃ n, w' = w.drewN n := by
  have hI := lcut_any x hx
  have HI := hid_in hI
  clear hI
  go_enter Try.func61, Try.ntmps61
  go_wp2_with (go_at_call 62; refine (HI.out _).mono ?_; rintro e w' ⟨rfl, n, hw⟩; obtain rfl := hw)
  go_ret3
  exact ⟨rfl, n, rfl⟩
end Go.Proofs.Ytjlhjpooggkkoaa.Vp
