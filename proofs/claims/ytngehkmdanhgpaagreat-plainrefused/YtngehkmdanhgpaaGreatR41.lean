/-
  Do of create, write, truncate, read, rmdir. Do of list.
-/
import Derived.Laws.CopyOwn
import Derived.Deep.RegionLaw
import Derived.Deep.DrawnRows
import Derived.Lib.SlBytesConst
import Derived.Lib.AppendZeros
import Derived.Laws.Tables
import Derived.Test.YtngehkmdanhgpaaGreatR00
import Derived.Test.YtngehkmdanhgpaaGreatR01
import Derived.Test.YtngehkmdanhgpaaGreatR02
import Derived.Test.YtngehkmdanhgpaaGreatR03
import Derived.Test.YtngehkmdanhgpaaGreatR04
import Derived.Test.YtngehkmdanhgpaaGreatR05
import Derived.Test.YtngehkmdanhgpaaGreatR06
import Derived.Test.YtngehkmdanhgpaaGreatR07
import Derived.Test.YtngehkmdanhgpaaGreatR08
import Derived.Test.YtngehkmdanhgpaaGreatR09
import Derived.Test.YtngehkmdanhgpaaGreatR10
import Derived.Test.YtngehkmdanhgpaaGreatR11
import Derived.Test.YtngehkmdanhgpaaGreatR12
import Derived.Test.YtngehkmdanhgpaaGreatR13
import Derived.Test.YtngehkmdanhgpaaGreatR14
import Derived.Test.YtngehkmdanhgpaaGreatR15
import Derived.Test.YtngehkmdanhgpaaGreatR16
import Derived.Test.YtngehkmdanhgpaaGreatR17
import Derived.Test.YtngehkmdanhgpaaGreatR18
import Derived.Test.YtngehkmdanhgpaaGreatR19
import Derived.Test.YtngehkmdanhgpaaGreatR20
import Derived.Test.YtngehkmdanhgpaaGreatR21
import Derived.Test.YtngehkmdanhgpaaGreatR22
import Derived.Test.YtngehkmdanhgpaaGreatR23
import Derived.Test.YtngehkmdanhgpaaGreatR24
import Derived.Test.YtngehkmdanhgpaaGreatR25
import Derived.Test.YtngehkmdanhgpaaGreatR26
import Derived.Test.YtngehkmdanhgpaaGreatR27
import Derived.Test.YtngehkmdanhgpaaGreatR28
import Derived.Test.YtngehkmdanhgpaaGreatR29
import Derived.Test.YtngehkmdanhgpaaGreatR30
import Derived.Test.YtngehkmdanhgpaaGreatR31
import Derived.Test.YtngehkmdanhgpaaGreatR32
import Derived.Test.YtngehkmdanhgpaaGreatR34
import Derived.Test.YtngehkmdanhgpaaGreatR35
import Derived.Test.YtngehkmdanhgpaaGreatR36
import Derived.Test.YtngehkmdanhgpaaGreatR37
import Derived.Test.YtngehkmdanhgpaaGreatR38
import Derived.Test.YtngehkmdanhgpaaGreatR39
import Derived.Test.YtngehkmdanhgpaaGreatR40
namespace Go.Proofs.YtngehkmdanhgpaaGreat.Pl
open Go.RowKit
open Vp (Str B bl Val cmpL parseS showS splitS withinS IsPath)
open Nd (Row wp_world post_Row post_Row2 grownBy_setCell below_of_grown Opn checkS)
theorem do_create {w : World} {g m : Nat} {L : List Spot} (h : Fs w g m L) (a z : Int) (p t d : ByteArray) (hp : p.size ≤ 9223372036854775807) (ht : t.size ≤ 9223372036854775807) (hc : checkS ⟨2, p, t, d, a, z⟩ = 0) :
    Calls Tryz.prog 14 #[.pointer (some ⟨g, 0, none⟩), .agg #[.int .i64 2, .string p, .string t, .string d, .int .i64 a, .int .i64 z]] w fun e w' => Did w g m (RA.err (addE (L.map Spot.ent) (nmsOf p))) (addA (L.map Spot.ent) (nmsOf p) false) e w' :=
  do_2 h a z p t d hp ht hc _ _ fun _W k => (create_any (h.below k) 2 a z p t d hp).mono fun _e _w' hh => ⟨_, hh.1, nm_nil _, hh.2.1, hh.2.2⟩
theorem do_write {w : World} {g m : Nat} {L : List Spot} (h : Fs w g m L) (hsm : Small (L.map Spot.ent)) (z : Int) (a : Nat) (p t d : ByteArray) (hp : p.size ≤ 9223372036854775807) (ht : t.size ≤ 9223372036854775807) (hc : checkS ⟨3, p, t, d, a, z⟩ = 0) (ha : a ≤ 1024) (hd : d.size ≤ 1024) :
    Calls Tryz.prog 14 #[.pointer (some ⟨g, 0, none⟩), .agg #[.int .i64 3, .string p, .string t, .string d, .int .i64 (a : Int), .int .i64 z]] w fun e w' => Did w g m ⟨wrE (L.map Spot.ent) (nmsOf p) a d, false, wrS (L.map Spot.ent) (nmsOf p) a d, ⟨#[]⟩, []⟩ (wrA (L.map Spot.ent) (nmsOf p) a d) e w' :=
  do_3 h a z p t d hp ht hc _ _ fun _W k => (write_any (h.below k) hsm 3 z a p t d hp ha hd).mono fun _e _w' hh => ⟨_, hh.1, nm_nil _, hh.2.1, hh.2.2⟩
theorem do_trunc {w : World} {g m : Nat} {L : List Spot} (h : Fs w g m L) (hsm : Small (L.map Spot.ent)) (a : Int) (z : Nat) (p t d : ByteArray) (hp : p.size ≤ 9223372036854775807) (ht : t.size ≤ 9223372036854775807) (hc : checkS ⟨4, p, t, d, a, z⟩ = 0) (hz : z ≤ 1024) :
    Calls Tryz.prog 14 #[.pointer (some ⟨g, 0, none⟩), .agg #[.int .i64 4, .string p, .string t, .string d, .int .i64 a, .int .i64 (z : Int)]] w fun e w' => Did w g m ⟨trE (L.map Spot.ent) (nmsOf p), false, trS (L.map Spot.ent) (nmsOf p) z, ⟨#[]⟩, []⟩ (trA (L.map Spot.ent) (nmsOf p) z) e w' :=
  do_4 h a z p t d hp ht hc _ _ fun _W k => (truncate_any (h.below k) hsm 4 a z p t d hp hz).mono fun _e _w' hh => ⟨_, hh.1, nm_nil _, hh.2.1, hh.2.2⟩
theorem do_read {w : World} {g m : Nat} {L : List Spot} (h : Fs w g m L) (a z : Nat) (p t d : ByteArray) (hp : p.size ≤ 9223372036854775807) (ht : t.size ≤ 9223372036854775807) (hc : checkS ⟨8, p, t, d, a, z⟩ = 0) (ha : a ≤ 1024) (hz : z ≤ 1024) :
    Calls Tryz.prog 14 #[.pointer (some ⟨g, 0, none⟩), .agg #[.int .i64 8, .string p, .string t, .string d, .int .i64 (a : Int), .int .i64 (z : Int)]] w fun e w' => Did w g m ⟨rdE (L.map Spot.ent) (nmsOf p) a, false, rdS (L.map Spot.ent) (nmsOf p) a, rdB (L.map Spot.ent) (nmsOf p) a z, []⟩ (L.map Spot.ent) e w' :=
  do_8 h a z p t d hp ht hc _ _ fun _W k => (read_any (h.below k) 8 a z p t d hp ha hz).mono fun _e _w' hh => ⟨_, hh.1, nm_nil _, ⟨L, hh.2.1, rfl⟩, below_but m hh.2.2⟩
theorem do_rmdir {w : World} {g m : Nat} {L : List Spot} (h : Fs w g m L) (hn : L.length ≤ 100000) (a z : Int) (p t d : ByteArray) (hp : p.size ≤ 9223372036854775807) (ht : t.size ≤ 9223372036854775807) (hc : checkS ⟨6, p, t, d, a, z⟩ = 0) :
    Calls Tryz.prog 14 #[.pointer (some ⟨g, 0, none⟩), .agg #[.int .i64 6, .string p, .string t, .string d, .int .i64 a, .int .i64 z]] w fun e w' => Did w g m (RA.err (rmE (L.map Spot.ent) (nmsOf p))) (rmA (L.map Spot.ent) (nmsOf p)) e w' :=
  do_6 h a z p t d hp ht hc _ _ fun _W k => (rmdir_any (h.below k) hn 6 a z p t d hp).mono fun _e _w' hh => ⟨_, hh.1, nm_nil _, hh.2.1, hh.2.2⟩
/-- what awake makes -/
def pA : ByteArray := ⟨#[47, 97]⟩
def pAF : ByteArray := ⟨#[47, 97, 47, 102]⟩
def aw0 : List Ent := newA [⟨pA, true, ⟨#[]⟩⟩]
def aw1 : List Ent := addA aw0 (nmsOf pAF) false
def aw2 : List Ent := wrA aw1 (nmsOf pAF) 0 ⟨#[104, 105]⟩
theorem aw_new : newE [⟨pA, true, ⟨#[]⟩⟩] = 0 := by decide +kernel
theorem aw_c1 : checkS ⟨2, pAF, ⟨#[]⟩, ⟨#[]⟩, 0, 0⟩ = 0 := by decide +kernel
theorem aw_c2 : checkS ⟨3, pAF, ⟨#[]⟩, ⟨#[104, 105]⟩, 0, 0⟩ = 0 := by decide +kernel
theorem aw_c3 : checkS ⟨8, pAF, ⟨#[]⟩, ⟨#[]⟩, 1, 9⟩ = 0 := by decide +kernel
theorem aw_c4 : checkS ⟨6, pA, ⟨#[]⟩, ⟨#[]⟩, 0, 0⟩ = 0 := by decide +kernel
theorem aw_e1 : addE aw0 (nmsOf pAF) = 0 := by decide +kernel
theorem aw_e2 : wrE aw1 (nmsOf pAF) 0 ⟨#[104, 105]⟩ = 0 ∧ wrS aw1 (nmsOf pAF) 0 ⟨#[104, 105]⟩ = 2 := by decide +kernel
theorem aw_e3 : rdE aw2 (nmsOf pAF) 1 = 0 ∧ rdS aw2 (nmsOf pAF) 1 = 2 ∧ rdB aw2 (nmsOf pAF) 1 9 = ⟨#[105]⟩ := by decide +kernel
theorem aw_e4 : rmE aw2 (nmsOf pA) = 130 := by decide +kernel
theorem aw_s1 : ∀ e ∈ aw1, e.data.size ≤ 1024 := by decide +kernel
theorem aw_l2 : aw2.length ≤ 100000 := by decide +kernel
end Go.Proofs.YtngehkmdanhgpaaGreat.Pl
namespace Go.Proofs.YtngehkmdanhgpaaGreat.Pl
open Go.RowKit
open Vp (Str B bl Val cmpL parseS showS splitS withinS IsPath)
open Nd (Row wp_world post_Row post_Row2 grownBy_setCell below_of_grown Opn checkS)
/-- what holds of what is answered, and what is there behind it -/
def DidR (w : World) (g m : Nat) (PR : RA → Prop) (A' : List Ent) (e : Ending) (w' : World) : Prop := ∃ rc rd rs rx rn v, PR ⟨rc, rd, rs, rx, rn⟩ ∧ e = .returned (Res.val ⟨rc, rd, rs, rx, v⟩) ∧ Rf.Nm w' v rn ∧ (∃ L', Fs w' g m L' ∧ L'.map Spot.ent = A') ∧ w.grownBy w' (some m)
/-- what list tells -/
def Listed (A : List Ent) (xs : List Str) (R : RA) : Prop := R.code = lsE A xs ∧ R.data = ⟨#[]⟩ ∧ ((lsE A xs ≠ 0 ∧ R.dir = false ∧ R.size = 0 ∧ R.names = []) ∨ (lsE A xs = 0 ∧ R.dir = true ∧ R.size = (R.names.length : Int) ∧ ∃ es : List Ent, es.Perm (kidsA A xs) ∧ es.Pairwise (fun s t => ¬ cmpL t.names s.names < 0) ∧ R.names = es.map shownS))
set_option maxHeartbeats 1000000 in
set_option maxRecDepth 100000 in
theorem deed_9 (v : Value) (w : World) : Calls Tryz.prog 32 #[v, .int .i64 9] w fun e w' => e = .returned (.func (.func 71) #[v] #[]) ∧ w' = w := by
  go_enter Tryz.func32, Tryz.ntmps32
  go_wp2
  go_ret
  exact ⟨rfl, rfl⟩
set_option maxHeartbeats 4000000 in
set_option maxRecDepth 100000 in
theorem do_9 {w : World} {g m : Nat} {L : List Spot} (h : Fs w g m L) (a z : Int) (p t d : ByteArray) (hp : p.size ≤ 9223372036854775807) (ht : t.size ≤ 9223372036854775807) (hc : checkS ⟨9, p, t, d, a, z⟩ = 0) (PR : RA → Prop) (A' : List Ent)
    (hd : ∀ W, Below w.heap.size w W → Calls Tryz.prog 71 #[.pointer (some ⟨g, 0, none⟩), .agg #[.int .i64 9, .string p, .string t, .string d, .int .i64 a, .int .i64 z]] W fun e w' => DidR W g m PR A' e w') :
    Calls Tryz.prog 14 #[.pointer (some ⟨g, 0, none⟩), .agg #[.int .i64 9, .string p, .string t, .string d, .int .i64 a, .int .i64 z]] w fun e w' => DidR w g m PR A' e w' := by
  obtain ⟨WA, HWA, HRO, HRA, HBA⟩ := op_box w 9 a z p t d
  have H := hid_in h
  have HG := hid_in h.ne1
  have HCK := hid_in (fun W => Nd.check_any ⟨9, p, t, d, a, z⟩ hp ht W)
  simp only [Opn.val] at HCK
  rw [hc] at HCK
  have HD := hid_in hd
  have HDE := hid_in (fun W => deed_9 (.pointer (some ⟨g, 0, none⟩)) W)
  obtain ⟨c0, c1, c2, c3, c4, c5⟩ := op_cells HRO.out (Below.refl _ WA)
  have HK := hid_in (fun W (kb : Below WA.heap.size WA W) => op_cells HRO.out kb)
  unfold DidR at HD
  simp only [Res.val] at HD
  clear h hc hd
  go_enter Tryz.func14, Tryz.ntmps14
  go_upto_region 1 with fail
  refine wp_world HWA.out ?_
  go_upto_region 6 with (first | (go_at_call 31; refine (HCK.out _).mono ?_; rintro e w1 ⟨rfl, hb1⟩; have HC1 := hid_in hb1; clear hb1))
  obtain ⟨e0, e1, e2, e3, e4, e5⟩ := HK.out _ HC1.out
  clear c0 c1 c2 c3 c4 c5
  have HB1 := hid_in (HBA.out.trans (HC1.out.mono HBA.out.size))
  go_region_with (first | (go_at_call 32; refine (HDE.out _).mono ?_; rintro e w2 ⟨rfl, rfl⟩) | (go_at_call 71; refine (HD.out _ (below_drewN HB1.out 1)).mono ?_; rintro e w3 ⟨rc, rd, rs, rx, rn, v3, hpr, rfl, hn3, ⟨L3, hf3, ha3⟩, hg3⟩; have HPR := hid_in hpr; clear hpr; obtain ⟨vp, vc, rfl⟩ := hn3.form; have hr3 := Row.map (HRA.out.below (below_drewN HC1.out 1) HRA.out.lt) (H.out.below (below_drewN HB1.out 1)).map hg3; obtain ⟨⟨g0, g1, g2, g3, g4⟩, q0, q1, q2, q3, q4⟩ := res_cells hr3 (Below.refl _ w3); have HR3 := hid_in hr3; have HN3 := hid_in hn3; have HF3 := hid_in hf3; have HA3 := hid_in ha3; have HG3 := hid_in (grown_plus (below_drewN HB1.out 1) hg3); clear hn3 hf3 ha3 hg3 hr3))
  all_goals
    go_wp2
    exact post_Row 4 37 rfl (w.heap.size + 1) rfl 37 [.int .i64 rc, .bool rd, .int .i64 rs, .string rx, .slice vp rn.length vc] (set5_row HR3.out rfl _ _ _ _ _) _ Tryz.underlying37 rfl 5 info37 rfl rfl ⟨rc, rd, rs, rx, rn, _, HPR.out, rfl, nm_set5 HN3.out HR3.out (by decide) _ _ _ _ _, ⟨_, HF3.out.set5 HR3.out (by decide) HG.out _ _ _ _ _, HA3.out⟩, grown_set5 HG3.out (Nat.le_succ _) _ _ _ _ _⟩
theorem do_list {w : World} {g m : Nat} {L : List Spot} (h : Fs w g m L) (hn : L.length ≤ 100000) (a z : Int) (p t d : ByteArray) (hp : p.size ≤ 9223372036854775807) (ht : t.size ≤ 9223372036854775807) (hc : checkS ⟨9, p, t, d, a, z⟩ = 0) :
    Calls Tryz.prog 14 #[.pointer (some ⟨g, 0, none⟩), .agg #[.int .i64 9, .string p, .string t, .string d, .int .i64 a, .int .i64 z]] w fun e w' => DidR w g m (Listed (L.map Spot.ent) (nmsOf p)) (L.map Spot.ent) e w' :=
  do_9 h a z p t d hp ht hc _ _ fun _ k => (listO_any (h.below k) hn 9 a z p t d hp).mono fun _ _ ⟨b, s, v, ns, he, hv, hf, hb, hh⟩ => ⟨_, b, s, _, ns, v, ⟨rfl, rfl, hh⟩, he, hv, ⟨L, hf, rfl⟩, below_but m hb⟩
end Go.Proofs.YtngehkmdanhgpaaGreat.Pl
