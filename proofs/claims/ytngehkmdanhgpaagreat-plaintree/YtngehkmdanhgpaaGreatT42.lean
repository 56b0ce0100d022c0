/-
  Do of create, write, truncate, read, rmdir.
-/
import Derived.Laws.Tables
import Derived.Lib.SlBytesConst
import Derived.Deep.RegionLaw
import Derived.Deep.DrawnRows
import Derived.Lib.AppendZeros
import Derived.Laws.CopyOwn
import Derived.Test.YtngehkmdanhgpaaGreatT00
import Derived.Test.YtngehkmdanhgpaaGreatT01
import Derived.Test.YtngehkmdanhgpaaGreatT02
import Derived.Test.YtngehkmdanhgpaaGreatT03
import Derived.Test.YtngehkmdanhgpaaGreatT04
import Derived.Test.YtngehkmdanhgpaaGreatT05
import Derived.Test.YtngehkmdanhgpaaGreatT06
import Derived.Test.YtngehkmdanhgpaaGreatT07
import Derived.Test.YtngehkmdanhgpaaGreatT08
import Derived.Test.YtngehkmdanhgpaaGreatT09
import Derived.Test.YtngehkmdanhgpaaGreatT10
import Derived.Test.YtngehkmdanhgpaaGreatT11
import Derived.Test.YtngehkmdanhgpaaGreatT12
import Derived.Test.YtngehkmdanhgpaaGreatT13
import Derived.Test.YtngehkmdanhgpaaGreatT14
import Derived.Test.YtngehkmdanhgpaaGreatT15
import Derived.Test.YtngehkmdanhgpaaGreatT16
import Derived.Test.YtngehkmdanhgpaaGreatT17
import Derived.Test.YtngehkmdanhgpaaGreatT18
import Derived.Test.YtngehkmdanhgpaaGreatT19
import Derived.Test.YtngehkmdanhgpaaGreatT20
import Derived.Test.YtngehkmdanhgpaaGreatT22
import Derived.Test.YtngehkmdanhgpaaGreatT23
import Derived.Test.YtngehkmdanhgpaaGreatT24
import Derived.Test.YtngehkmdanhgpaaGreatT25
import Derived.Test.YtngehkmdanhgpaaGreatT26
import Derived.Test.YtngehkmdanhgpaaGreatT27
import Derived.Test.YtngehkmdanhgpaaGreatT35
import Derived.Test.YtngehkmdanhgpaaGreatT36
import Derived.Test.YtngehkmdanhgpaaGreatT37
import Derived.Test.YtngehkmdanhgpaaGreatT38
import Derived.Test.YtngehkmdanhgpaaGreatT39
import Derived.Test.YtngehkmdanhgpaaGreatT40
import Derived.Test.YtngehkmdanhgpaaGreatT41
namespace Go.Proofs.YtngehkmdanhgpaaGreat.Pl
open Go.RowKit
open Vp (Str B bl Val cmpL parseS showS splitS withinS IsPath)
open Nd (Row wp_world post_Row post_Row2 grownBy_setCell below_of_grown Opn checkS)
theorem do_create {w : World} {g m : Nat} {L : List Spot} (h : Fs w g m L) (a z : Int) (p t d : ByteArray) (hp : p.size ≤ 9223372036854775807) (ht : t.size ≤ 9223372036854775807) (hc : checkS ⟨2, p, t, d, a, z⟩ = 0) :
    Calls Tryz.prog 14 #[.pointer (some ⟨g, 0, none⟩), .agg #[.int .i64 2, .string p, .string t, .string d, .int .i64 a, .int .i64 z]] w fun e w' => Did w g m (RA.err (addE (L.map Spot.ent) (nmsOf p))) (addA (L.map Spot.ent) (nmsOf p) false) e w' :=
  do_2 h a z p t d hp ht hc _ _ fun _W k => (create_any (h.below k) 2 a z p t d hp).mono fun _e _w' hh => ⟨_, hh.1, nm_nil _, hh.2.1, hh.2.2⟩
theorem do_write {w : World} {g m : Nat} {L : List Spot} (h : Fs w g m L) (hsm : Small (L.map Spot.ent)) (z : Int) (a : Nat) (p t d : ByteArray) (hp : p.size ≤ 9223372036854775807) (ht : t.size ≤ 9223372036854775807) (hc : checkS ⟨3, p, t, d, a, z⟩ = 0) (ha : a ≤ 1024) (hd : d.size ≤ 1024) :
    Calls Tryz.prog 14 #[.pointer (some ⟨g, 0, none⟩), .agg #[.int .i64 3, .string p, .string t, .string d, .int .i64 (a : Int), .int .i64 z]] w fun e w' => Did w g m ⟨wrE (L.map Spot.ent) (nmsOf p) a d, false, wrS (L.map Spot.ent) (nmsOf p) a d, ⟨#[]⟩, []⟩ (wrA (L.map Spot.ent) (nmsOf p) a d) e w' :=
  do_3 h a z p t d hp ht hc _ _ fun _W k => (write_any (h.below k) hsm 3 z a p t d hp ha hd).mono fun _e _w' hh => ⟨_, hh.1, nm_nil _, hh.2.1, hh.2.2⟩
theorem do_trunc {w : World} {g m : Nat} {L : List Spot} (h : Fs w g m L) (hsm : Small (L.map Spot.ent)) (a : Int) (z : Nat) (p t d : ByteArray) (hp : p.size ≤ 9223372036854775807) (ht : t.size ≤ 9223372036854775807) (hc : checkS ⟨4, p, t, d, a, z⟩ = 0) (hz : z ≤ 1024) :
    Calls Tryz.prog 14 #[.pointer (some ⟨g, 0, none⟩), .agg #[.int .i64 4, .string p, .string t, .string d, .int .i64 a, .int .i64 (z : Int)]] w fun e w' => Did w g m ⟨trE (L.map Spot.ent) (nmsOf p), false, trS (L.map Spot.ent) (nmsOf p) z, ⟨#[]⟩, []⟩ (trA (L.map Spot.ent) (nmsOf p) z) e w' :=
  do_4 h a z p t d hp ht hc _ _ fun _W k => (truncate_any (h.below k) hsm 4 a z p t d hp hz).mono fun _e _w' hh => ⟨_, hh.1, nm_nil _, hh.2.1, hh.2.2⟩
theorem do_read {w : World} {g m : Nat} {L : List Spot} (h : Fs w g m L) (a z : Nat) (p t d : ByteArray) (hp : p.size ≤ 9223372036854775807) (ht : t.size ≤ 9223372036854775807) (hc : checkS ⟨8, p, t, d, a, z⟩ = 0) (ha : a ≤ 1024) (hz : z ≤ 1024) :
    Calls Tryz.prog 14 #[.pointer (some ⟨g, 0, none⟩), .agg #[.int .i64 8, .string p, .string t, .string d, .int .i64 (a : Int), .int .i64 (z : Int)]] w fun e w' => Did w g m ⟨rdE (L.map Spot.ent) (nmsOf p) a, false, rdS (L.map Spot.ent) (nmsOf p) a, rdB (L.map Spot.ent) (nmsOf p) a z, []⟩ (L.map Spot.ent) e w' :=
  do_8 h a z p t d hp ht hc _ _ fun _W k => (read_any (h.below k) 8 a z p t d hp ha hz).mono fun _e _w' hh => ⟨_, hh.1, nm_nil _, ⟨L, hh.2.1, rfl⟩, below_but m hh.2.2⟩
theorem do_rmdir {w : World} {g m : Nat} {L : List Spot} (h : Fs w g m L) (hn : L.length ≤ 100000) (a z : Int) (p t d : ByteArray) (hp : p.size ≤ 9223372036854775807) (ht : t.size ≤ 9223372036854775807) (hc : checkS ⟨6, p, t, d, a, z⟩ = 0) :
    Calls Tryz.prog 14 #[.pointer (some ⟨g, 0, none⟩), .agg #[.int .i64 6, .string p, .string t, .string d, .int .i64 a, .int .i64 z]] w fun e w' => Did w g m (RA.err (rmE (L.map Spot.ent) (nmsOf p))) (rmA (L.map Spot.ent) (nmsOf p)) e w' :=
  do_6 h a z p t d hp ht hc _ _ fun _W k => (rmdir_any (h.below k) hn 6 a z p t d hp).mono fun _e _w' hh => ⟨_, hh.1, nm_nil _, hh.2.1, hh.2.2⟩
/-- what awake makes -/
def pA : ByteArray := ⟨#[47, 97]⟩
def pAF : ByteArray := ⟨#[47, 97, 47, 102]⟩
def aw0 : List Ent := newA [⟨pA, true, ⟨#[]⟩⟩]
def aw1 : List Ent := addA aw0 (nmsOf pAF) false
def aw2 : List Ent := wrA aw1 (nmsOf pAF) 0 ⟨#[104, 105]⟩
theorem aw_new : newE [⟨pA, true, ⟨#[]⟩⟩] = 0 := by decide +kernel
theorem aw_c1 : checkS ⟨2, pAF, ⟨#[]⟩, ⟨#[]⟩, 0, 0⟩ = 0 := by decide +kernel
theorem aw_c2 : checkS ⟨3, pAF, ⟨#[]⟩, ⟨#[104, 105]⟩, 0, 0⟩ = 0 := by decide +kernel
theorem aw_c3 : checkS ⟨8, pAF, ⟨#[]⟩, ⟨#[]⟩, 1, 9⟩ = 0 := by decide +kernel
theorem aw_c4 : checkS ⟨6, pA, ⟨#[]⟩, ⟨#[]⟩, 0, 0⟩ = 0 := by decide +kernel
theorem aw_e1 : addE aw0 (nmsOf pAF) = 0 := by decide +kernel
theorem aw_e2 : wrE aw1 (nmsOf pAF) 0 ⟨#[104, 105]⟩ = 0 ∧ wrS aw1 (nmsOf pAF) 0 ⟨#[104, 105]⟩ = 2 := by decide +kernel
theorem aw_e3 : rdE aw2 (nmsOf pAF) 1 = 0 ∧ rdS aw2 (nmsOf pAF) 1 = 2 ∧ rdB aw2 (nmsOf pAF) 1 9 = ⟨#[105]⟩ := by decide +kernel
theorem aw_e4 : rmE aw2 (nmsOf pA) = 130 := by decide +kernel
theorem aw_s1 : ∀ e ∈ aw1, e.data.size ≤ 1024 := by decide +kernel
theorem aw_l2 : aw2.length ≤ 100000 := by decide +kernel
end Go.Proofs.YtngehkmdanhgpaaGreat.Pl
