/-
  Do of create, write, truncate, read, rmdir. Do of mkdir, unlink, stat, forget, rename. Few, fits.
-/
import Derived.Lib.SlBytesConst
import Derived.Laws.Tables
import Derived.Deep.RegionLaw
import Derived.Deep.DrawnRows
import Derived.Lib.AppendZeros
import Derived.Laws.CopyOwn
import Derived.Shelf.Strings.Repeat
import Derived.Test.YtngehkmdanhgpaaGreatRows
import Derived.Test.YtngehkmdanhgpaaGreatS00
import Derived.Test.YtngehkmdanhgpaaGreatS01
import Derived.Test.YtngehkmdanhgpaaGreatS02
import Derived.Test.YtngehkmdanhgpaaGreatS03
import Derived.Test.YtngehkmdanhgpaaGreatS04
import Derived.Test.YtngehkmdanhgpaaGreatS05
import Derived.Test.YtngehkmdanhgpaaGreatS06
import Derived.Test.YtngehkmdanhgpaaGreatS07
import Derived.Test.YtngehkmdanhgpaaGreatS08
import Derived.Test.YtngehkmdanhgpaaGreatS09
import Derived.Test.YtngehkmdanhgpaaGreatS10
import Derived.Test.YtngehkmdanhgpaaGreatS11
import Derived.Test.YtngehkmdanhgpaaGreatS12
import Derived.Test.YtngehkmdanhgpaaGreatS13
import Derived.Test.YtngehkmdanhgpaaGreatS14
import Derived.Test.YtngehkmdanhgpaaGreatS15
import Derived.Test.YtngehkmdanhgpaaGreatS16
import Derived.Test.YtngehkmdanhgpaaGreatS17
import Derived.Test.YtngehkmdanhgpaaGreatS18
import Derived.Test.YtngehkmdanhgpaaGreatS19
import Derived.Test.YtngehkmdanhgpaaGreatS20
import Derived.Test.YtngehkmdanhgpaaGreatS21
import Derived.Test.YtngehkmdanhgpaaGreatS22
import Derived.Test.YtngehkmdanhgpaaGreatS23
import Derived.Test.YtngehkmdanhgpaaGreatS24
import Derived.Test.YtngehkmdanhgpaaGreatS25
import Derived.Test.YtngehkmdanhgpaaGreatS26
import Derived.Test.YtngehkmdanhgpaaGreatS27
import Derived.Test.YtngehkmdanhgpaaGreatS28
import Derived.Test.YtngehkmdanhgpaaGreatS29
import Derived.Test.YtngehkmdanhgpaaGreatS30
import Derived.Test.YtngehkmdanhgpaaGreatS31
import Derived.Test.YtngehkmdanhgpaaGreatS32
import Derived.Test.YtngehkmdanhgpaaGreatS33
import Derived.Test.YtngehkmdanhgpaaGreatS34
import Derived.Test.YtngehkmdanhgpaaGreatS35
import Derived.Test.YtngehkmdanhgpaaGreatS36
import Derived.Test.YtngehkmdanhgpaaGreatS37
namespace Go.Proofs.YtngehkmdanhgpaaGreat.Pl
open Go.RowKit
open Vp (Str B bl Val cmpL parseS showS splitS withinS IsPath)
open Nd (Row wp_world post_Row post_Row2 grownBy_setCell below_of_grown Opn checkS)
theorem do_create {w : World} {g m : Nat} {L : List Spot} (h : Fs w g m L) (a z : Int) (p t d : ByteArray) (hp : p.size ≤ 9223372036854775807) (ht : t.size ≤ 9223372036854775807) (hc : checkS ⟨2, p, t, d, a, z⟩ = 0) :
    Calls Tryz.prog 14 #[.pointer (some ⟨g, 0, none⟩), .agg #[.int .i64 2, .string p, .string t, .string d, .int .i64 a, .int .i64 z]] w fun e w' => Did w g m (RA.err (addE (L.map Spot.ent) (nmsOf p))) (addA (L.map Spot.ent) (nmsOf p) false) e w' :=
  do_2 h a z p t d hp ht hc _ _ fun _W k => (create_any (h.below k) 2 a z p t d hp).mono fun _e _w' hh => ⟨_, hh.1, nm_nil _, hh.2.1, hh.2.2⟩
theorem do_write {w : World} {g m : Nat} {L : List Spot} (h : Fs w g m L) (hsm : Small (L.map Spot.ent)) (z : Int) (a : Nat) (p t d : ByteArray) (hp : p.size ≤ 9223372036854775807) (ht : t.size ≤ 9223372036854775807) (hc : checkS ⟨3, p, t, d, a, z⟩ = 0) (ha : a ≤ 1024) (hd : d.size ≤ 1024) :
    Calls Tryz.prog 14 #[.pointer (some ⟨g, 0, none⟩), .agg #[.int .i64 3, .string p, .string t, .string d, .int .i64 (a : Int), .int .i64 z]] w fun e w' => Did w g m ⟨wrE (L.map Spot.ent) (nmsOf p) a d, false, wrS (L.map Spot.ent) (nmsOf p) a d, ⟨#[]⟩, []⟩ (wrA (L.map Spot.ent) (nmsOf p) a d) e w' :=
  do_3 h a z p t d hp ht hc _ _ fun _W k => (write_any (h.below k) hsm 3 z a p t d hp ha hd).mono fun _e _w' hh => ⟨_, hh.1, nm_nil _, hh.2.1, hh.2.2⟩
theorem do_read {w : World} {g m : Nat} {L : List Spot} (h : Fs w g m L) (a z : Nat) (p t d : ByteArray) (hp : p.size ≤ 9223372036854775807) (ht : t.size ≤ 9223372036854775807) (hc : checkS ⟨8, p, t, d, a, z⟩ = 0) (ha : a ≤ 1024) (hz : z ≤ 1024) :
    Calls Tryz.prog 14 #[.pointer (some ⟨g, 0, none⟩), .agg #[.int .i64 8, .string p, .string t, .string d, .int .i64 (a : Int), .int .i64 (z : Int)]] w fun e w' => Did w g m ⟨rdE (L.map Spot.ent) (nmsOf p) a, false, rdS (L.map Spot.ent) (nmsOf p) a, rdB (L.map Spot.ent) (nmsOf p) a z, []⟩ (L.map Spot.ent) e w' :=
  do_8 h a z p t d hp ht hc _ _ fun _W k => (read_any (h.below k) 8 a z p t d hp ha hz).mono fun _e _w' hh => ⟨_, hh.1, nm_nil _, ⟨L, hh.2.1, rfl⟩, below_but m hh.2.2⟩
theorem do_rmdir {w : World} {g m : Nat} {L : List Spot} (h : Fs w g m L) (hn : L.length ≤ 100000) (a z : Int) (p t d : ByteArray) (hp : p.size ≤ 9223372036854775807) (ht : t.size ≤ 9223372036854775807) (hc : checkS ⟨6, p, t, d, a, z⟩ = 0) :
    Calls Tryz.prog 14 #[.pointer (some ⟨g, 0, none⟩), .agg #[.int .i64 6, .string p, .string t, .string d, .int .i64 a, .int .i64 z]] w fun e w' => Did w g m (RA.err (rmE (L.map Spot.ent) (nmsOf p))) (rmA (L.map Spot.ent) (nmsOf p)) e w' :=
  do_6 h a z p t d hp ht hc _ _ fun _W k => (rmdir_any (h.below k) hn 6 a z p t d hp).mono fun _e _w' hh => ⟨_, hh.1, nm_nil _, hh.2.1, hh.2.2⟩
/-- what awake makes -/
def pA : ByteArray := ⟨#[47, 97]⟩
def pAF : ByteArray := ⟨#[47, 97, 47, 102]⟩
def aw0 : List Ent := newA [⟨pA, true, ⟨#[]⟩⟩]
def aw1 : List Ent := addA aw0 (nmsOf pAF) false
def aw2 : List Ent := wrA aw1 (nmsOf pAF) 0 ⟨#[104, 105]⟩
theorem aw_new : newE [⟨pA, true, ⟨#[]⟩⟩] = 0 := by decide +kernel
theorem aw_c1 : checkS ⟨2, pAF, ⟨#[]⟩, ⟨#[]⟩, 0, 0⟩ = 0 := by decide +kernel
theorem aw_c2 : checkS ⟨3, pAF, ⟨#[]⟩, ⟨#[104, 105]⟩, 0, 0⟩ = 0 := by decide +kernel
theorem aw_c3 : checkS ⟨8, pAF, ⟨#[]⟩, ⟨#[]⟩, 1, 9⟩ = 0 := by decide +kernel
theorem aw_c4 : checkS ⟨6, pA, ⟨#[]⟩, ⟨#[]⟩, 0, 0⟩ = 0 := by decide +kernel
theorem aw_e1 : addE aw0 (nmsOf pAF) = 0 := by decide +kernel
theorem aw_e2 : wrE aw1 (nmsOf pAF) 0 ⟨#[104, 105]⟩ = 0 ∧ wrS aw1 (nmsOf pAF) 0 ⟨#[104, 105]⟩ = 2 := by decide +kernel
theorem aw_e3 : rdE aw2 (nmsOf pAF) 1 = 0 ∧ rdS aw2 (nmsOf pAF) 1 = 2 ∧ rdB aw2 (nmsOf pAF) 1 9 = ⟨#[105]⟩ := by decide +kernel
theorem aw_e4 : rmE aw2 (nmsOf pA) = 130 := by decide +kernel
theorem aw_s1 : ∀ e ∈ aw1, e.data.size ≤ 1024 := by decide +kernel
theorem aw_l2 : aw2.length ≤ 100000 := by decide +kernel
end Go.Proofs.YtngehkmdanhgpaaGreat.Pl
namespace Go.Proofs.YtngehkmdanhgpaaGreat.Pl
open Go.RowKit
open Vp (Str B bl Val cmpL parseS showS splitS withinS IsPath)
open Nd (Row wp_world post_Row post_Row2 grownBy_setCell below_of_grown Opn checkS)
/-- what is answered, and what holds of what is there behind it -/
def DidP (w : World) (g m : Nat) (R : RA) (P : List Ent → Prop) (e : Ending) (w' : World) : Prop := ∃ v, e = .returned (Res.val ⟨R.code, R.dir, R.size, R.data, v⟩) ∧ Rf.Nm w' v R.names ∧ (∃ L', Fs w' g m L' ∧ P (L'.map Spot.ent)) ∧ w.grownBy w' (some m)
set_option maxHeartbeats 1000000 in
set_option maxRecDepth 100000 in
theorem deed_7 (v : Value) (w : World) : Calls Tryz.prog 32 #[v, .int .i64 7] w fun e w' => e = .returned (.func (.func 69) #[v] #[]) ∧ w' = w := by
  go_enter Tryz.func32, Tryz.ntmps32
  go_wp2
  go_ret
  exact ⟨rfl, rfl⟩
set_option maxHeartbeats 4000000 in
set_option maxRecDepth 100000 in
theorem do_7 {w : World} {g m : Nat} {L : List Spot} (h : Fs w g m L) (a z : Int) (p t d : ByteArray) (hp : p.size ≤ 9223372036854775807) (ht : t.size ≤ 9223372036854775807) (hc : checkS ⟨7, p, t, d, a, z⟩ = 0) (R : RA) (P : List Ent → Prop)
    (hd : ∀ W, Below w.heap.size w W → Calls Tryz.prog 69 #[.pointer (some ⟨g, 0, none⟩), .agg #[.int .i64 7, .string p, .string t, .string d, .int .i64 a, .int .i64 z]] W fun e w' => DidP W g m R P e w') :
    Calls Tryz.prog 14 #[.pointer (some ⟨g, 0, none⟩), .agg #[.int .i64 7, .string p, .string t, .string d, .int .i64 a, .int .i64 z]] w fun e w' => DidP w g m R P e w' := by
  obtain ⟨WA, HWA, HRO, HRA, HBA⟩ := op_box w 7 a z p t d
  have H := hid_in h
  have HG := hid_in h.ne1
  have HCK := hid_in (fun W => Nd.check_any ⟨7, p, t, d, a, z⟩ hp ht W)
  simp only [Opn.val] at HCK
  rw [hc] at HCK
  have HD := hid_in hd
  have HDE := hid_in (fun W => deed_7 (.pointer (some ⟨g, 0, none⟩)) W)
  obtain ⟨c0, c1, c2, c3, c4, c5⟩ := op_cells HRO.out (Below.refl _ WA)
  have HK := hid_in (fun W (kb : Below WA.heap.size WA W) => op_cells HRO.out kb)
  obtain ⟨rc, rd, rs, rx, rn⟩ := R
  unfold DidP at HD
  simp only [Res.val] at HD
  clear h hc hd
  go_enter Tryz.func14, Tryz.ntmps14
  go_upto_region 1 with fail
  refine wp_world HWA.out ?_
  go_upto_region 6 with (first | (go_at_call 31; refine (HCK.out _).mono ?_; rintro e w1 ⟨rfl, hb1⟩; have HC1 := hid_in hb1; clear hb1))
  obtain ⟨e0, e1, e2, e3, e4, e5⟩ := HK.out _ HC1.out
  clear c0 c1 c2 c3 c4 c5
  have HB1 := hid_in (HBA.out.trans (HC1.out.mono HBA.out.size))
  go_region_with (first | (go_at_call 32; refine (HDE.out _).mono ?_; rintro e w2 ⟨rfl, rfl⟩) | (go_at_call 69; refine (HD.out _ (below_drewN HB1.out 1)).mono ?_; rintro e w3 ⟨v3, rfl, hn3, ⟨L3, hf3, ha3⟩, hg3⟩; obtain ⟨vp, vc, rfl⟩ := hn3.form; have hr3 := Row.map (HRA.out.below (below_drewN HC1.out 1) HRA.out.lt) (H.out.below (below_drewN HB1.out 1)).map hg3; obtain ⟨⟨g0, g1, g2, g3, g4⟩, q0, q1, q2, q3, q4⟩ := res_cells hr3 (Below.refl _ w3); have HR3 := hid_in hr3; have HN3 := hid_in hn3; have HF3 := hid_in hf3; have HA3 := hid_in ha3; have HG3 := hid_in (grown_plus (below_drewN HB1.out 1) hg3); clear hn3 hf3 ha3 hg3 hr3))
  all_goals
    go_wp2
    exact post_Row 4 37 rfl (w.heap.size + 1) rfl 37 [.int .i64 rc, .bool rd, .int .i64 rs, .string rx, .slice vp rn.length vc] (set5_row HR3.out rfl _ _ _ _ _) _ Tryz.underlying37 rfl 5 info37 rfl rfl ⟨_, rfl, nm_set5 HN3.out HR3.out (by decide) _ _ _ _ _, ⟨_, HF3.out.set5 HR3.out (by decide) HG.out _ _ _ _ _, HA3.out⟩, grown_set5 HG3.out (Nat.le_succ _) _ _ _ _ _⟩
set_option maxHeartbeats 1000000 in
set_option maxRecDepth 100000 in
theorem deed_10 (v : Value) (w : World) : Calls Tryz.prog 32 #[v, .int .i64 10] w fun e w' => e = .returned (.func (.func 72) #[v] #[]) ∧ w' = w := by
  go_enter Tryz.func32, Tryz.ntmps32
  go_wp2
  go_ret
  exact ⟨rfl, rfl⟩
set_option maxHeartbeats 4000000 in
set_option maxRecDepth 100000 in
theorem do_10 {w : World} {g m : Nat} {L : List Spot} (h : Fs w g m L) (a z : Int) (p t d : ByteArray) (hp : p.size ≤ 9223372036854775807) (ht : t.size ≤ 9223372036854775807) (hc : checkS ⟨10, p, t, d, a, z⟩ = 0) (R : RA) (A' : List Ent)
    (hd : ∀ W, Below w.heap.size w W → Calls Tryz.prog 72 #[.pointer (some ⟨g, 0, none⟩), .agg #[.int .i64 10, .string p, .string t, .string d, .int .i64 a, .int .i64 z]] W fun e w' => Did W g m R A' e w') :
    Calls Tryz.prog 14 #[.pointer (some ⟨g, 0, none⟩), .agg #[.int .i64 10, .string p, .string t, .string d, .int .i64 a, .int .i64 z]] w fun e w' => Did w g m R A' e w' := by
  obtain ⟨WA, HWA, HRO, HRA, HBA⟩ := op_box w 10 a z p t d
  have H := hid_in h
  have HG := hid_in h.ne1
  have HCK := hid_in (fun W => Nd.check_any ⟨10, p, t, d, a, z⟩ hp ht W)
  simp only [Opn.val] at HCK
  rw [hc] at HCK
  have HD := hid_in hd
  have HDE := hid_in (fun W => deed_10 (.pointer (some ⟨g, 0, none⟩)) W)
  obtain ⟨c0, c1, c2, c3, c4, c5⟩ := op_cells HRO.out (Below.refl _ WA)
  have HK := hid_in (fun W (kb : Below WA.heap.size WA W) => op_cells HRO.out kb)
  obtain ⟨rc, rd, rs, rx, rn⟩ := R
  unfold Did at HD
  simp only [Res.val] at HD
  clear h hc hd
  go_enter Tryz.func14, Tryz.ntmps14
  go_upto_region 1 with fail
  refine wp_world HWA.out ?_
  go_upto_region 6 with (first | (go_at_call 31; refine (HCK.out _).mono ?_; rintro e w1 ⟨rfl, hb1⟩; have HC1 := hid_in hb1; clear hb1))
  obtain ⟨e0, e1, e2, e3, e4, e5⟩ := HK.out _ HC1.out
  clear c0 c1 c2 c3 c4 c5
  have HB1 := hid_in (HBA.out.trans (HC1.out.mono HBA.out.size))
  go_region_with (first | (go_at_call 32; refine (HDE.out _).mono ?_; rintro e w2 ⟨rfl, rfl⟩) | (go_at_call 72; refine (HD.out _ (below_drewN HB1.out 1)).mono ?_; rintro e w3 ⟨v3, rfl, hn3, ⟨L3, hf3, ha3⟩, hg3⟩; obtain ⟨vp, vc, rfl⟩ := hn3.form; have hr3 := Row.map (HRA.out.below (below_drewN HC1.out 1) HRA.out.lt) (H.out.below (below_drewN HB1.out 1)).map hg3; obtain ⟨⟨g0, g1, g2, g3, g4⟩, q0, q1, q2, q3, q4⟩ := res_cells hr3 (Below.refl _ w3); have HR3 := hid_in hr3; have HN3 := hid_in hn3; have HF3 := hid_in hf3; have HA3 := hid_in ha3; have HG3 := hid_in (grown_plus (below_drewN HB1.out 1) hg3); clear hn3 hf3 ha3 hg3 hr3))
  all_goals
    go_wp2
    exact post_Row 4 37 rfl (w.heap.size + 1) rfl 37 [.int .i64 rc, .bool rd, .int .i64 rs, .string rx, .slice vp rn.length vc] (set5_row HR3.out rfl _ _ _ _ _) _ Tryz.underlying37 rfl 5 info37 rfl rfl ⟨_, rfl, nm_set5 HN3.out HR3.out (by decide) _ _ _ _ _, ⟨_, HF3.out.set5 HR3.out (by decide) HG.out _ _ _ _ _, HA3.out⟩, grown_set5 HG3.out (Nat.le_succ _) _ _ _ _ _⟩
theorem do_stat {w : World} {g m : Nat} {L : List Spot} (h : Fs w g m L) (hn : L.length ≤ 100000) (a z : Int) (p t d : ByteArray) (hp : p.size ≤ 9223372036854775807) (ht : t.size ≤ 9223372036854775807) (hc : checkS ⟨10, p, t, d, a, z⟩ = 0) :
    Calls Tryz.prog 14 #[.pointer (some ⟨g, 0, none⟩), .agg #[.int .i64 10, .string p, .string t, .string d, .int .i64 a, .int .i64 z]] w fun e w' => Did w g m ⟨stE (L.map Spot.ent) (nmsOf p), stD (L.map Spot.ent) (nmsOf p), stS (L.map Spot.ent) (nmsOf p), ⟨#[]⟩, []⟩ (L.map Spot.ent) e w' :=
  do_10 h a z p t d hp ht hc _ _ fun _ k => (stat_any (h.below k) hn 10 a z p t d hp).mono fun _ _ hh => ⟨_, hh.1, nm_nil _, ⟨L, hh.2.1, rfl⟩, below_but m hh.2.2⟩
theorem do_rename {w : World} {g m : Nat} {L : List Spot} (h : Fs w g m L) (hn : L.length ≤ 100000) (a z : Int) (p t d : ByteArray) (hp : p.size ≤ 9223372036854775807) (ht : t.size ≤ 9223372036854775807) (hc : checkS ⟨7, p, t, d, a, z⟩ = 0) :
    Calls Tryz.prog 14 #[.pointer (some ⟨g, 0, none⟩), .agg #[.int .i64 7, .string p, .string t, .string d, .int .i64 a, .int .i64 z]] w fun e w' => DidP w g m (RA.err (rnE (L.map Spot.ent) (nmsOf p) (nmsOf t))) (Moved (L.map Spot.ent) (nmsOf p) (nmsOf t)) e w' :=
  do_7 h a z p t d hp ht hc _ _ fun _ k => (rename_any (h.below k) hn 7 a z p t d hp ht).mono fun _ _ hh => ⟨_, hh.1, nm_nil _, hh.2.1, hh.2.2⟩
end Go.Proofs.YtngehkmdanhgpaaGreat.Pl
namespace Go.Proofs.YtngehkmdanhgpaaGreat.Pl
open Go.RowKit
open Vp (Str B bl Val cmpL parseS showS splitS withinS IsPath)
open Nd (Row wp_world post_Row post_Row2 grownBy_setCell below_of_grown Opn checkS numsOk namedS pathsS)
open Rf (Fil Fls)
set_option maxHeartbeats 2000000 in
set_option maxRecDepth 100000 in
theorem few_any (w : World) (v : Value) (fs : List Fil) (h : Fls w v fs) (lb : Nat) (hc : w.cell? ⟨lb, 0, none⟩ = some v) :
    Calls Tryz.prog 22 #[.slice (some ⟨lb, 0, none⟩) 1 1] w fun e w' => (∃ t, e = .returned (.bool t)) ∧ w' = w := by
  obtain ⟨p, cap, b, o, rfl, h1, h2, h3, h4', _⟩ := h
  have h4 := Rf.Fls.range h4'
  have HC : Hid (∀ (j : Nat), j < fs.length → ∃ s : ByteArray, p = some ⟨b, o, none⟩ ∧ w.cell? ⟨b, o + j * 3 + 2, none⟩ = some (.string s)) := hid_in (fun j hj => by
    refine ⟨fs[j].data, (h3 (by intro e; rw [e] at hj; simp at hj)).1, ?_⟩
    exact h4 j fs[j] (List.getElem?_eq_getElem hj) 2 _ rfl)
  have HN : Hid (fs.length ≤ 9223372036854775807) := hid_in (by omega)
  generalize fs.length = N at *
  clear h1 h2 h3 h4
  go_enter Tryz.func22, Tryz.ntmps22
  go_wp2_with fail
  refine wp_loop_rounds 2 ?_
  rw [rounds_succ]
  go_upto_region 6 with fail
  go_loopw [5, 3] (fun vj vs W => W = w ∧ ∃ (j : Nat) (s : Int), j ≤ N ∧ vj = .int .i64 (j : Int) ∧ vs = .int .i64 s) (fun vj _ _ => N - (intOf vj).toNat)
  case atStart => exact ⟨rfl, 0, 0, by omega, rfl, rfl⟩
  case round =>
    obtain ⟨rfl, j, s, hj, rfl, rfl⟩ := hrel
    by_cases hlt : j < N
    · obtain ⟨str, rfl, hcell⟩ := HC.out j hlt
      have hN : (N : Int) ≤ 9223372036854775807 := by have := HN.out; omega
      have HJ := hid_in hj
      have HL := hid_in hlt
      have hlt2 : (j : Int) < (N : Int) := by omega
      clear hj hlt
      go_wp2
      go_roundw
      case rel =>
        exact ⟨trivial, j + 1, _, by have := HL.out; omega, by go_num, rfl⟩
      case measure => have := HL.out; simp [intOf]; omega
    · obtain rfl : j = N := by omega
      clear hj hlt
      go_wp2_with fail
      rw [rounds_succ]
      go_wp2
      go_ret
      exact ⟨⟨_, rfl⟩, rfl⟩
set_option maxHeartbeats 2000000 in
set_option maxRecDepth 100000 in
theorem fits_any (w : World) (v : Value) (fs : List Fil) (h : Fls w v fs) :
    Calls Tryz.prog 9 #[v, .slice none 0 0] w fun e w' => (∃ t, e = .returned (.bool t) ∧ (t = true → fs.length ≤ 100)) ∧ Below w.heap.size w w' := by
  obtain ⟨p, cap, rfl⟩ := h.form
  have hb : Below w.heap.size w (w.alloc (.cells #[.slice p fs.length cap] 22)) := (Below.refl _ _).alloc (Nat.le_refl _) _
  have HFW := hid_in (few_any (w.alloc (.cells #[.slice p fs.length cap] 22)) (.slice p fs.length cap) fs (h.below hb) w.heap.size ((Row.new w [.slice p fs.length cap] 22).cell 0))
  have HB := hid_in hb
  clear hb h
  by_cases hn : 100 < fs.length
  · have j1 : (100 : Int) < (fs.length : Int) := by omega
    go_enter Tryz.func9, Tryz.ntmps9
    go_wp2_with (first | (go_at_call 22; refine HFW.out.mono ?_; rintro e w1 ⟨⟨t, rfl⟩, rfl⟩; rcases t with _ | _))
    all_goals go_ret
    all_goals exact ⟨⟨_, rfl, fun h => by cases h⟩, HB.out⟩
  · have j1 : ¬ (100 : Int) < (fs.length : Int) := by omega
    have HN : Hid (fs.length ≤ 100) := hid_in (by omega)
    go_enter Tryz.func9, Tryz.ntmps9
    go_wp2_with (first | (go_at_call 22; refine HFW.out.mono ?_; rintro e w1 ⟨⟨t, rfl⟩, rfl⟩; rcases t with _ | _))
    · go_ret
      exact ⟨⟨_, rfl, fun h => by cases h⟩, HB.out⟩
    · refine wp_loop_rounds 1 ?_
      rw [rounds_succ]
      go_wp2
      go_ret
      exact ⟨⟨_, rfl, fun _ => HN.out⟩, HB.out⟩
end Go.Proofs.YtngehkmdanhgpaaGreat.Pl
