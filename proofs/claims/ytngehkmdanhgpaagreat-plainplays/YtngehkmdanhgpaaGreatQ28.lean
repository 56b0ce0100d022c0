/-
  Do of mkdir, unlink, stat, forget, rename. The walk of awake.
-/
import Derived.Laws.CopyOwn
import Derived.Deep.RegionLaw
import Derived.Deep.DrawnRows
import Derived.Lib.SlBytesConst
import Derived.Lib.AppendZeros
import Derived.Laws.Tables
import Derived.Test.YtngehkmdanhgpaaGreatQ00
import Derived.Test.YtngehkmdanhgpaaGreatQ01
import Derived.Test.YtngehkmdanhgpaaGreatQ02
import Derived.Test.YtngehkmdanhgpaaGreatQ03
import Derived.Test.YtngehkmdanhgpaaGreatQ04
import Derived.Test.YtngehkmdanhgpaaGreatQ05
import Derived.Test.YtngehkmdanhgpaaGreatQ06
import Derived.Test.YtngehkmdanhgpaaGreatQ07
import Derived.Test.YtngehkmdanhgpaaGreatQ08
import Derived.Test.YtngehkmdanhgpaaGreatQ09
import Derived.Test.YtngehkmdanhgpaaGreatQ10
import Derived.Test.YtngehkmdanhgpaaGreatQ11
import Derived.Test.YtngehkmdanhgpaaGreatQ12
import Derived.Test.YtngehkmdanhgpaaGreatQ13
import Derived.Test.YtngehkmdanhgpaaGreatQ14
import Derived.Test.YtngehkmdanhgpaaGreatQ15
import Derived.Test.YtngehkmdanhgpaaGreatQ16
import Derived.Test.YtngehkmdanhgpaaGreatQ17
import Derived.Test.YtngehkmdanhgpaaGreatQ18
import Derived.Test.YtngehkmdanhgpaaGreatQ19
import Derived.Test.YtngehkmdanhgpaaGreatQ20
import Derived.Test.YtngehkmdanhgpaaGreatQ21
import Derived.Test.YtngehkmdanhgpaaGreatQ22
import Derived.Test.YtngehkmdanhgpaaGreatQ23
import Derived.Test.YtngehkmdanhgpaaGreatQ24
import Derived.Test.YtngehkmdanhgpaaGreatQ25
import Derived.Test.YtngehkmdanhgpaaGreatQ26
import Derived.Test.YtngehkmdanhgpaaGreatQ27
namespace Go.Proofs.YtngehkmdanhgpaaGreat.Pl
open Go.RowKit
open Vp (Str B bl Val cmpL parseS showS splitS withinS IsPath)
open Nd (Row wp_world post_Row post_Row2 grownBy_setCell below_of_grown Opn checkS)
/-- what is answered, and what holds of what is there behind it -/
def DidP (w : World) (g m : Nat) (R : RA) (P : List Ent → Prop) (e : Ending) (w' : World) : Prop := ∃ v, e = .returned (Res.val ⟨R.code, R.dir, R.size, R.data, v⟩) ∧ Rf.Nm w' v R.names ∧ (∃ L', Fs w' g m L' ∧ P (L'.map Spot.ent)) ∧ w.grownBy w' (some m)
set_option maxHeartbeats 1000000 in
set_option maxRecDepth 100000 in
theorem deed_1 (v : Value) (w : World) : Calls Tryz.prog 32 #[v, .int .i64 1] w fun e w' => e = .returned (.func (.func 63) #[v] #[]) ∧ w' = w := by
  go_enter Tryz.func32, Tryz.ntmps32
  go_wp2
  go_ret
  exact ⟨rfl, rfl⟩
set_option maxHeartbeats 4000000 in
set_option maxRecDepth 100000 in
theorem do_1 {w : World} {g m : Nat} {L : List Spot} (h : Fs w g m L) (a z : Int) (p t d : ByteArray) (hp : p.size ≤ 9223372036854775807) (ht : t.size ≤ 9223372036854775807) (hc : checkS ⟨1, p, t, d, a, z⟩ = 0) (R : RA) (A' : List Ent)
    (hd : ∀ W, Below w.heap.size w W → Calls Tryz.prog 63 #[.pointer (some ⟨g, 0, none⟩), .agg #[.int .i64 1, .string p, .string t, .string d, .int .i64 a, .int .i64 z]] W fun e w' => Did W g m R A' e w') :
    Calls Tryz.prog 14 #[.pointer (some ⟨g, 0, none⟩), .agg #[.int .i64 1, .string p, .string t, .string d, .int .i64 a, .int .i64 z]] w fun e w' => Did w g m R A' e w' := by
  obtain ⟨WA, HWA, HRO, HRA, HBA⟩ := op_box w 1 a z p t d
  have H := hid_in h
  have HG := hid_in h.ne1
  have HCK := hid_in (fun W => Nd.check_any ⟨1, p, t, d, a, z⟩ hp ht W)
  simp only [Opn.val] at HCK
  rw [hc] at HCK
  have HD := hid_in hd
  have HDE := hid_in (fun W => deed_1 (.pointer (some ⟨g, 0, none⟩)) W)
  obtain ⟨c0, c1, c2, c3, c4, c5⟩ := op_cells HRO.out (Below.refl _ WA)
  have HK := hid_in (fun W (kb : Below WA.heap.size WA W) => op_cells HRO.out kb)
  obtain ⟨rc, rd, rs, rx, rn⟩ := R
  unfold Did at HD
  simp only [Res.val] at HD
  clear h hc hd
  go_enter Tryz.func14, Tryz.ntmps14
  go_upto_region 1 with fail
  refine wp_world HWA.out ?_
  go_upto_region 6 with (first | (go_at_call 31; refine (HCK.out _).mono ?_; rintro e w1 ⟨rfl, hb1⟩; have HC1 := hid_in hb1; clear hb1))
  obtain ⟨e0, e1, e2, e3, e4, e5⟩ := HK.out _ HC1.out
  clear c0 c1 c2 c3 c4 c5
  have HB1 := hid_in (HBA.out.trans (HC1.out.mono HBA.out.size))
  go_region_with (first | (go_at_call 32; refine (HDE.out _).mono ?_; rintro e w2 ⟨rfl, rfl⟩) | (go_at_call 63; refine (HD.out _ (below_drewN HB1.out 1)).mono ?_; rintro e w3 ⟨v3, rfl, hn3, ⟨L3, hf3, ha3⟩, hg3⟩; obtain ⟨vp, vc, rfl⟩ := hn3.form; have hr3 := Row.map (HRA.out.below (below_drewN HC1.out 1) HRA.out.lt) (H.out.below (below_drewN HB1.out 1)).map hg3; obtain ⟨⟨g0, g1, g2, g3, g4⟩, q0, q1, q2, q3, q4⟩ := res_cells hr3 (Below.refl _ w3); have HR3 := hid_in hr3; have HN3 := hid_in hn3; have HF3 := hid_in hf3; have HA3 := hid_in ha3; have HG3 := hid_in (grown_plus (below_drewN HB1.out 1) hg3); clear hn3 hf3 ha3 hg3 hr3))
  all_goals
    go_wp2
    exact post_Row 4 37 rfl (w.heap.size + 1) rfl 37 [.int .i64 rc, .bool rd, .int .i64 rs, .string rx, .slice vp rn.length vc] (set5_row HR3.out rfl _ _ _ _ _) _ Tryz.underlying37 rfl 5 info37 rfl rfl ⟨_, rfl, nm_set5 HN3.out HR3.out (by decide) _ _ _ _ _, ⟨_, HF3.out.set5 HR3.out (by decide) HG.out _ _ _ _ _, HA3.out⟩, grown_set5 HG3.out (Nat.le_succ _) _ _ _ _ _⟩
set_option maxHeartbeats 1000000 in
set_option maxRecDepth 100000 in
theorem deed_5 (v : Value) (w : World) : Calls Tryz.prog 32 #[v, .int .i64 5] w fun e w' => e = .returned (.func (.func 67) #[v] #[]) ∧ w' = w := by
  go_enter Tryz.func32, Tryz.ntmps32
  go_wp2
  go_ret
  exact ⟨rfl, rfl⟩
set_option maxHeartbeats 4000000 in
set_option maxRecDepth 100000 in
theorem do_5 {w : World} {g m : Nat} {L : List Spot} (h : Fs w g m L) (a z : Int) (p t d : ByteArray) (hp : p.size ≤ 9223372036854775807) (ht : t.size ≤ 9223372036854775807) (hc : checkS ⟨5, p, t, d, a, z⟩ = 0) (R : RA) (A' : List Ent)
    (hd : ∀ W, Below w.heap.size w W → Calls Tryz.prog 67 #[.pointer (some ⟨g, 0, none⟩), .agg #[.int .i64 5, .string p, .string t, .string d, .int .i64 a, .int .i64 z]] W fun e w' => Did W g m R A' e w') :
    Calls Tryz.prog 14 #[.pointer (some ⟨g, 0, none⟩), .agg #[.int .i64 5, .string p, .string t, .string d, .int .i64 a, .int .i64 z]] w fun e w' => Did w g m R A' e w' := by
  obtain ⟨WA, HWA, HRO, HRA, HBA⟩ := op_box w 5 a z p t d
  have H := hid_in h
  have HG := hid_in h.ne1
  have HCK := hid_in (fun W => Nd.check_any ⟨5, p, t, d, a, z⟩ hp ht W)
  simp only [Opn.val] at HCK
  rw [hc] at HCK
  have HD := hid_in hd
  have HDE := hid_in (fun W => deed_5 (.pointer (some ⟨g, 0, none⟩)) W)
  obtain ⟨c0, c1, c2, c3, c4, c5⟩ := op_cells HRO.out (Below.refl _ WA)
  have HK := hid_in (fun W (kb : Below WA.heap.size WA W) => op_cells HRO.out kb)
  obtain ⟨rc, rd, rs, rx, rn⟩ := R
  unfold Did at HD
  simp only [Res.val] at HD
  clear h hc hd
  go_enter Tryz.func14, Tryz.ntmps14
  go_upto_region 1 with fail
  refine wp_world HWA.out ?_
  go_upto_region 6 with (first | (go_at_call 31; refine (HCK.out _).mono ?_; rintro e w1 ⟨rfl, hb1⟩; have HC1 := hid_in hb1; clear hb1))
  obtain ⟨e0, e1, e2, e3, e4, e5⟩ := HK.out _ HC1.out
  clear c0 c1 c2 c3 c4 c5
  have HB1 := hid_in (HBA.out.trans (HC1.out.mono HBA.out.size))
  go_region_with (first | (go_at_call 32; refine (HDE.out _).mono ?_; rintro e w2 ⟨rfl, rfl⟩) | (go_at_call 67; refine (HD.out _ (below_drewN HB1.out 1)).mono ?_; rintro e w3 ⟨v3, rfl, hn3, ⟨L3, hf3, ha3⟩, hg3⟩; obtain ⟨vp, vc, rfl⟩ := hn3.form; have hr3 := Row.map (HRA.out.below (below_drewN HC1.out 1) HRA.out.lt) (H.out.below (below_drewN HB1.out 1)).map hg3; obtain ⟨⟨g0, g1, g2, g3, g4⟩, q0, q1, q2, q3, q4⟩ := res_cells hr3 (Below.refl _ w3); have HR3 := hid_in hr3; have HN3 := hid_in hn3; have HF3 := hid_in hf3; have HA3 := hid_in ha3; have HG3 := hid_in (grown_plus (below_drewN HB1.out 1) hg3); clear hn3 hf3 ha3 hg3 hr3))
  all_goals
    go_wp2
    exact post_Row 4 37 rfl (w.heap.size + 1) rfl 37 [.int .i64 rc, .bool rd, .int .i64 rs, .string rx, .slice vp rn.length vc] (set5_row HR3.out rfl _ _ _ _ _) _ Tryz.underlying37 rfl 5 info37 rfl rfl ⟨_, rfl, nm_set5 HN3.out HR3.out (by decide) _ _ _ _ _, ⟨_, HF3.out.set5 HR3.out (by decide) HG.out _ _ _ _ _, HA3.out⟩, grown_set5 HG3.out (Nat.le_succ _) _ _ _ _ _⟩
set_option maxHeartbeats 1000000 in
set_option maxRecDepth 100000 in
theorem deed_7 (v : Value) (w : World) : Calls Tryz.prog 32 #[v, .int .i64 7] w fun e w' => e = .returned (.func (.func 69) #[v] #[]) ∧ w' = w := by
  go_enter Tryz.func32, Tryz.ntmps32
  go_wp2
  go_ret
  exact ⟨rfl, rfl⟩
set_option maxHeartbeats 4000000 in
set_option maxRecDepth 100000 in
theorem do_7 {w : World} {g m : Nat} {L : List Spot} (h : Fs w g m L) (a z : Int) (p t d : ByteArray) (hp : p.size ≤ 9223372036854775807) (ht : t.size ≤ 9223372036854775807) (hc : checkS ⟨7, p, t, d, a, z⟩ = 0) (R : RA) (P : List Ent → Prop)
    (hd : ∀ W, Below w.heap.size w W → Calls Tryz.prog 69 #[.pointer (some ⟨g, 0, none⟩), .agg #[.int .i64 7, .string p, .string t, .string d, .int .i64 a, .int .i64 z]] W fun e w' => DidP W g m R P e w') :
    Calls Tryz.prog 14 #[.pointer (some ⟨g, 0, none⟩), .agg #[.int .i64 7, .string p, .string t, .string d, .int .i64 a, .int .i64 z]] w fun e w' => DidP w g m R P e w' := by
  obtain ⟨WA, HWA, HRO, HRA, HBA⟩ := op_box w 7 a z p t d
  have H := hid_in h
  have HG := hid_in h.ne1
  have HCK := hid_in (fun W => Nd.check_any ⟨7, p, t, d, a, z⟩ hp ht W)
  simp only [Opn.val] at HCK
  rw [hc] at HCK
  have HD := hid_in hd
  have HDE := hid_in (fun W => deed_7 (.pointer (some ⟨g, 0, none⟩)) W)
  obtain ⟨c0, c1, c2, c3, c4, c5⟩ := op_cells HRO.out (Below.refl _ WA)
  have HK := hid_in (fun W (kb : Below WA.heap.size WA W) => op_cells HRO.out kb)
  obtain ⟨rc, rd, rs, rx, rn⟩ := R
  unfold DidP at HD
  simp only [Res.val] at HD
  clear h hc hd
  go_enter Tryz.func14, Tryz.ntmps14
  go_upto_region 1 with fail
  refine wp_world HWA.out ?_
  go_upto_region 6 with (first | (go_at_call 31; refine (HCK.out _).mono ?_; rintro e w1 ⟨rfl, hb1⟩; have HC1 := hid_in hb1; clear hb1))
  obtain ⟨e0, e1, e2, e3, e4, e5⟩ := HK.out _ HC1.out
  clear c0 c1 c2 c3 c4 c5
  have HB1 := hid_in (HBA.out.trans (HC1.out.mono HBA.out.size))
  go_region_with (first | (go_at_call 32; refine (HDE.out _).mono ?_; rintro e w2 ⟨rfl, rfl⟩) | (go_at_call 69; refine (HD.out _ (below_drewN HB1.out 1)).mono ?_; rintro e w3 ⟨v3, rfl, hn3, ⟨L3, hf3, ha3⟩, hg3⟩; obtain ⟨vp, vc, rfl⟩ := hn3.form; have hr3 := Row.map (HRA.out.below (below_drewN HC1.out 1) HRA.out.lt) (H.out.below (below_drewN HB1.out 1)).map hg3; obtain ⟨⟨g0, g1, g2, g3, g4⟩, q0, q1, q2, q3, q4⟩ := res_cells hr3 (Below.refl _ w3); have HR3 := hid_in hr3; have HN3 := hid_in hn3; have HF3 := hid_in hf3; have HA3 := hid_in ha3; have HG3 := hid_in (grown_plus (below_drewN HB1.out 1) hg3); clear hn3 hf3 ha3 hg3 hr3))
  all_goals
    go_wp2
    exact post_Row 4 37 rfl (w.heap.size + 1) rfl 37 [.int .i64 rc, .bool rd, .int .i64 rs, .string rx, .slice vp rn.length vc] (set5_row HR3.out rfl _ _ _ _ _) _ Tryz.underlying37 rfl 5 info37 rfl rfl ⟨_, rfl, nm_set5 HN3.out HR3.out (by decide) _ _ _ _ _, ⟨_, HF3.out.set5 HR3.out (by decide) HG.out _ _ _ _ _, HA3.out⟩, grown_set5 HG3.out (Nat.le_succ _) _ _ _ _ _⟩
set_option maxHeartbeats 1000000 in
set_option maxRecDepth 100000 in
theorem deed_10 (v : Value) (w : World) : Calls Tryz.prog 32 #[v, .int .i64 10] w fun e w' => e = .returned (.func (.func 72) #[v] #[]) ∧ w' = w := by
  go_enter Tryz.func32, Tryz.ntmps32
  go_wp2
  go_ret
  exact ⟨rfl, rfl⟩
set_option maxHeartbeats 4000000 in
set_option maxRecDepth 100000 in
theorem do_10 {w : World} {g m : Nat} {L : List Spot} (h : Fs w g m L) (a z : Int) (p t d : ByteArray) (hp : p.size ≤ 9223372036854775807) (ht : t.size ≤ 9223372036854775807) (hc : checkS ⟨10, p, t, d, a, z⟩ = 0) (R : RA) (A' : List Ent)
    (hd : ∀ W, Below w.heap.size w W → Calls Tryz.prog 72 #[.pointer (some ⟨g, 0, none⟩), .agg #[.int .i64 10, .string p, .string t, .string d, .int .i64 a, .int .i64 z]] W fun e w' => Did W g m R A' e w') :
    Calls Tryz.prog 14 #[.pointer (some ⟨g, 0, none⟩), .agg #[.int .i64 10, .string p, .string t, .string d, .int .i64 a, .int .i64 z]] w fun e w' => Did w g m R A' e w' := by
  obtain ⟨WA, HWA, HRO, HRA, HBA⟩ := op_box w 10 a z p t d
  have H := hid_in h
  have HG := hid_in h.ne1
  have HCK := hid_in (fun W => Nd.check_any ⟨10, p, t, d, a, z⟩ hp ht W)
  simp only [Opn.val] at HCK
  rw [hc] at HCK
  have HD := hid_in hd
  have HDE := hid_in (fun W => deed_10 (.pointer (some ⟨g, 0, none⟩)) W)
  obtain ⟨c0, c1, c2, c3, c4, c5⟩ := op_cells HRO.out (Below.refl _ WA)
  have HK := hid_in (fun W (kb : Below WA.heap.size WA W) => op_cells HRO.out kb)
  obtain ⟨rc, rd, rs, rx, rn⟩ := R
  unfold Did at HD
  simp only [Res.val] at HD
  clear h hc hd
  go_enter Tryz.func14, Tryz.ntmps14
  go_upto_region 1 with fail
  refine wp_world HWA.out ?_
  go_upto_region 6 with (first | (go_at_call 31; refine (HCK.out _).mono ?_; rintro e w1 ⟨rfl, hb1⟩; have HC1 := hid_in hb1; clear hb1))
  obtain ⟨e0, e1, e2, e3, e4, e5⟩ := HK.out _ HC1.out
  clear c0 c1 c2 c3 c4 c5
  have HB1 := hid_in (HBA.out.trans (HC1.out.mono HBA.out.size))
  go_region_with (first | (go_at_call 32; refine (HDE.out _).mono ?_; rintro e w2 ⟨rfl, rfl⟩) | (go_at_call 72; refine (HD.out _ (below_drewN HB1.out 1)).mono ?_; rintro e w3 ⟨v3, rfl, hn3, ⟨L3, hf3, ha3⟩, hg3⟩; obtain ⟨vp, vc, rfl⟩ := hn3.form; have hr3 := Row.map (HRA.out.below (below_drewN HC1.out 1) HRA.out.lt) (H.out.below (below_drewN HB1.out 1)).map hg3; obtain ⟨⟨g0, g1, g2, g3, g4⟩, q0, q1, q2, q3, q4⟩ := res_cells hr3 (Below.refl _ w3); have HR3 := hid_in hr3; have HN3 := hid_in hn3; have HF3 := hid_in hf3; have HA3 := hid_in ha3; have HG3 := hid_in (grown_plus (below_drewN HB1.out 1) hg3); clear hn3 hf3 ha3 hg3 hr3))
  all_goals
    go_wp2
    exact post_Row 4 37 rfl (w.heap.size + 1) rfl 37 [.int .i64 rc, .bool rd, .int .i64 rs, .string rx, .slice vp rn.length vc] (set5_row HR3.out rfl _ _ _ _ _) _ Tryz.underlying37 rfl 5 info37 rfl rfl ⟨_, rfl, nm_set5 HN3.out HR3.out (by decide) _ _ _ _ _, ⟨_, HF3.out.set5 HR3.out (by decide) HG.out _ _ _ _ _, HA3.out⟩, grown_set5 HG3.out (Nat.le_succ _) _ _ _ _ _⟩
set_option maxHeartbeats 1000000 in
set_option maxRecDepth 100000 in
theorem deed_11 (v : Value) (w : World) : Calls Tryz.prog 32 #[v, .int .i64 11] w fun e w' => e = .returned (.func (.func 73) #[v] #[]) ∧ w' = w := by
  go_enter Tryz.func32, Tryz.ntmps32
  go_wp2
  go_ret
  exact ⟨rfl, rfl⟩
set_option maxHeartbeats 4000000 in
set_option maxRecDepth 100000 in
theorem do_11 {w : World} {g m : Nat} {L : List Spot} (h : Fs w g m L) (a z : Int) (p t d : ByteArray) (hp : p.size ≤ 9223372036854775807) (ht : t.size ≤ 9223372036854775807) (hc : checkS ⟨11, p, t, d, a, z⟩ = 0) (R : RA) (A' : List Ent)
    (hd : ∀ W, Below w.heap.size w W → Calls Tryz.prog 73 #[.pointer (some ⟨g, 0, none⟩), .agg #[.int .i64 11, .string p, .string t, .string d, .int .i64 a, .int .i64 z]] W fun e w' => Did W g m R A' e w') :
    Calls Tryz.prog 14 #[.pointer (some ⟨g, 0, none⟩), .agg #[.int .i64 11, .string p, .string t, .string d, .int .i64 a, .int .i64 z]] w fun e w' => Did w g m R A' e w' := by
  obtain ⟨WA, HWA, HRO, HRA, HBA⟩ := op_box w 11 a z p t d
  have H := hid_in h
  have HG := hid_in h.ne1
  have HCK := hid_in (fun W => Nd.check_any ⟨11, p, t, d, a, z⟩ hp ht W)
  simp only [Opn.val] at HCK
  rw [hc] at HCK
  have HD := hid_in hd
  have HDE := hid_in (fun W => deed_11 (.pointer (some ⟨g, 0, none⟩)) W)
  obtain ⟨c0, c1, c2, c3, c4, c5⟩ := op_cells HRO.out (Below.refl _ WA)
  have HK := hid_in (fun W (kb : Below WA.heap.size WA W) => op_cells HRO.out kb)
  obtain ⟨rc, rd, rs, rx, rn⟩ := R
  unfold Did at HD
  simp only [Res.val] at HD
  clear h hc hd
  go_enter Tryz.func14, Tryz.ntmps14
  go_upto_region 1 with fail
  refine wp_world HWA.out ?_
  go_upto_region 6 with (first | (go_at_call 31; refine (HCK.out _).mono ?_; rintro e w1 ⟨rfl, hb1⟩; have HC1 := hid_in hb1; clear hb1))
  obtain ⟨e0, e1, e2, e3, e4, e5⟩ := HK.out _ HC1.out
  clear c0 c1 c2 c3 c4 c5
  have HB1 := hid_in (HBA.out.trans (HC1.out.mono HBA.out.size))
  go_region_with (first | (go_at_call 32; refine (HDE.out _).mono ?_; rintro e w2 ⟨rfl, rfl⟩) | (go_at_call 73; refine (HD.out _ (below_drewN HB1.out 1)).mono ?_; rintro e w3 ⟨v3, rfl, hn3, ⟨L3, hf3, ha3⟩, hg3⟩; obtain ⟨vp, vc, rfl⟩ := hn3.form; have hr3 := Row.map (HRA.out.below (below_drewN HC1.out 1) HRA.out.lt) (H.out.below (below_drewN HB1.out 1)).map hg3; obtain ⟨⟨g0, g1, g2, g3, g4⟩, q0, q1, q2, q3, q4⟩ := res_cells hr3 (Below.refl _ w3); have HR3 := hid_in hr3; have HN3 := hid_in hn3; have HF3 := hid_in hf3; have HA3 := hid_in ha3; have HG3 := hid_in (grown_plus (below_drewN HB1.out 1) hg3); clear hn3 hf3 ha3 hg3 hr3))
  all_goals
    go_wp2
    exact post_Row 4 37 rfl (w.heap.size + 1) rfl 37 [.int .i64 rc, .bool rd, .int .i64 rs, .string rx, .slice vp rn.length vc] (set5_row HR3.out rfl _ _ _ _ _) _ Tryz.underlying37 rfl 5 info37 rfl rfl ⟨_, rfl, nm_set5 HN3.out HR3.out (by decide) _ _ _ _ _, ⟨_, HF3.out.set5 HR3.out (by decide) HG.out _ _ _ _ _, HA3.out⟩, grown_set5 HG3.out (Nat.le_succ _) _ _ _ _ _⟩
theorem do_mkdir {w : World} {g m : Nat} {L : List Spot} (h : Fs w g m L) (a z : Int) (p t d : ByteArray) (hp : p.size ≤ 9223372036854775807) (ht : t.size ≤ 9223372036854775807) (hc : checkS ⟨1, p, t, d, a, z⟩ = 0) :
    Calls Tryz.prog 14 #[.pointer (some ⟨g, 0, none⟩), .agg #[.int .i64 1, .string p, .string t, .string d, .int .i64 a, .int .i64 z]] w fun e w' => Did w g m (RA.err (addE (L.map Spot.ent) (nmsOf p))) (addA (L.map Spot.ent) (nmsOf p) true) e w' :=
  do_1 h a z p t d hp ht hc _ _ fun _ k => (mkdir_any (h.below k) 1 a z p t d hp).mono fun _ _ hh => ⟨_, hh.1, nm_nil _, hh.2.1, hh.2.2⟩
theorem do_unlink {w : World} {g m : Nat} {L : List Spot} (h : Fs w g m L) (a z : Int) (p t d : ByteArray) (hp : p.size ≤ 9223372036854775807) (ht : t.size ≤ 9223372036854775807) (hc : checkS ⟨5, p, t, d, a, z⟩ = 0) :
    Calls Tryz.prog 14 #[.pointer (some ⟨g, 0, none⟩), .agg #[.int .i64 5, .string p, .string t, .string d, .int .i64 a, .int .i64 z]] w fun e w' => Did w g m (RA.err (ulE (L.map Spot.ent) (nmsOf p))) (ulA (L.map Spot.ent) (nmsOf p)) e w' :=
  do_5 h a z p t d hp ht hc _ _ fun _ k => (unlink_any (h.below k) 5 a z p t d hp).mono fun _ _ hh => ⟨_, hh.1, nm_nil _, hh.2.1, hh.2.2⟩
theorem do_stat {w : World} {g m : Nat} {L : List Spot} (h : Fs w g m L) (hn : L.length ≤ 100000) (a z : Int) (p t d : ByteArray) (hp : p.size ≤ 9223372036854775807) (ht : t.size ≤ 9223372036854775807) (hc : checkS ⟨10, p, t, d, a, z⟩ = 0) :
    Calls Tryz.prog 14 #[.pointer (some ⟨g, 0, none⟩), .agg #[.int .i64 10, .string p, .string t, .string d, .int .i64 a, .int .i64 z]] w fun e w' => Did w g m ⟨stE (L.map Spot.ent) (nmsOf p), stD (L.map Spot.ent) (nmsOf p), stS (L.map Spot.ent) (nmsOf p), ⟨#[]⟩, []⟩ (L.map Spot.ent) e w' :=
  do_10 h a z p t d hp ht hc _ _ fun _ k => (stat_any (h.below k) hn 10 a z p t d hp).mono fun _ _ hh => ⟨_, hh.1, nm_nil _, ⟨L, hh.2.1, rfl⟩, below_but m hh.2.2⟩
theorem do_forget {w : World} {g m : Nat} {L : List Spot} (h : Fs w g m L) (a z : Int) (p t d : ByteArray) (hp : p.size ≤ 9223372036854775807) (ht : t.size ≤ 9223372036854775807) (hc : checkS ⟨11, p, t, d, a, z⟩ = 0) :
    Calls Tryz.prog 14 #[.pointer (some ⟨g, 0, none⟩), .agg #[.int .i64 11, .string p, .string t, .string d, .int .i64 a, .int .i64 z]] w fun e w' => Did w g m (RA.err 0) (L.map Spot.ent) e w' :=
  do_11 h a z p t d hp ht hc _ _ fun _ k => (forget_any (h.below k) 11 a z p t d).mono fun _ _ hh => ⟨_, hh.1, nm_nil _, ⟨L, hh.2.1, rfl⟩, below_but m hh.2.2⟩
theorem do_rename {w : World} {g m : Nat} {L : List Spot} (h : Fs w g m L) (hn : L.length ≤ 100000) (a z : Int) (p t d : ByteArray) (hp : p.size ≤ 9223372036854775807) (ht : t.size ≤ 9223372036854775807) (hc : checkS ⟨7, p, t, d, a, z⟩ = 0) :
    Calls Tryz.prog 14 #[.pointer (some ⟨g, 0, none⟩), .agg #[.int .i64 7, .string p, .string t, .string d, .int .i64 a, .int .i64 z]] w fun e w' => DidP w g m (RA.err (rnE (L.map Spot.ent) (nmsOf p) (nmsOf t))) (Moved (L.map Spot.ent) (nmsOf p) (nmsOf t)) e w' :=
  do_7 h a z p t d hp ht hc _ _ fun _ k => (rename_any (h.below k) hn 7 a z p t d hp ht).mono fun _ _ hh => ⟨_, hh.1, nm_nil _, hh.2.1, hh.2.2⟩
end Go.Proofs.YtngehkmdanhgpaaGreat.Pl
namespace Go.Proofs.YtngehkmdanhgpaaGreat.Pl
open Go.RowKit
open Vp (Str B bl Val cmpL parseS showS splitS withinS IsPath)
open Nd (Row wp_world post_Row post_Row2 grownBy_setCell below_of_grown Opn checkS)
open Rf (Fil Fls)
/-- a file system, by what is there -/
def FsA (w : World) (g m : Nat) (A : List Ent) : Prop := ∃ L, Fs w g m L ∧ L.map Spot.ent = A
theorem FsA.below {w w' : World} {g m : Nat} {A : List Ent} (h : FsA w g m A) (k : Below w.heap.size w w') : FsA w' g m A := by
  obtain ⟨L, h1, h2⟩ := h
  exact ⟨L, h1.below k, h2⟩
/-- a file system of one path -/
theorem new_one (f : Fil) (w : World) (hp : f.path.size ≤ 9223372036854775807) (hE : newE [f] = 0) :
    Calls Tryz.prog 10 #[.slice (some ⟨w.heap.size, 0, none⟩) 1 1] (w.alloc (.cells #[.string f.path, .bool f.dir, .string f.data] 48)) fun e w' => ∃ g m, e = .returned (.tuple #[.pointer (some ⟨g, 0, none⟩), .int .i64 0]) ∧ FsA w' g m (newA [f]) ∧ Below w.heap.size w w' ∧ w.heap.size ≤ m := by
  have hb : Below w.heap.size w (w.alloc (.cells #[.string f.path, .bool f.dir, .string f.data] 48)) := (Below.refl _ _).alloc (Nat.le_refl _) _
  refine (new_any [f] _ _ (Rf.fls_one w f) (by simp) (by intro x hx; rw [List.mem_singleton.1 hx]; exact hp)).mono ?_
  rintro e w' ⟨h1, ⟨h2, _⟩ | ⟨_, g, m, L, h3, h4, h5, h6, h7⟩⟩
  · exact absurd hE h2
  · exact ⟨g, m, h3, ⟨L, h4, h7⟩, hb.trans (h1.mono hb.size), Nat.le_trans hb.size h6⟩
/-- what was told stays told while a file system goes on -/
theorem row_stays {w w' : World} {g m b : Nat} {A : List Ent} {vs : List Value} {t : TypeId} (h : Row w b vs t) (hf : FsA w g m A) (hg : w.grownBy w' (some m)) : Row w' b vs t := by
  obtain ⟨L, h1, _⟩ := hf
  exact Row.map h h1.map hg
/-- one call of Do: its result and what is there -/
def Does (w : World) (g m : Nat) (R : RA) (A' : List Ent) (e : Ending) (w' : World) : Prop := ∃ vp vc, e = .returned (.agg #[.int .i64 R.code, .bool R.dir, .int .i64 R.size, .string R.data, .slice vp R.names.length vc]) ∧ FsA w' g m A' ∧ w.grownBy w' (some m)
theorem Did.does {w : World} {g m : Nat} {R : RA} {A' : List Ent} {e : Ending} {w' : World} (h : Did w g m R A' e w') : Does w g m R A' e w' := by
  obtain ⟨v, rfl, h1, h2, h3⟩ := h
  obtain ⟨p, c, rfl⟩ := h1.form
  exact ⟨p, c, rfl, h2, h3⟩
theorem aw_d1 {w : World} {g m : Nat} (h : FsA w g m aw0) : Calls Tryz.prog 14 #[.pointer (some ⟨g, 0, none⟩), .agg #[.int .i64 2, .string pAF, .string ⟨#[]⟩, .string ⟨#[]⟩, .int .i64 0, .int .i64 0]] w fun e w' => Does w g m (RA.err 0) aw1 e w' := by
  obtain ⟨L, h1, h2⟩ := h
  have hh := do_create h1 0 0 pAF ⟨#[]⟩ ⟨#[]⟩ (by decide) (by decide) aw_c1
  rw [h2, aw_e1] at hh
  exact hh.mono fun e w' k => Did.does k
theorem aw_d2 {w : World} {g m : Nat} (h : FsA w g m aw1) : Calls Tryz.prog 14 #[.pointer (some ⟨g, 0, none⟩), .agg #[.int .i64 3, .string pAF, .string ⟨#[]⟩, .string ⟨#[104, 105]⟩, .int .i64 0, .int .i64 0]] w fun e w' => Does w g m ⟨0, false, 2, ⟨#[]⟩, []⟩ aw2 e w' := by
  obtain ⟨L, h1, h2⟩ := h
  have hh := do_write h1 (by rw [h2]; exact aw_s1) 0 0 pAF ⟨#[]⟩ ⟨#[104, 105]⟩ (by decide) (by decide) aw_c2 (by decide) (by decide)
  rw [h2, aw_e2.1, aw_e2.2] at hh
  exact hh.mono fun e w' k => Did.does k
theorem aw_d3 {w : World} {g m : Nat} (h : FsA w g m aw2) : Calls Tryz.prog 14 #[.pointer (some ⟨g, 0, none⟩), .agg #[.int .i64 8, .string pAF, .string ⟨#[]⟩, .string ⟨#[]⟩, .int .i64 1, .int .i64 9]] w fun e w' => Does w g m ⟨0, false, 2, ⟨#[105]⟩, []⟩ aw2 e w' := by
  obtain ⟨L, h1, h2⟩ := h
  have hh := do_read h1 1 9 pAF ⟨#[]⟩ ⟨#[]⟩ (by decide) (by decide) aw_c3 (by decide) (by decide)
  rw [h2, aw_e3.1, aw_e3.2.1, aw_e3.2.2] at hh
  exact hh.mono fun e w' k => Did.does k
theorem aw_d4 {w : World} {g m : Nat} (h : FsA w g m aw2) : Calls Tryz.prog 14 #[.pointer (some ⟨g, 0, none⟩), .agg #[.int .i64 6, .string pA, .string ⟨#[]⟩, .string ⟨#[]⟩, .int .i64 0, .int .i64 0]] w fun e w' => Does w g m (RA.err 130) (rmA aw2 (nmsOf pA)) e w' := by
  obtain ⟨L, h1, h2⟩ := h
  have hh := do_rmdir h1 (by have := aw_l2; rw [← h2, List.length_map] at this; exact this) 0 0 pA ⟨#[]⟩ ⟨#[]⟩ (by decide) (by decide) aw_c4
  rw [h2, aw_e4] at hh
  exact hh.mono fun e w' k => Did.does k
theorem field37 (c z : Int) (b : Bool) (x : ByteArray) (p : Option Addr) (n q : Nat) (w : World) : (Instr.field 37 (.agg #[.int .i64 c, .bool b, .int .i64 z, .string x, .slice p n q]) 0).run Tryz.prog w = .ok (.int .i64 c) w := by kernel_rfl
set_option maxHeartbeats 4000000 in
set_option maxRecDepth 100000 in
theorem awake_any (w : World) : Calls Tryz.prog 8 #[] w fun e w' => e = .returned (.bool true) ∧ Below w.heap.size w w' := by
  have HNEW := hid_in (new_one ⟨pA, true, ⟨#[]⟩⟩ w (by decide) aw_new)
  have H1 := hid_in (fun W g m (k : FsA W g m aw0) => aw_d1 k)
  have H2 := hid_in (fun W g m (k : FsA W g m aw1) => aw_d2 k)
  have H3 := hid_in (fun W g m (k : FsA W g m aw2) => aw_d3 k)
  have H4 := hid_in (fun W g m (k : FsA W g m aw2) => aw_d4 k)
  have e0 : newA [⟨pA, true, ⟨#[]⟩⟩] = aw0 := rfl
  rw [e0] at HNEW
  clear e0
  simp only [Does, RA.err, pA, pAF, List.length_nil] at HNEW H1 H2 H3 H4
  go_enter Tryz.func8, Tryz.ntmps8
  go_upto_region 4 with (first | (go_at_call 10; refine HNEW.out.mono ?_; rintro e w1 ⟨g, m, rfl, hf1, hb1, hm1⟩; have HF1 := hid_in hf1; have HB1 := hid_in hb1; have HM := hid_in hm1; clear hf1 hb1 hm1))
  go_upto_region 5 with (first | (go_at_call 14; refine (H1.out _ _ _ HF1.out).mono ?_; rintro e w2 ⟨vp2, vc2, rfl, hf2, hg2⟩; have HF2 := hid_in hf2; have HB2 := hid_in (HB1.out.grown hg2 HB1.out.size (fun k e => by obtain rfl := Option.some.inj e; exact HM.out)); clear hf2 hg2) | (refine Nd.wpList_store_new rfl rfl 37 5 _ _ rfl _ [Value.int .i64 0, .bool false, .int .i64 0, .string ⟨#[]⟩, .slice vp2 0 vc2] info37 rfl (hid_in rfl) (hid_in (by intro v hv; simp only [List.mem_cons, List.not_mem_nil, or_false] at hv; rcases hv with rfl | rfl | rfl | rfl | rfl <;> rfl)) rfl rfl ?_; intro w3 hr3 hb3 hs3; have HR3 := hid_in hr3; have HF3 := hid_in (HF2.out.below hb3); have HB3 := hid_in (HB2.out.trans (hb3.mono HB2.out.size)); clear hr3 hb3 hs3))
  go_upto_region 6 with (first | (go_at_call 14; refine (H2.out _ _ _ HF3.out).mono ?_; rintro e w4 ⟨vp4, vc4, rfl, hf4, hg4⟩; have HF4 := hid_in hf4; have HR34 := hid_in (row_stays HR3.out HF3.out hg4); have HB4 := hid_in (HB3.out.grown hg4 HB3.out.size (fun k e => by obtain rfl := Option.some.inj e; exact HM.out)); clear hf4 hg4) | (refine Nd.wpList_store_new rfl rfl 37 5 _ _ rfl _ [Value.int .i64 0, .bool false, .int .i64 2, .string ⟨#[]⟩, .slice vp4 0 vc4] info37 rfl (hid_in rfl) (hid_in (by intro v hv; simp only [List.mem_cons, List.not_mem_nil, or_false] at hv; rcases hv with rfl | rfl | rfl | rfl | rfl <;> rfl)) rfl rfl ?_; intro w5 hr5 hb5 hs5; have HR5 := hid_in hr5; have HR35 := hid_in (HR34.out.below hb5 HR34.out.lt); have HF5 := hid_in (HF4.out.below hb5); have HB5 := hid_in (HB4.out.trans (hb5.mono HB4.out.size)); clear hr5 hb5 hs5))
  go_upto_region 7 with (first | (go_at_call 14; refine (H3.out _ _ _ HF5.out).mono ?_; rintro e w6 ⟨vp6, vc6, rfl, hf6, hg6⟩; have HF6 := hid_in hf6; have HR36 := hid_in (row_stays HR35.out HF5.out hg6); have HR56 := hid_in (row_stays HR5.out HF5.out hg6); have HB6 := hid_in (HB5.out.grown hg6 HB5.out.size (fun k e => by obtain rfl := Option.some.inj e; exact HM.out)); clear hf6 hg6) | (refine Nd.wpList_store_new rfl rfl 37 5 _ _ rfl _ [Value.int .i64 0, .bool false, .int .i64 2, .string ⟨#[105]⟩, .slice vp6 0 vc6] info37 rfl (hid_in rfl) (hid_in (by intro v hv; simp only [List.mem_cons, List.not_mem_nil, or_false] at hv; rcases hv with rfl | rfl | rfl | rfl | rfl <;> rfl)) rfl rfl ?_; intro w7 hr7 hb7 hs7; have HR7 := hid_in hr7; have HR37 := hid_in (HR36.out.below hb7 HR36.out.lt); have HR57 := hid_in (HR56.out.below hb7 HR56.out.lt); have HF7 := hid_in (HF6.out.below hb7); have HB7 := hid_in (HB6.out.trans (hb7.mono HB6.out.size)); clear hr7 hb7 hs7))
  have m0 : w7.cell? ⟨w2.heap.size, 0, none⟩ = some (.int .i64 0) := HR37.out.cell 0
  have m1 : w7.cell? ⟨w4.heap.size, 2, none⟩ = some (.int .i64 2) := HR57.out.cell 2
  have m2 : w7.cell? ⟨w6.heap.size, 3, none⟩ = some (.string ⟨#[105]⟩) := HR7.out.cell 3
  have m3 : w7.cell? ⟨w6.heap.size, 2, none⟩ = some (.int .i64 2) := HR7.out.cell 2
  have hfd := field37 130 0 false ⟨#[]⟩
  go_wp2_with (first | (go_at_call 14; refine (H4.out _ _ _ HF7.out).mono ?_; rintro e w8 ⟨vp8, vc8, rfl, hf8, hg8⟩; have HB8 := hid_in (HB7.out.grown hg8 HB7.out.size (fun k e => by obtain rfl := Option.some.inj e; exact HM.out)); clear hf8 hg8))
  go_ret
  exact ⟨rfl, HB8.out⟩
end Go.Proofs.YtngehkmdanhgpaaGreat.Pl
