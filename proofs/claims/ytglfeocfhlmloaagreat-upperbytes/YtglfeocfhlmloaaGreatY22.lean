/-
  Get: the inode at a path.
-/
import Derived.Deep.RegionHeld3
import Derived.Laws.CopyOwn
import Derived.Deep.RegionLaw
import Derived.Deep.DrawnRows
import Derived.Laws.Tables
import Derived.Test.YtglfeocfhlmloaaGreatY00
import Derived.Test.YtglfeocfhlmloaaGreatY01
import Derived.Test.YtglfeocfhlmloaaGreatY02
import Derived.Test.YtglfeocfhlmloaaGreatY03
import Derived.Test.YtglfeocfhlmloaaGreatY04
import Derived.Test.YtglfeocfhlmloaaGreatY05
import Derived.Test.YtglfeocfhlmloaaGreatY06
import Derived.Test.YtglfeocfhlmloaaGreatY07
import Derived.Test.YtglfeocfhlmloaaGreatY08
import Derived.Test.YtglfeocfhlmloaaGreatY09
import Derived.Test.YtglfeocfhlmloaaGreatY11
import Derived.Test.YtglfeocfhlmloaaGreatY12
import Derived.Test.YtglfeocfhlmloaaGreatY13
import Derived.Test.YtglfeocfhlmloaaGreatY14
import Derived.Test.YtglfeocfhlmloaaGreatY15
import Derived.Test.YtglfeocfhlmloaaGreatY16
import Derived.Test.YtglfeocfhlmloaaGreatY17
import Derived.Test.YtglfeocfhlmloaaGreatY18
import Derived.Test.YtglfeocfhlmloaaGreatY19
import Derived.Test.YtglfeocfhlmloaaGreatY20
import Derived.Test.YtglfeocfhlmloaaGreatY21
namespace Go.Proofs.YtglfeocfhlmloaaGreat.Up
open Go.RowKit
open Vp (Str B bl Val cmpL parseS showS withinS IsPath checkS)
open Nd (Row wp_world post_Row post_Row2)
theorem below_drewN {B : Nat} {a w : World} (h : Below B a w) (n : Nat) : Below B a (w.drewN n) := Nd.below_drewN h n
theorem below_drew (W : World) : Below W.heap.size W W.drew := below_drewN (Below.refl _ _) 1
theorem check_gp (xs : List Str) : checkS xs = 0 ↔ Gp xs := by
  unfold checkS Gp IsPath
  constructor
  · intro h
    split at h
    · cases h
    · rename_i h1
      split at h
      · cases h
      · rename_i h2
        exact ⟨fun x hx => List.all_eq_true.1 (by simpa using h1) x hx, by omega⟩
  · rintro ⟨h1, h2⟩
    have h3 : xs.all Vp.isNameS = true := List.all_eq_true.2 h1
    rw [if_neg (by simp [h3]), if_neg (by omega)]
theorem info63 : (Tryz.prog.info? 80).map (·.size) = some 5 := by kernel_rfl
theorem info36 : (Tryz.prog.info? 42).map (·.size) = some 4 := by kernel_rfl
theorem Fs.cell {w : World} {g m : Nat} {N Z : Int} {L : List Spot} (h : Fs w g m N Z L) : w.cell? ⟨g, 0, none⟩ = some (.int .i64 N) ∧ w.cell? ⟨g, 1, none⟩ = some (.int .i64 Z) ∧ w.cell? ⟨g, 2, none⟩ = some (.map (some m)) := ⟨h.row.cell 0, h.row.cell 1, h.row.cell 2⟩
theorem spot_form {w : World} {m : Nat} {L : List Spot} (h : MapP w m L) (xs : List Str) : ∃ p n c t k q x, ((spotAt L xs).getD Spot.zero).val = .agg #[.slice p n c, .string t, .int .i64 k, .bool q, .string x] ∧ ((spotAt L xs).getD Spot.zero).path = t ∧ ((spotAt L xs).getD Spot.zero).kind = k ∧ ((spotAt L xs).getD Spot.zero).opq = q ∧ ((spotAt L xs).getD Spot.zero).data = x := by
  cases hs : spotAt L xs with
  | none => exact ⟨none, 0, 0, ⟨#[]⟩, 0, false, ⟨#[]⟩, rfl, rfl, rfl, rfl, rfl⟩
  | some s =>
    obtain ⟨p, c, hv⟩ := (h.nms s (List.mem_of_find?_eq_some hs)).form
    exact ⟨p, s.names.length, c, s.path, s.kind, s.opq, s.data, by simp [Spot.val, hv], rfl, rfl, rfl, rfl⟩
theorem set_below {B b j : Nat} {w W : World} (h : Below B w W) (hb : B ≤ b) (hs : B ≤ W.heap.size) (v : Value) : Below B w (W.setCell ⟨b, j, none⟩ v) ∧ B ≤ (W.setCell ⟨b, j, none⟩ v).heap.size := by
  have hg := Nd.grownBy_setCell W ⟨b, j, none⟩ v
  exact ⟨h.grown hg hs (fun k e => by obtain rfl := Option.some.inj e; exact hb), Nat.le_trans hs hg.size⟩
theorem set4_below {B b : Nat} {w W : World} (h : Below B w W) (hb : B ≤ b) (hs : B ≤ W.heap.size) (v0 v1 v2 v3 : Value) : Below B w ((((W.setCell ⟨b, 0, none⟩ v0).setCell ⟨b, 1, none⟩ v1).setCell ⟨b, 2, none⟩ v2).setCell ⟨b, 3, none⟩ v3) ∧ B ≤ ((((W.setCell ⟨b, 0, none⟩ v0).setCell ⟨b, 1, none⟩ v1).setCell ⟨b, 2, none⟩ v2).setCell ⟨b, 3, none⟩ v3).heap.size := by
  obtain ⟨h0, s0⟩ := set_below (j := 0) h hb hs v0
  obtain ⟨h1, s1⟩ := set_below (j := 1) h0 hb s0 v1
  obtain ⟨h2, s2⟩ := set_below (j := 2) h1 hb s1 v2
  exact set_below (j := 3) h2 hb s2 v3
theorem set5_below {B b : Nat} {w W : World} (h : Below B w W) (hb : B ≤ b) (hs : B ≤ W.heap.size) (v0 v1 v2 v3 v4 : Value) : Below B w (((((W.setCell ⟨b, 0, none⟩ v0).setCell ⟨b, 1, none⟩ v1).setCell ⟨b, 2, none⟩ v2).setCell ⟨b, 3, none⟩ v3).setCell ⟨b, 4, none⟩ v4) := by
  obtain ⟨h3, s3⟩ := set4_below h hb hs v0 v1 v2 v3
  exact (set_below (j := 4) h3 hb s3 v4).1
/-- the path's text, asked in a later world -/
theorem show_at {w : World} {nv : Value} {xs : List Str} (hv : Val w nv xs) (hx : Gp xs) (W : World) (k : Below w.heap.size w W) : Calls Tryz.prog 42 #[nv] W fun e w' => e = .returned (.string (B (showS xs))) ∧ Below w.heap.size w w' ∧ Below W.heap.size W w' :=
  (Vp.show_v (hv.below k) (by have := hx.lens; omega)).mono fun e w' h => ⟨h.1, k.trans (h.2.mono k.size), h.2⟩
/-- an inode as a value -/
def Spot.ino (s : Spot) : Value := .agg #[.string s.path, .int .i64 s.kind, .bool s.opq, .string s.data]
/-- the place of names, whether they are a path or not -/
def spotG (L : List Spot) (xs : List Str) : Option Spot := if checkS xs = 0 then spotAt L xs else none
set_option maxHeartbeats 2000000 in
set_option maxRecDepth 100000 in
theorem get_any {w : World} {g m : Nat} {N Z : Int} {L : List Spot} (h : Fs w g m N Z L) {nv : Value} {xs : List Str} (hv : Val w nv xs) (hl : Lib.lens xs + xs.length ≤ 140737488355328) :
    Calls Tryz.prog 64 #[.pointer (some ⟨g, 0, none⟩), nv] w fun e w' => e = .returned (.tuple #[((spotG L xs).getD Spot.zero).ino, .bool (spotG L xs).isSome]) ∧ Below w.heap.size w w' := by
  obtain ⟨np, nc, rfl⟩ : ∃ p c, nv = .slice p xs.length c := by obtain ⟨p, c, e, _⟩ := hv; exact ⟨p, c, e⟩
  have H := hid_in h
  obtain ⟨w1, HW1⟩ : ∃ w1, Hid (w.alloc (.cells #[.string ⟨#[]⟩, .int .i64 0, .bool false, .string ⟨#[]⟩] 42) = w1) := ⟨_, hid_in rfl⟩
  have HB1 : Hid (Below w.heap.size w w1) := by rw [← HW1.out]; exact (Below.refl _ _).alloc (Nat.le_refl _) _
  have HR1 : Hid (Row w1 w.heap.size [.string ⟨#[]⟩, .int .i64 0, .bool false, .string ⟨#[]⟩] 42) := by rw [← HW1.out]; exact Row.new w [.string ⟨#[]⟩, .int .i64 0, .bool false, .string ⟨#[]⟩] 42
  have HCK := hid_in (Vp.check_v (hv.below HB1.out) hl)
  by_cases hk : checkS xs = 0
  · have hx := (check_gp xs).1 hk
    have hsg : spotG L xs = spotAt L xs := if_pos hk
    rw [hsg]
    rw [hk] at HCK
    obtain ⟨WA, HWA⟩ : ∃ WA, Hid (w1.alloc (.cells #[.slice none 0 0, .string ⟨#[]⟩, .int .i64 0, .bool false, .string ⟨#[]⟩] 80) = WA) := ⟨_, hid_in rfl⟩
    have HBA : Hid (Below w1.heap.size w1 WA) := by rw [← HWA.out]; exact (Below.refl _ _).alloc (Nat.le_refl _) _
    have HRA : Hid (Row WA w1.heap.size [.slice none 0 0, .string ⟨#[]⟩, .int .i64 0, .bool false, .string ⟨#[]⟩] 80) := by rw [← HWA.out]; exact Row.new w1 [.slice none 0 0, .string ⟨#[]⟩, .int .i64 0, .bool false, .string ⟨#[]⟩] 80
    have HS1 := hid_in (show_at (hv.below HB1.out) hx w1.drew (below_drew w1))
    have HS2 := hid_in (show_at (hv.below HB1.out) hx WA.drew (below_drewN HBA.out 1))
    rw [← HWA.out] at HS2
    obtain ⟨zp, zn, zc, zt, zk, zq, zx, HZ, e1, e2, e3, e4⟩ := spot_form h.map xs
    have HZ := hid_in HZ
    obtain ⟨SB, HSB⟩ : ∃ SB, Hid ((spotAt L xs).isSome = SB) := ⟨_, hid_in rfl⟩
    unfold Spot.ino
    rw [e1, e2, e3, e4, HSB.out]
    have HL := hid_in (fun W (k : Below w.heap.size w W) => Fs.look2 (h.below k).map xs hx)
    rw [HZ.out, HSB.out] at HL
    have HK := hid_in (fun W (k : Below w1.heap.size w1 W) => And.intro (H.out.below (HB1.out.trans (k.mono HB1.out.size))).cell.2.2 (HL.out W (HB1.out.trans (k.mono HB1.out.size))))
    generalize B (showS xs) = T at *
    generalize xs.length = nl at *
    clear h hv hx hl hk hsg e1 e2 e3 e4
    go_enter Tryz.func64, Tryz.ntmps64
    go_upto_region 1 with fail
    refine wp_world HW1.out ?_
    go_upto_region 3 with (first | (go_at_call 78; refine HCK.out.mono ?_; rintro e w2 ⟨rfl, hw2⟩; replace hw2 := hw2.symm; subst hw2))
    go_cut [6, 7] from 16 to 25 (fun v6 v7 W => v7 = .bool SB ∧ ∃ sb, v6 = .pointer (some ⟨sb, 0, none⟩) ∧ Hid (Row W sb [.slice zp zn zc, .string zt, .int .i64 zk, .bool zq, .string zx] 80) ∧ Hid (Row W w.heap.size [.string ⟨#[]⟩, .int .i64 0, .bool false, .string ⟨#[]⟩] 42) ∧ Hid (Below w.heap.size w W))
    case first =>
      have HX1 := hid_in (fun W (k : Below w1.heap.size w1 W) => And.intro (HR1.out.below k HR1.out.lt) (HB1.out.trans (k.mono HB1.out.size)))
      go_region_held3 (fun W => W.cell? ⟨g, 2, none⟩ = some (.map (some m)) ∧ (Instr.lookup 47 (.map (some m)) (.string T) true).run Tryz.prog W = .ok (.tuple #[.agg #[.slice zp zn zc, .string zt, .int .i64 zk, .bool zq, .string zx], .bool SB]) W) (first | (exact HK.out _ HB2.out) | (exact HK.out _ (HB2.out.alloc HB2.out.size _)) | (exact HK.out _ (Below.refl _ _)) | (exact HK.out _ (below_drew w1)) | (exact HK.out _ ((below_drew w1).alloc (Nat.le_refl _) _)) | (exact HK.out _ (set5_below HB2.out (Nat.le_refl _) HB2.out.size _ _ _ _ _)) | (exact HK.out _ (set5_below (HB2.out.alloc HB2.out.size _) (by simpa using HB2.out.size) (by simpa using Nat.le_succ_of_le HB2.out.size) _ _ _ _ _))) (first | (go_at_call 42; refine HS1.out.mono ?_; rintro e w2 ⟨rfl, hb12, -⟩; have HB2 := hid_in hb12; clear hb12) | (go_at_call 42; refine HS2.out.mono ?_; rintro e w2 ⟨rfl, hb12, hb3⟩; rw [HWA.out] at hb3; have hr2 := HRA.out.below ((below_drew WA).trans (hb3.mono (below_drew WA).size)) HRA.out.lt; have HR2 := hid_in hr2; have d0 := hr2.cell 0; have d1 := hr2.cell 1; have d2 := hr2.cell 2; have d3 := hr2.cell 3; have d4 := hr2.cell 4; have f0 := hr2.frozen 0; have f1 := hr2.frozen 1; have f2 := hr2.frozen 2; have f3 := hr2.frozen 3; have f4 := hr2.frozen 4; have HB2 := hid_in hb12; clear hb12 hb3 hr2))
      · go_wp2
        go_meet
        case rel => exact ⟨rfl, w2.heap.size, rfl, Row.new w2 [.slice zp zn zc, .string zt, .int .i64 zk, .bool zq, .string zx] 80, (HX1.out _ (HB2.out.alloc HB2.out.size _)).1, (HX1.out _ (HB2.out.alloc HB2.out.size _)).2⟩
      · go_wp2
        go_meet
        case rel => exact ⟨rfl, w2.heap.size, rfl, Row.new w2 [.slice zp zn zc, .string zt, .int .i64 zk, .bool zq, .string zx] 80, (HX1.out _ (HB2.out.alloc HB2.out.size _)).1, (HX1.out _ (HB2.out.alloc HB2.out.size _)).2⟩
      · go_wp2
        go_meet
        case rel => exact ⟨rfl, w1.heap.size, rfl, (((((HR2.out.set_same 0 _).set_same 1 _).set_same 2 _).set_same 3 _).set_same 4 _), (HX1.out _ (set5_below HB2.out (Nat.le_refl _) HB2.out.size _ _ _ _ _)).1, (HX1.out _ (set5_below HB2.out (Nat.le_refl _) HB2.out.size _ _ _ _ _)).2⟩
    case rest =>
      obtain ⟨rfl, sb, rfl, hrs, hrr, hbb⟩ := hcut
      have r0 := hrr.out.cell 0
      have r1 := hrr.out.cell 1
      have r2 := hrr.out.cell 2
      have r3 := hrr.out.cell 3
      have z0 := hrr.out.frozen 0
      have z1 := hrr.out.frozen 1
      have z2 := hrr.out.frozen 2
      have z3 := hrr.out.frozen 3
      have s1 := hrs.out.cell 1
      have s2 := hrs.out.cell 2
      have s3 := hrs.out.cell 3
      have s4 := hrs.out.cell 4
      go_wp2
      exact post_Row2 4 5 42 rfl w.heap.size rfl 42 [.string zt, .int .i64 zk, .bool zq, .string zx] ((((hrr.out.set_same 0 _).set_same 1 _).set_same 2 _).set_same 3 _) _ Tryz.underlying42 rfl 4 info36 rfl rfl ⟨rfl, (set4_below hbb.out (Nat.le_refl _) hbb.out.size _ _ _ _).1⟩
  · have hsg : spotG L xs = none := if_neg hk
    rw [hsg]
    generalize checkS xs = K at *
    generalize xs.length = nl at *
    clear h hv hl hsg
    go_enter Tryz.func64, Tryz.ntmps64
    go_upto_region 1 with fail
    refine wp_world HW1.out ?_
    have r0 := HR1.out.cell 0
    have r1 := HR1.out.cell 1
    have r2 := HR1.out.cell 2
    have r3 := HR1.out.cell 3
    have z0 := HR1.out.frozen 0
    have z1 := HR1.out.frozen 1
    have z2 := HR1.out.frozen 2
    have z3 := HR1.out.frozen 3
    go_upto_region 2 with (first | (go_at_call 78; refine HCK.out.mono ?_; rintro e w2 ⟨rfl, hw2⟩; replace hw2 := hw2.symm; subst hw2))
    go_wp2
    exact post_Row2 4 5 42 rfl w.heap.size rfl 42 [.string ⟨#[]⟩, .int .i64 0, .bool false, .string ⟨#[]⟩] ((((HR1.out.set_same 0 _).set_same 1 _).set_same 2 _).set_same 3 _) _ Tryz.underlying42 rfl 4 info36 rfl rfl ⟨rfl, (set4_below HB1.out (Nat.le_refl _) HB1.out.size _ _ _ _).1⟩
end Go.Proofs.YtglfeocfhlmloaaGreat.Up
