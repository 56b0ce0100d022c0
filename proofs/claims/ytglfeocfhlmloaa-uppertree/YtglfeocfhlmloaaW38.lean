/-
  Check of names of any length. Get of names of any length.
-/
import Derived.Lib.AppendZeros
import Derived.Deep.DrawnRows
import Derived.Laws.CopyOwn
import Derived.Deep.RegionLaw
import Derived.Laws.Tables
import Derived.Test.YtglfeocfhlmloaaW00
import Derived.Test.YtglfeocfhlmloaaW01
import Derived.Test.YtglfeocfhlmloaaW02
import Derived.Test.YtglfeocfhlmloaaW03
import Derived.Test.YtglfeocfhlmloaaW04
import Derived.Test.YtglfeocfhlmloaaW05
import Derived.Test.YtglfeocfhlmloaaW06
import Derived.Test.YtglfeocfhlmloaaW07
import Derived.Test.YtglfeocfhlmloaaW08
import Derived.Test.YtglfeocfhlmloaaW09
import Derived.Test.YtglfeocfhlmloaaW10
import Derived.Test.YtglfeocfhlmloaaW11
import Derived.Test.YtglfeocfhlmloaaW12
import Derived.Test.YtglfeocfhlmloaaW13
import Derived.Test.YtglfeocfhlmloaaW14
import Derived.Test.YtglfeocfhlmloaaW15
namespace Go.Proofs.Ytglfeocfhlmloaa.Vp
open Go.RowKit
set_option maxHeartbeats 400000 in
set_option maxRecDepth 100000 in
theorem check_w {xs : List Str} {u : Value} {w : World} (hx : Val w u xs) (hl : ∀ x ∈ xs, x.length ≤ 9223372036854775807) : Calls Try.prog 33 #[u] w fun e w' => e = .returned (.int .i64 (checkS xs)) ∧ w' = w := by
  obtain ⟨p, cap, b, o, rfl, hle, hbig, hp, hc⟩ := val_at hx
  obtain ⟨R, hR⟩ : ∃ R, Hid (R = checkS xs) := ⟨_, rfl⟩
  rw [← hR.out]
  have HC := hid_in hc
  have HP := hid_in hp
  have HL := hid_in hl
  have hb1 : xs.length ≤ 9223372036854775807 := by omega
  generalize hn : xs.length = n at *
  have Hn := hid_in hn
  clear hn hc hp hx hl
  go_enter Try.func33, Try.ntmps33
  go_wp2_with fail
  go_loopw [7] (fun vi w' => w' = w ∧ ∃ i : Nat, i ≤ n ∧ vi = .int .i64 (i : Int) ∧ Hid ((xs.take i).all isNameS = true)) (fun vi _ => n - (intOf vi).toNat)
  case atStart => exact ⟨rfl, 0, by omega, rfl, rfl⟩
  case round =>
    obtain ⟨hw, i, hi, rfl, hall⟩ := hrel
    obtain rfl := hw.symm
    by_cases hlt : i < n
    · obtain ⟨x, hxi⟩ : ∃ d, xs[i]? = some d := ⟨_, List.getElem?_eq_getElem (by rw [Hn.out]; exact hlt)⟩
      have cx := HC.out i x hxi
      obtain rfl := HP.out (by rintro rfl; simp at hxi)
      have HN := hid_in (isName_any x (HL.out x (List.mem_of_getElem? hxi)))
      have HX := hid_in hxi
      clear hxi
      cases hnm : isNameS x
      · rw [hnm] at HN
        have HNM := hid_in hnm
        clear hnm
        go_wp2_with (go_at_call 53; refine (HN.out _).mono ?_; rintro e w' ⟨rfl, hw⟩; obtain rfl := hw.symm)
        go_ret
        refine ⟨congrArg (fun z => Ending.returned (Value.int .i64 z)) (Eq.trans ?_ hR.out.symm), rfl⟩
        unfold checkS
        rw [if_pos (allS_no HX.out HNM.out)]
      · rw [hnm] at HN
        have hsn : Hid ((xs.take (i + 1)).all isNameS = true) := allS_snoc HX.out hall.out hnm
        clear hnm
        go_wp2_with (go_at_call 53; refine (HN.out _).mono ?_; rintro e w' ⟨rfl, hw⟩; obtain rfl := hw.symm)
        go_roundw
        case rel =>
          go_light
          exact ⟨trivial, i + 1, by omega, by go_num, hsn⟩
        case measure => simp [intOf]; omega
    · have hin : i = n := by omega
      subst hin
      have HA : Hid (R = if 8 < i then 42 else 0) := by
        show _ = _
        rw [hR.out]
        have := hall.out
        rw [List.take_of_length_le (by rw [Hn.out]; omega)] at this
        unfold checkS
        rw [if_neg (by rw [this]; simp), Hn.out]
      clear hR
      by_cases h8 : 8 < i
      · have HA2 := hid_in (HA.out.trans (if_pos h8))
        go_wp2_with fail
        go_ret
        refine ⟨congrArg (fun z => Ending.returned (Value.int .i64 z)) (Eq.trans ?_ HA2.out.symm), rfl⟩
        rfl
      · have HA2 := hid_in (HA.out.trans (if_neg h8))
        go_wp2_with fail
        go_ret
        refine ⟨congrArg (fun z => Ending.returned (Value.int .i64 z)) (Eq.trans ?_ HA2.out.symm), rfl⟩
        rfl
set_option maxHeartbeats 400000 in
set_option maxRecDepth 100000 in
theorem rcheck_w {xs : List Str} {u : Value} {w : World} (hx : Val w u xs) (hl : ∀ x ∈ xs, x.length ≤ 9223372036854775807) : Calls Try.prog 55 #[u] w fun e w' => e = .returned (.int .i64 (checkS xs)) ∧ w' = w := by
  obtain ⟨p, cap, b, o, rfl, hle, hbig, hp, hc⟩ := val_at hx
  obtain ⟨R, hR⟩ : ∃ R, Hid (R = checkS xs) := ⟨_, rfl⟩
  rw [← hR.out]
  have HC := hid_in hc
  have HP := hid_in hp
  have HL := hid_in hl
  have hb1 : xs.length ≤ 9223372036854775807 := by omega
  generalize hn : xs.length = n at *
  have Hn := hid_in hn
  clear hn hc hp hx hl
  go_enter Try.func55, Try.ntmps55
  go_wp2_with fail
  go_loopw [3] (fun vi w' => w' = w ∧ ∃ i : Nat, i ≤ n ∧ vi = .int .i64 (i : Int) ∧ Hid ((xs.take i).all isNameS = true)) (fun vi _ => n - (intOf vi).toNat)
  case atStart => exact ⟨rfl, 0, by omega, rfl, rfl⟩
  case round =>
    obtain ⟨hw, i, hi, rfl, hall⟩ := hrel
    obtain rfl := hw.symm
    by_cases hlt : i < n
    · obtain ⟨x, hxi⟩ : ∃ d, xs[i]? = some d := ⟨_, List.getElem?_eq_getElem (by rw [Hn.out]; exact hlt)⟩
      have cx := HC.out i x hxi
      obtain rfl := HP.out (by rintro rfl; simp at hxi)
      have HN := hid_in (rname_any x (HL.out x (List.mem_of_getElem? hxi)))
      have HX := hid_in hxi
      clear hxi
      cases hnm : isNameS x
      · rw [hnm] at HN
        have HNM := hid_in hnm
        clear hnm
        go_wp2_with (go_at_call 74; refine (HN.out _).mono ?_; rintro e w' ⟨rfl, hw⟩; obtain rfl := hw.symm)
        go_ret
        refine ⟨congrArg (fun z => Ending.returned (Value.int .i64 z)) (Eq.trans ?_ hR.out.symm), rfl⟩
        unfold checkS
        rw [if_pos (allS_no HX.out HNM.out)]
      · rw [hnm] at HN
        have hsn : Hid ((xs.take (i + 1)).all isNameS = true) := allS_snoc HX.out hall.out hnm
        clear hnm
        go_wp2_with (go_at_call 74; refine (HN.out _).mono ?_; rintro e w' ⟨rfl, hw⟩; obtain rfl := hw.symm)
        go_roundw
        case rel =>
          go_light
          exact ⟨trivial, i + 1, by omega, by go_num, hsn⟩
        case measure => simp [intOf]; omega
    · have hin : i = n := by omega
      subst hin
      have HA : Hid (R = if 8 < i then 42 else 0) := by
        show _ = _
        rw [hR.out]
        have := hall.out
        rw [List.take_of_length_le (by rw [Hn.out]; omega)] at this
        unfold checkS
        rw [if_neg (by rw [this]; simp), Hn.out]
      clear hR
      by_cases h8 : 8 < i
      · have HA2 := hid_in (HA.out.trans (if_pos h8))
        go_wp2_with fail
        go_ret
        refine ⟨congrArg (fun z => Ending.returned (Value.int .i64 z)) (Eq.trans ?_ HA2.out.symm), rfl⟩
        rfl
      · have HA2 := hid_in (HA.out.trans (if_neg h8))
        go_wp2_with fail
        go_ret
        refine ⟨congrArg (fun z => Ending.returned (Value.int .i64 z)) (Eq.trans ?_ HA2.out.symm), rfl⟩
        rfl
end Go.Proofs.Ytglfeocfhlmloaa.Vp
namespace Go.Proofs.Ytglfeocfhlmloaa.Up
open Go.RowKit
open Vp (Str B bl Val cmpL parseS showS withinS IsPath checkS)
open Nd (Row wp_world post_Row2 grownBy_setCell below_of_grown)
set_option maxHeartbeats 2000000 in
set_option maxRecDepth 100000 in
theorem get_wide {w : World} {g m : Nat} {N Z : Int} {L : List Spot} (h : Fs w g m N Z L) {nv : Value} {xs : List Str} (hv : Val w nv xs) (hl : ∀ x ∈ xs, x.length ≤ 9223372036854775807) :
    Calls Try.prog 13 #[.pointer (some ⟨g, 0, none⟩), nv] w fun e w' => e = .returned (.tuple #[((spotG L xs).getD Spot.zero).ino, .bool (spotG L xs).isSome]) ∧ Below w.heap.size w w' := by
  obtain ⟨np, nc, rfl⟩ : ∃ p c, nv = .slice p xs.length c := by obtain ⟨p, c, e, _⟩ := hv; exact ⟨p, c, e⟩
  have H := hid_in h
  obtain ⟨w1, HW1⟩ : ∃ w1, Hid (w.alloc (.cells #[.string ⟨#[]⟩, .int .i64 0, .bool false, .string ⟨#[]⟩] 36) = w1) := ⟨_, hid_in rfl⟩
  have HB1 : Hid (Below w.heap.size w w1) := by rw [← HW1.out]; exact (Below.refl _ _).alloc (Nat.le_refl _) _
  have HR1 : Hid (Row w1 w.heap.size [.string ⟨#[]⟩, .int .i64 0, .bool false, .string ⟨#[]⟩] 36) := by rw [← HW1.out]; exact Row.new w [.string ⟨#[]⟩, .int .i64 0, .bool false, .string ⟨#[]⟩] 36
  have HCK := hid_in (Vp.check_w (hv.below HB1.out) hl)
  by_cases hk : checkS xs = 0
  · have hx := (check_gp xs).1 hk
    have hsg : spotG L xs = spotAt L xs := if_pos hk
    rw [hsg]
    rw [hk] at HCK
    obtain ⟨WA, HWA⟩ : ∃ WA, Hid (w1.alloc (.cells #[.slice none 0 0, .string ⟨#[]⟩, .int .i64 0, .bool false, .string ⟨#[]⟩] 63) = WA) := ⟨_, hid_in rfl⟩
    have HBA : Hid (Below w1.heap.size w1 WA) := by rw [← HWA.out]; exact (Below.refl _ _).alloc (Nat.le_refl _) _
    have HRA : Hid (Row WA w1.heap.size [.slice none 0 0, .string ⟨#[]⟩, .int .i64 0, .bool false, .string ⟨#[]⟩] 63) := by rw [← HWA.out]; exact Row.new w1 [.slice none 0 0, .string ⟨#[]⟩, .int .i64 0, .bool false, .string ⟨#[]⟩] 63
    have HS1 := hid_in (show_at (hv.below HB1.out) hx w1.drew (below_drew w1))
    have HS2 := hid_in (show_at (hv.below HB1.out) hx WA.drew (below_drewN HBA.out 1))
    rw [← HWA.out] at HS2
    obtain ⟨zp, zn, zc, zt, zk, zq, zx, HZ, e1, e2, e3, e4⟩ := spot_form h.map xs
    have HZ := hid_in HZ
    obtain ⟨SB, HSB⟩ : ∃ SB, Hid ((spotAt L xs).isSome = SB) := ⟨_, hid_in rfl⟩
    unfold Spot.ino
    rw [e1, e2, e3, e4, HSB.out]
    have HL := hid_in (fun W (k : Below w.heap.size w W) => Fs.look2 (h.below k).map xs hx)
    rw [HZ.out, HSB.out] at HL
    have HK := hid_in (fun W (k : Below w1.heap.size w1 W) => And.intro (H.out.below (HB1.out.trans (k.mono HB1.out.size))).cell.2.2 (HL.out W (HB1.out.trans (k.mono HB1.out.size))))
    generalize B (showS xs) = T at *
    generalize xs.length = nl at *
    clear h hv hx hl hk hsg e1 e2 e3 e4
    go_enter Try.func13, Try.ntmps13
    go_upto_region 1 with fail
    refine wp_world HW1.out ?_
    go_upto_region 3 with (first | (go_at_call 33; refine HCK.out.mono ?_; rintro e w2 ⟨rfl, hw2⟩; replace hw2 := hw2.symm; subst hw2))
    go_cut [6, 7] from 16 to 25 (fun v6 v7 W => v7 = .bool SB ∧ ∃ sb, v6 = .pointer (some ⟨sb, 0, none⟩) ∧ Hid (Row W sb [.slice zp zn zc, .string zt, .int .i64 zk, .bool zq, .string zx] 63) ∧ Hid (Row W w.heap.size [.string ⟨#[]⟩, .int .i64 0, .bool false, .string ⟨#[]⟩] 36) ∧ Hid (Below w.heap.size w W))
    case first =>
      have HX1 := hid_in (fun W (k : Below w1.heap.size w1 W) => And.intro (HR1.out.below k HR1.out.lt) (HB1.out.trans (k.mono HB1.out.size)))
      go_region_held3 (fun W => W.cell? ⟨g, 2, none⟩ = some (.map (some m)) ∧ (Instr.lookup 56 (.map (some m)) (.string T) true).run Try.prog W = .ok (.tuple #[.agg #[.slice zp zn zc, .string zt, .int .i64 zk, .bool zq, .string zx], .bool SB]) W) (first | (exact HK.out _ HB2.out) | (exact HK.out _ (HB2.out.alloc HB2.out.size _)) | (exact HK.out _ (Below.refl _ _)) | (exact HK.out _ (below_drew w1)) | (exact HK.out _ ((below_drew w1).alloc (Nat.le_refl _) _)) | (exact HK.out _ (set5_below HB2.out (Nat.le_refl _) HB2.out.size _ _ _ _ _)) | (exact HK.out _ (set5_below (HB2.out.alloc HB2.out.size _) (by simpa using HB2.out.size) (by simpa using Nat.le_succ_of_le HB2.out.size) _ _ _ _ _))) (first | (go_at_call 34; refine HS1.out.mono ?_; rintro e w2 ⟨rfl, hb12, -⟩; have HB2 := hid_in hb12; clear hb12) | (go_at_call 34; refine HS2.out.mono ?_; rintro e w2 ⟨rfl, hb12, hb3⟩; rw [HWA.out] at hb3; have hr2 := HRA.out.below ((below_drew WA).trans (hb3.mono (below_drew WA).size)) HRA.out.lt; have HR2 := hid_in hr2; have d0 := hr2.cell 0; have d1 := hr2.cell 1; have d2 := hr2.cell 2; have d3 := hr2.cell 3; have d4 := hr2.cell 4; have f0 := hr2.frozen 0; have f1 := hr2.frozen 1; have f2 := hr2.frozen 2; have f3 := hr2.frozen 3; have f4 := hr2.frozen 4; have HB2 := hid_in hb12; clear hb12 hb3 hr2))
      · go_wp2
        go_meet
        case rel => exact ⟨rfl, w2.heap.size, rfl, Row.new w2 [.slice zp zn zc, .string zt, .int .i64 zk, .bool zq, .string zx] 63, (HX1.out _ (HB2.out.alloc HB2.out.size _)).1, (HX1.out _ (HB2.out.alloc HB2.out.size _)).2⟩
      · go_wp2
        go_meet
        case rel => exact ⟨rfl, w2.heap.size, rfl, Row.new w2 [.slice zp zn zc, .string zt, .int .i64 zk, .bool zq, .string zx] 63, (HX1.out _ (HB2.out.alloc HB2.out.size _)).1, (HX1.out _ (HB2.out.alloc HB2.out.size _)).2⟩
      · go_wp2
        go_meet
        case rel => exact ⟨rfl, w1.heap.size, rfl, (((((HR2.out.set_same 0 _).set_same 1 _).set_same 2 _).set_same 3 _).set_same 4 _), (HX1.out _ (set5_below HB2.out (Nat.le_refl _) HB2.out.size _ _ _ _ _)).1, (HX1.out _ (set5_below HB2.out (Nat.le_refl _) HB2.out.size _ _ _ _ _)).2⟩
    case rest =>
      obtain ⟨rfl, sb, rfl, hrs, hrr, hbb⟩ := hcut
      have r0 := hrr.out.cell 0
      have r1 := hrr.out.cell 1
      have r2 := hrr.out.cell 2
      have r3 := hrr.out.cell 3
      have z0 := hrr.out.frozen 0
      have z1 := hrr.out.frozen 1
      have z2 := hrr.out.frozen 2
      have z3 := hrr.out.frozen 3
      have s1 := hrs.out.cell 1
      have s2 := hrs.out.cell 2
      have s3 := hrs.out.cell 3
      have s4 := hrs.out.cell 4
      go_wp2
      exact post_Row2 4 5 36 rfl w.heap.size rfl 36 [.string zt, .int .i64 zk, .bool zq, .string zx] ((((hrr.out.set_same 0 _).set_same 1 _).set_same 2 _).set_same 3 _) _ Try.underlying36 rfl 4 info36 rfl rfl ⟨rfl, (set4_below hbb.out (Nat.le_refl _) hbb.out.size _ _ _ _).1⟩
  · have hsg : spotG L xs = none := if_neg hk
    rw [hsg]
    generalize checkS xs = K at *
    generalize xs.length = nl at *
    clear h hv hl hsg
    go_enter Try.func13, Try.ntmps13
    go_upto_region 1 with fail
    refine wp_world HW1.out ?_
    have r0 := HR1.out.cell 0
    have r1 := HR1.out.cell 1
    have r2 := HR1.out.cell 2
    have r3 := HR1.out.cell 3
    have z0 := HR1.out.frozen 0
    have z1 := HR1.out.frozen 1
    have z2 := HR1.out.frozen 2
    have z3 := HR1.out.frozen 3
    go_upto_region 2 with (first | (go_at_call 33; refine HCK.out.mono ?_; rintro e w2 ⟨rfl, hw2⟩; replace hw2 := hw2.symm; subst hw2))
    go_wp2
    exact post_Row2 4 5 36 rfl w.heap.size rfl 36 [.string ⟨#[]⟩, .int .i64 0, .bool false, .string ⟨#[]⟩] ((((HR1.out.set_same 0 _).set_same 1 _).set_same 2 _).set_same 3 _) _ Try.underlying36 rfl 4 info36 rfl rfl ⟨rfl, (set4_below HB1.out (Nat.le_refl _) HB1.out.size _ _ _ _).1⟩
end Go.Proofs.Ytglfeocfhlmloaa.Up
