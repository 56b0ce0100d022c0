/-
  UpperPlays, for every script, all quotas and names.
-/
import Derived.Shelf.SlMaps.Clone
import Derived.Laws.Tables
import Derived.Lib.AppendZeros
import Derived.Deep.DrawnRows
import Derived.Deep.CutRange
import Derived.Laws.CopyOwn
import Derived.Deep.RegionLaw
import Derived.Test.YtglfeocfhlmloaaW00
import Derived.Test.YtglfeocfhlmloaaW01
import Derived.Test.YtglfeocfhlmloaaW02
import Derived.Test.YtglfeocfhlmloaaW03
import Derived.Test.YtglfeocfhlmloaaW04
import Derived.Test.YtglfeocfhlmloaaW05
import Derived.Test.YtglfeocfhlmloaaW06
import Derived.Test.YtglfeocfhlmloaaW07
import Derived.Test.YtglfeocfhlmloaaW08
import Derived.Test.YtglfeocfhlmloaaW09
import Derived.Test.YtglfeocfhlmloaaW10
import Derived.Test.YtglfeocfhlmloaaW11
import Derived.Test.YtglfeocfhlmloaaW12
import Derived.Test.YtglfeocfhlmloaaW13
import Derived.Test.YtglfeocfhlmloaaW14
import Derived.Test.YtglfeocfhlmloaaW15
import Derived.Test.YtglfeocfhlmloaaW16
import Derived.Test.YtglfeocfhlmloaaW17
import Derived.Test.YtglfeocfhlmloaaW18
import Derived.Test.YtglfeocfhlmloaaW19
import Derived.Test.YtglfeocfhlmloaaW20
import Derived.Test.YtglfeocfhlmloaaW21
import Derived.Test.YtglfeocfhlmloaaW22
import Derived.Test.YtglfeocfhlmloaaW23
import Derived.Test.YtglfeocfhlmloaaW24
import Derived.Test.YtglfeocfhlmloaaW25
import Derived.Test.YtglfeocfhlmloaaW26
import Derived.Test.YtglfeocfhlmloaaW27
import Derived.Test.YtglfeocfhlmloaaW28
import Derived.Test.YtglfeocfhlmloaaW29
import Derived.Test.YtglfeocfhlmloaaW30
import Derived.Test.YtglfeocfhlmloaaW31
import Derived.Test.YtglfeocfhlmloaaW32
import Derived.Test.YtglfeocfhlmloaaW33
import Derived.Test.YtglfeocfhlmloaaW34
import Derived.Test.YtglfeocfhlmloaaW35
import Derived.Test.YtglfeocfhlmloaaW36
import Derived.Test.YtglfeocfhlmloaaW37
import Derived.Test.YtglfeocfhlmloaaW38
import Derived.Test.YtglfeocfhlmloaaW39
namespace Go.Proofs.Ytglfeocfhlmloaa.Up
open Go.RowKit
open Vp (Str B bl Val cmpL parseS showS withinS IsPath checkS)
open Nd (Row wp_world post_Row2 grownBy_setCell below_of_grown)
set_option maxHeartbeats 1000000 in
set_option maxRecDepth 100000 in
theorem rnew_bad (n z : Int) (w : World) (h : ¬ quotaOk n z) : Calls Try.prog 10 #[.int .i64 n, .int .i64 z] w fun e w' => e = .returned (.tuple #[.pointer none, .int .i64 1]) ∧ w' = w := by
  unfold quotaOk at h
  by_cases h1 : n < 0
  · clear h
    go_enter Try.func10, Try.ntmps10
    go_wp2
    go_ret2
    exact ⟨rfl, rfl⟩
  · by_cases h2 : z < 0
    · clear h
      go_enter Try.func10, Try.ntmps10
      go_wp2
      go_ret2
      exact ⟨rfl, rfl⟩
    · by_cases h3 : 128 < n
      · clear h
        go_enter Try.func10, Try.ntmps10
        go_wp2
        go_ret2
        exact ⟨rfl, rfl⟩
      · have h4 : 8192 < z := by omega
        clear h
        go_enter Try.func10, Try.ntmps10
        go_wp2
        go_ret2
        exact ⟨rfl, rfl⟩
theorem inoA_form (o : Option Ent) : ∃ T K Q D, inoA o = .agg #[.string T, .int .i64 K, .bool Q, .string D] := by
  cases o with
  | none => exact ⟨_, _, _, _, rfl⟩
  | some e => exact ⟨_, _, _, _, rfl⟩
theorem w_get {w : World} {g m : Nat} {N Z : Int} {A : List Ent} (h : FsA w g m N Z A) (hT : TreeA A) {nv : Value} {xs : List Str} (hv : Val w nv xs) (hl : ∀ x ∈ xs, x.length ≤ 9223372036854775807) :
    Calls Try.prog 13 #[.pointer (some ⟨g, 0, none⟩), nv] w fun e w' => e = .returned (.tuple #[inoA (entAt A xs), .bool (entAt A xs).isSome]) ∧ Below w.heap.size w w' := by
  obtain ⟨L, h1, rfl⟩ := h
  refine (get_wide h1 hv hl).mono ?_
  rintro e w' ⟨rfl, hb⟩
  refine ⟨?_, hb⟩
  have hGL : GoodL (L.map Spot.ent) := fun e he => ⟨(hT.good e he).1, (hT.good e he).2.1⟩
  have hs : (spotG L xs).map Spot.ent = entAt (L.map Spot.ent) xs := by
    unfold spotG
    split
    · exact spotAt_ent L xs
    · rename_i hk
      rw [good_no hGL (.inr hk)]
      rfl
  rw [← hs]
  cases hq : spotG L xs with
  | none => rfl
  | some s =>
    have hm : s ∈ L := by
      unfold spotG at hq
      split at hq
      · exact List.mem_of_find?_eq_some hq
      · cases hq
    have hp := (h1.map.good s hm).1
    show Ending.returned (.tuple #[s.ino, .bool true]) = Ending.returned (.tuple #[s.ent.ino, .bool true])
    unfold Spot.ino Ent.ino Spot.ent
    rw [hp]
theorem below_ent {w : World} {g m : Nat} {N Z : Int} {A es : List Ent} (h : FsA w g m N Z A) (hT : TreeA A) (ho : OrdA A es) {nv : Value} {xs : List Str} (hv : Val w nv xs) :
    Calls Try.prog 16 #[.pointer (some ⟨g, 0, none⟩), nv] w fun e w' => ∃ p c, e = .returned (.slice p (es.filter (belowE xs)).length c) ∧ Fls w' (.slice p (es.filter (belowE xs)).length c) ((es.filter (belowE xs)).map Ent.fil) ∧ Below w.heap.size w w' := by
  obtain ⟨L, h1, rfl⟩ := h
  have hlen := hT.len
  rw [List.length_map] at hlen
  refine (list_any h1 hv (by omega)).mono ?_
  rintro e w' ⟨v, sp, rfl, hf, hp, hs, -, hb, -⟩
  have e1 : sp.map Spot.fil = (sp.map Spot.ent).map Ent.fil := by
    rw [List.map_map]
    exact List.map_congr_left fun s hs => fil_ent (h1.map.good s (List.mem_filter.1 (hp.mem_iff.1 hs)).1).1
  have e2 : sp.map Spot.ent = es.filter (belowE xs) := by
    refine ordA_one (A := (L.map Spot.ent).filter (belowE xs)) (hT.nd.sublist (List.filter_sublist.map _)) ⟨?_, ?_⟩ ⟨ho.1.filter _, ho.2.filter _⟩
    · rw [← belowB_ent]
      exact hp.map _
    · rw [List.pairwise_map]
      exact hs
  rw [e1, e2] at hf
  obtain ⟨p, c, rfl⟩ := hf.form
  rw [List.length_map] at hf ⊢
  exact ⟨p, c, rfl, hf, hb⟩
set_option maxHeartbeats 2000000 in
set_option maxRecDepth 100000 in
theorem plays_bad (n z : Int) (hq : ¬ quotaOk n z) (ss : List Stp) (v nv : Value) (w : World) (h : Stps w v ss) :
    Calls Try.prog 3 #[.int .i64 n, .int .i64 z, v, nv] w fun e w' => e = .returned (.bool true) ∧ Below w.heap.size w w' := by
  have HFI := hid_in (fun W (k : Below w.heap.size w W) => fits_any W _ ss (h.below k))
  obtain ⟨p, c, rfl, hl, hat⟩ := stps_at h
  have HAW := hid_in (awake_any w)
  have HNW := hid_in (fun W => new_bad n z W hq)
  have HNR := hid_in (fun W => rnew_bad n z W hq)
  generalize ss.length = M at *
  clear h hat hl hq
  go_enter Try.func3, Try.ntmps3
  go_upto_region 3 with (go_at_call 7; refine HAW.out.mono ?_; rintro e w1 ⟨rfl, hb1⟩; have HB1 := hid_in hb1; clear hb1)
  go_upto_region 5 with (go_at_call 8; refine (HFI.out _ HB1.out).mono ?_; rintro e w2 ⟨⟨t, rfl⟩, hb2⟩; have HB2 := hid_in (HB1.out.trans (hb2.mono HB1.out.size)); clear hb2; rcases t with _ | _; (focus (go_wp2_with fail; go_ret; exact ⟨rfl, HB2.out⟩)))
  go_wp2_with (first | (go_at_call 9; refine (HNW.out _).mono ?_; rintro e w0 ⟨rfl, hw0⟩; replace hw0 := hw0.symm; subst hw0) | (go_at_call 10; refine (HNR.out _).mono ?_; rintro e w0 ⟨rfl, hw0⟩; replace hw0 := hw0.symm; subst hw0))
  go_ret
  exact ⟨rfl, HB2.out⟩
set_option maxHeartbeats 8000000 in
set_option maxRecDepth 100000 in
theorem plays_ok (n z : Int) (hq : quotaOk n z) (ss : List Stp) (v nv : Value) (xs : List Str) (w : World) (h : Stps w v ss) (hps : ∀ x ∈ ss, x.path.size ≤ 9223372036854775807) (hv : Val w nv xs) (hxl : ∀ x ∈ xs, x.length ≤ 9223372036854775807) :
    Calls Try.prog 3 #[.int .i64 n, .int .i64 z, v, nv] w fun e w' => e = .returned (.bool true) ∧ Below w.heap.size w w' := by
  have HFI := hid_in (fun W (k : Below w.heap.size w W) => fits_any W _ ss (h.below k))
  have HPLAY := hid_in (fun W g m r (k : PlayR w g m r n z W) (hm : w.heap.size ≤ m) (hr : w.heap.size ≤ r) => play_any w W g m r n z k hm hr ss v h hps)
  obtain ⟨p, c, rfl, hl, hat⟩ := stps_at h
  obtain ⟨np, nc, rfl⟩ : ∃ p c, nv = .slice p xs.length c := by obtain ⟨p, c, e, _⟩ := hv; exact ⟨p, c, e⟩
  have HV := hid_in hv
  have HXL := hid_in hxl
  have HAW := hid_in (awake_any w)
  have HNW := hid_in (fun W => new_ok n z W hq)
  have HNR := hid_in (fun W => rnew_ok n z W hq)
  generalize ss.length = M at *
  obtain ⟨xl, HXX⟩ : ∃ xl, Hid (xs.length = xl) := ⟨_, hid_in rfl⟩
  rw [HXX.out] at HV ⊢
  clear h hat hl hq hps hv hxl
  go_enter Try.func3, Try.ntmps3
  go_upto_region 3 with (go_at_call 7; refine HAW.out.mono ?_; rintro e w1 ⟨rfl, hb1⟩; have HB1 := hid_in hb1; clear hb1)
  go_upto_region 5 with (go_at_call 8; refine (HFI.out _ HB1.out).mono ?_; rintro e w2 ⟨⟨t, rfl⟩, hb2⟩; have HB2 := hid_in (HB1.out.trans (hb2.mono HB1.out.size)); clear hb2; rcases t with _ | _; (focus (go_wp2_with fail; go_ret; exact ⟨rfl, HB2.out⟩)))
  go_upto_region 6 with (go_at_call 9; refine (HNW.out _).mono ?_; rintro e w3 ⟨g, m, rfl, hF3, hb3, hm3⟩; have HM := hid_in (Nat.le_trans HB2.out.size hm3); have HF3 : Hid (FsA w3 g m n z []) := hid_in ⟨[], hF3, rfl⟩; have HB3 := hid_in (HB2.out.trans (hb3.mono HB2.out.size)); clear hF3 hb3 hm3)
  go_upto_region 7 with (go_at_call 10; refine (HNR.out _).mono ?_; rintro e w4 ⟨r, rfl, hR4, hb4, hr4⟩; have HR := hid_in (Nat.le_trans HB3.out.size hr4); have HP4 : Hid (PlayR w g m r n z w4) := hid_in ⟨[], [], HF3.out.below hb4, TreeA.nil, ⟨List.Perm.refl _, List.Pairwise.nil⟩, hR4, HB3.out.trans (hb4.mono HB3.out.size)⟩; clear hR4 hb4 hr4)
  clear HAW HFI HNW HNR HB1 HB2 HB3 HF3
  go_upto_region 13 with (first | (go_at_call 11; refine (HPLAY.out _ _ _ _ HP4.out HM.out HR.out).mono ?_; rintro e w5 ⟨rfl, hp5⟩; obtain ⟨A, es, hF5, hT5, ho5, hR5, hb5⟩ := hp5; have HF5 := hid_in hF5; have HT := hid_in hT5; have HO := hid_in ho5; have HR5 := hid_in hR5; have HB5 := hid_in hb5; clear hF5 hT5 ho5 hR5 hb5) | (go_at_call 12; refine (same_any HF5.out HT.out HO.out HR5.out).mono ?_; rintro e w6 ⟨rfl, hb6⟩; have HF6 := hid_in (HF5.out.below hb6); have HR6 := hid_in (HR5.out.below hb6); have HB6 := hid_in (HB5.out.trans (hb6.mono HB5.out.size)); clear hb6))
  have HTE := hid_in (HT.out.perm HO.out.1)
  have HGE : Hid (GoodL es) := hid_in (fun e he => ⟨(HTE.out.good e he).1, (HTE.out.good e he).2.1⟩)
  have HGET := hid_in (fun W (hF : FsA W g m n z A) (hv : Val W (.slice np xl nc) xs) => w_get hF HT.out hv HXL.out)
  have HRGET := hid_in (fun W (hR : RU W r n z es) (hv : Val W (.slice np xl nc) xs) => rget_wide hR HGE.out HTE.out.nd hv HXL.out)
  simp only [at_perm HO.out.1 HT.out.nd] at HRGET
  obtain ⟨T, K, Q, D, hino⟩ := inoA_form (entAt A xs)
  obtain ⟨S, HS⟩ : ∃ S, Hid ((entAt A xs).isSome = S) := ⟨_, hid_in rfl⟩
  rw [hino, HS.out] at HGET HRGET
  have heq : ∀ W, (Op.equalIn 10000 36 (.agg #[.string T, .int .i64 K, .bool Q, .string D]) (.agg #[.string T, .int .i64 K, .bool Q, .string D])).run Try.prog W = .ok true W := fun W => eq36 ⟨T, K, Q, D⟩ W
  have HEQ := hid_in heq
  have HBW := hid_in (fun W (hF : FsA W g m n z A) (hv : Val W (.slice np xl nc) xs) => below_ent hF HT.out HO.out hv)
  have HBR := hid_in (fun W (hR : RU W r n z es) (hv : Val W (.slice np xl nc) xs) => rbelow_any hR HGE.out (tree_len HTE.out) hv)
  obtain ⟨fs, HFS⟩ : ∃ fs, Hid ((es.filter (belowE xs)).map Ent.fil = fs) := ⟨_, hid_in rfl⟩
  obtain ⟨fn, HFN⟩ : ∃ fn, Hid ((es.filter (belowE xs)).length = fn) := ⟨_, hid_in rfl⟩
  rw [HFS.out] at HBW HBR
  rw [HFN.out] at HBW
  clear hino heq HPLAY HP4
  go_upto_region 14 with (first | (go_at_call 13; refine (HGET.out _ HF6.out (HV.out.below HB6.out)).mono ?_; rintro e w7 ⟨rfl, hb7⟩; have HX7 := hid_in hb7; clear hb7) | (refine Nd.wpList_store_new rfl rfl 36 4 _ _ rfl _ [Value.string T, .int .i64 K, .bool Q, .string D] info36 rfl (hid_in rfl) (store36 _ _ _ _) rfl rfl ?_; intro w8 hr8 hb8 hs8; have HX8 := hid_in (HX7.out.trans (hb8.mono HX7.out.size)); have HR8 := hid_in hr8; clear hr8 hb8 hs8))
  have HF8 := hid_in (HF6.out.below HX8.out)
  have HRU8 := hid_in (HR6.out.below HX8.out)
  have HB8 := hid_in (HB6.out.trans (HX8.out.mono HB6.out.size))
  go_upto_region 15 with (first | (go_at_call 14; refine (HRGET.out _ HRU8.out (HV.out.below HB8.out)).mono ?_; rintro e w9 ⟨rfl, hb9⟩; have HX9 := hid_in hb9; clear hb9) | (refine Nd.wpList_store_new rfl rfl 36 4 _ _ rfl _ [Value.string T, .int .i64 K, .bool Q, .string D] info36 rfl (hid_in rfl) (store36 _ _ _ _) rfl rfl ?_; intro w10 hr10 hb10 hs10; have HX10 := hid_in (HX9.out.trans (hb10.mono HX9.out.size)); have HR10 := hid_in hr10; clear hr10 hb10 hs10))
  have HRA := hid_in (HR8.out.below HX10.out HR8.out.lt)
  have a0 := HRA.out.cell 0
  have a1 := HRA.out.cell 1
  have a2 := HRA.out.cell 2
  have a3 := HRA.out.cell 3
  have c0 := HR10.out.cell 0
  have c1 := HR10.out.cell 1
  have c2 := HR10.out.cell 2
  have c3 := HR10.out.cell 3
  have heq := HEQ.out
  have HF10 := hid_in (HF8.out.below HX10.out)
  have HRU10 := hid_in (HRU8.out.below HX10.out)
  have HB10 := hid_in (HB8.out.trans (HX10.out.mono HB8.out.size))
  clear HGET HRGET HEQ
  go_wp2_with (first | (go_at_call 16; refine (HBW.out _ HF10.out (HV.out.below HB10.out)).mono ?_; rintro e x1 ⟨pa, ca, rfl, hfa, hb1⟩; have HFA := hid_in hfa; have HB11 := hid_in (HB10.out.trans (hb1.mono HB10.out.size)); have HRU11 := hid_in (HRU10.out.below hb1); clear hfa hb1) | (go_at_call 17; refine (HBR.out _ HRU11.out (HV.out.below HB11.out)).mono ?_; rintro e x2 ⟨vb, rfl, hfb, hb2⟩; have HFA2 := hid_in (HFA.out.below hb2); have HFB := hid_in hfb.fls; have HB12 := hid_in (HB11.out.trans (hb2.mono HB11.out.size)); obtain ⟨pb, nb, cb, rfl⟩ := fo_shape hfb; clear hfb hb2) | (go_at_call 15; refine (inodes_same fs _ _ _ HFA2.out HFB.out).mono ?_; rintro e x3 ⟨rfl, hb3⟩; have HB13 := hid_in (HB12.out.trans (hb3.mono HB12.out.size)); clear hb3))
  go_ret
  exact ⟨by simp, HB13.out⟩
theorem plays_any (n z : Int) (ss : List Stp) (v nv : Value) (xs : List Str) (w : World) (h : Stps w v ss) (hps : ∀ x ∈ ss, x.path.size ≤ 9223372036854775807) (hv : Val w nv xs) (hxl : ∀ x ∈ xs, x.length ≤ 9223372036854775807) :
    Calls Try.prog 3 #[.int .i64 n, .int .i64 z, v, nv] w fun e w' => e = .returned (.bool true) ∧ Below w.heap.size w w' := by
  by_cases hq : quotaOk n z
  · exact plays_ok n z hq ss v nv xs w h hps hv hxl
  · exact plays_bad n z hq ss v nv w h
end Go.Proofs.Ytglfeocfhlmloaa.Up
