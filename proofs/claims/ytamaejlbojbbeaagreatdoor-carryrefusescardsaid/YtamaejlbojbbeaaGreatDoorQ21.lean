/-
  addTree, put. put: all blobs of a batch. parse: the paths of a list. The walks of the reference's Show and Parse. The walks of Check and Split, of the reference's Check. The directory's text of a path; the two checks that look at a path alone.
-/
import Derived.Laws.EntriesVeiled
import Derived.Deep.CutRange
import Derived.Test.YtamaejlbojbbeaaGreatDoorQ00
import Derived.Test.YtamaejlbojbbeaaGreatDoorQ01
import Derived.Test.YtamaejlbojbbeaaGreatDoorQ02
import Derived.Test.YtamaejlbojbbeaaGreatDoorQ03
import Derived.Test.YtamaejlbojbbeaaGreatDoorQ04
import Derived.Test.YtamaejlbojbbeaaGreatDoorQ05
import Derived.Test.YtamaejlbojbbeaaGreatDoorQ06
import Derived.Test.YtamaejlbojbbeaaGreatDoorQ07
import Derived.Test.YtamaejlbojbbeaaGreatDoorQ08
import Derived.Test.YtamaejlbojbbeaaGreatDoorQ09
import Derived.Test.YtamaejlbojbbeaaGreatDoorQ10
import Derived.Test.YtamaejlbojbbeaaGreatDoorQ11
import Derived.Test.YtamaejlbojbbeaaGreatDoorQ12
import Derived.Test.YtamaejlbojbbeaaGreatDoorQ13
import Derived.Test.YtamaejlbojbbeaaGreatDoorQ14
import Derived.Test.YtamaejlbojbbeaaGreatDoorQ15
import Derived.Test.YtamaejlbojbbeaaGreatDoorQ16
import Derived.Test.YtamaejlbojbbeaaGreatDoorQ17
import Derived.Test.YtamaejlbojbbeaaGreatDoorQ18
import Derived.Test.YtamaejlbojbbeaaGreatDoorQ19
import Derived.Test.YtamaejlbojbbeaaGreatDoorQ20
namespace Go.Proofs.YtamaejlbojbbeaaGreatDoor.Tr
open Go.RowKit
open Sb (hid_in Row Sl T5 BL u8v Tab wp_world grownBy_setCell below_of_grown info39 one_u8 splice_all)
theorem Fr.newS {g sb : Nat} {w W W' : World} (h : Fr (fun _ => False) g w W) (k : Fr (· = sb) g W W') (hs : w.heap.size ≤ sb) : Fr (fun _ => False) g w W' :=
  ⟨k.os.trans h.os, k.tape.trans h.tape, k.output.trans h.output, Nat.le_trans h.size k.size, fun j hj h1 h2 h3 => by
    rw [k.block j (Nat.lt_of_lt_of_le hj h.size) (fun e => by have e' : j = sb := e; omega) h2 (fun e => h3 (h.own j hj e))]
    exact h.block j hj h1 h2 h3, fun j hj e => h.own j hj (k.own j (Nat.lt_of_lt_of_le hj h.size) e)⟩
set_option maxHeartbeats 2000000 in
set_option maxRecDepth 100000 in
theorem addTree_any (w : World) (base g : Nat) (L : List (List Nat)) (sv : Value) (sp : List Spot) (hbt : Bt w base g L) (htab : Tab w) (hb0 : 0 < base) (hbw : base ≤ w.heap.size) (hsp : Sps w sv sp) (hnd : (sp.map Spot.names).Nodup) (hni : [] ∉ sp.map Spot.names) (hda : ∀ s ∈ sp, s.data.size ≤ 1024) (hsh : ∀ s ∈ sp, ∀ x ∈ s.names, (Vp.B x).size ≤ 9223372036854775807) (hlen : L.length + 18 * sp.length + 1 ≤ 1000000)
    (V : List Value) (HV : Hid (V = (walkT (sp.length + 1) [] sp []).2.1.map u8v)) :
    Calls Tryz.prog 43 #[.pointer (some ⟨g, 0, none⟩), sv] w fun e w' => e = .returned (.agg V.toArray) ∧ Bt w' base g (L ++ (walkT (sp.length + 1) [] sp []).1) ∧ Fr (fun _ => False) g w w' := by
  obtain ⟨Z, hz, hzl⟩ := Sb.zero39
  have HVL : Hid (V.length = 32) := hid_in (by rw [HV.out, List.length_map]; exact walkT_sum (Nat.lt_succ_self _))
  have HV1 : Hid (∀ v ∈ V, v.oneCell' = true) := hid_in (by rw [HV.out]; exact one_u8 _)
  have HZL := hid_in hzl
  have HNEXT : Hid (∀ W, Below w.heap.size w W → Boxed W (w.heap.size + 1) 86 sv → Boxed W w.heap.size 174 (.pointer (some ⟨g, 0, none⟩)) → Boxed W (w.heap.size + 1 + 1 + 1) 175 (.func (.func 95) #[] #[.pointer (some ⟨w.heap.size + 1, 0, none⟩), .pointer (some ⟨w.heap.size + 1 + 1 + 1, 0, none⟩), .pointer (some ⟨w.heap.size, 0, none⟩)]) → Row W (w.heap.size + 1 + 1) Z 30 →
      Calls Tryz.prog 95 #[.slice none 0 0, .pointer (some ⟨w.heap.size + 1, 0, none⟩), .pointer (some ⟨w.heap.size + 1 + 1 + 1, 0, none⟩), .pointer (some ⟨w.heap.size, 0, none⟩)] W fun e w' => e = .returned (.agg V.toArray) ∧ Row w' (w.heap.size + 1 + 1) Z 30 ∧ Bt w' base g (L ++ (walkT (sp.length + 1) [] sp []).1) ∧ Fr (fun _ => False) g w w') := by
    intro W hB h1 h2 h3 h4
    refine Calls.mono (addDir_any (sp.length + 1) W base g (w.heap.size + 1) (w.heap.size + 1 + 1 + 1) w.heap.size L (.slice none 0 0) [] sv sp (Nat.lt_succ_self _) ⟨hbt.below hB, htab.below hB htab.pos, hb0, Nat.le_trans hbw hB.size, h1, hsp.below hB, h3, h2, Nm.nil W, hnd, hni, hda, hsh, hlen, by omega⟩) ?_
    rintro e w' ⟨rfl, hbt', _, hfr'⟩
    exact ⟨by rw [HV.out], hfr'.row (hbt.below hB) h4 (by decide) (by decide) (fun e => by have e' : w.heap.size + 1 + 1 = w.heap.size + 1 := e; omega), hbt', (Fr.of_below hB hbt.lt).newS hfr' (by omega)⟩
  obtain ⟨p1, c1, b1, o1, rfl, -⟩ := hsp
  have HGW := hid_in hbt.lt
  clear hbt htab hb0 hbw hnd hni hda hsh hlen hzl
  generalize sp.length = ln at *
  go_enter Tryz.func43, Tryz.ntmps43
  go_upto_region 2 with fail
  obtain ⟨W3, HW3⟩ : ∃ W3, Hid ((((w.alloc (.cells #[.pointer (some ⟨g, 0, none⟩)] 174)).alloc (.cells #[.slice p1 ln c1] 86)).alloc (.cells Z.toArray 30)).alloc (.cells #[.nilFunc] 175) = W3) := ⟨_, hid_in rfl⟩
  have hB3 : Below w.heap.size w W3 := by rw [← HW3.out]; exact ((((Below.refl _ _).alloc (Nat.le_refl _) _).alloc (by simp) _).alloc (by simp; omega) _).alloc (by simp; omega) _
  have h0 : Boxed W3 w.heap.size 174 (.pointer (some ⟨g, 0, none⟩)) := by rw [← HW3.out]; exact (((Boxed.new w 174 _).alloc _).alloc _).alloc _
  have h1 : Boxed W3 (w.heap.size + 1) 86 (.slice p1 ln c1) := by
    rw [← HW3.out]
    have h := Boxed.new (w.alloc (.cells #[.pointer (some ⟨g, 0, none⟩)] 174)) 86 (.slice p1 ln c1)
    rw [World.size_alloc] at h
    exact (h.alloc _).alloc _
  have h2 : Row W3 (w.heap.size + 1 + 1) Z 30 := by rw [← HW3.out]; exact (Row.newAt _ _ Z 30 (by simp)).alloc _
  have h3 : Boxed W3 (w.heap.size + 1 + 1 + 1) 175 .nilFunc := by
    rw [← HW3.out]
    have h := Boxed.new (((w.alloc (.cells #[.pointer (some ⟨g, 0, none⟩)] 174)).alloc (.cells #[.slice p1 ln c1] 86)).alloc (.cells Z.toArray 30)) 175 .nilFunc
    simp only [World.size_alloc] at h
    exact h
  refine wp_world HW3.out ?_
  have c3 := h3.cell
  have f3 := h3.frozen
  have HB3 := hid_in hB3
  have H0 := hid_in h0
  have H1 := hid_in h1
  have H2 := hid_in h2
  have H3 := hid_in h3
  clear HW3 hB3 h0 h1 h2 h3 hz
  go_upto_region 3 with fail
  obtain ⟨W4, HW4⟩ : ∃ W4, Hid (W3.setCell ⟨w.heap.size + 1 + 1 + 1, 0, none⟩ (.func (.func 95) #[] #[.pointer (some ⟨w.heap.size + 1, 0, none⟩), .pointer (some ⟨w.heap.size + 1 + 1 + 1, 0, none⟩), .pointer (some ⟨w.heap.size, 0, none⟩)]) = W4) := ⟨_, hid_in rfl⟩
  have b3 : Boxed W4 (w.heap.size + 1 + 1 + 1) 175 (.func (.func 95) #[] #[.pointer (some ⟨w.heap.size + 1, 0, none⟩), .pointer (some ⟨w.heap.size + 1 + 1 + 1, 0, none⟩), .pointer (some ⟨w.heap.size, 0, none⟩)]) := by rw [← HW4.out]; exact H3.out.set _
  have b2 : Row W4 (w.heap.size + 1 + 1) Z 30 := by rw [← HW4.out]; exact H2.out.set_other _ _ (by simp)
  have b1 : Boxed W4 (w.heap.size + 1) 86 (.slice p1 ln c1) := by rw [← HW4.out]; exact H1.out.other (by omega) _
  have b0 : Boxed W4 w.heap.size 174 (.pointer (some ⟨g, 0, none⟩)) := by rw [← HW4.out]; exact H0.out.other (by omega) _
  have bB : Below w.heap.size w W4 := by rw [← HW4.out]; exact HB3.out.setCell (by simp; omega) _
  refine wp_world HW4.out ?_
  have c4 := b3.cell
  have HCALL := hid_in (HNEXT.out W4 bB b1 b0 b3 b2)
  clear HW4 b0 b1 b2 b3 bB c3 f3 H0 H1 H2 H3 HB3 HNEXT
  go_wp2_with (first | (go_at_call 95; refine HCALL.out.mono ?_; rintro e w7 ⟨rfl, hz7, hbt7, hfr7⟩; have HBT7 := hid_in hbt7; have HFR7 := hid_in hfr7; have HZ7 := hid_in hz7; clear hbt7 hfr7) | (refine Sb.wpList_store_Row rfl 30 _ _ rfl (w.heap.size + 1 + 1) 0 V rfl rfl 30 Z hz7 32 info39 HVL.out (by rw [HZL.out]; decide) HV1.out ?_; intro w8 hr8 hg8 hs8; rw [splice_all _ _ (by rw [HVL.out, HZL.out])] at hr8))
  refine Sb.post_Row 4 30 rfl (w.heap.size + 1 + 1) rfl 30 V hr8 _ Tryz.underlying30 rfl 32 info39 HVL.out rfl ⟨rfl, HBT7.out.other hg8 (fun k e => ?_), HFR7.out.of_new hg8 (by omega) HGW.out⟩
  obtain rfl := Option.some.inj e
  exact ⟨by have := HGW.out; omega, not51 HZ7.out (by decide), not5_97 HZ7.out (by decide)⟩
end Go.Proofs.YtamaejlbojbbeaaGreatDoor.Tr
namespace Go.Proofs.YtamaejlbojbbeaaGreatDoor.Tr
open Go.RowKit
open Sb (hid_in Row Sl T5 BL u8v Tab wp_world grownBy_setCell below_of_grown info39 one_u8 splice_all St Kp needI layI cntI)
theorem putAll_full {w : World} {g m n : Nat} {M : List Nat → Option (List Nat)} {q u : Int} (h : St w g m M n q u) (htab : Tab w) (L : List (List Nat)) (v : Value) (hBL : BL w v L) (hl : ∀ b ∈ L, b.length ≤ 4096) (hn : L.length ≤ 4194304) (hu0 : 0 ≤ u) (huq : u ≤ q) (hq : q ≤ 9223372036854775807) (hfull : q - u < needI M L L.length) :
    Calls Tryz.prog 98 #[.pointer (some ⟨g, 0, none⟩), v] w fun e w' => e = .returned (.int .i64 3) ∧ Below w.heap.size w w' := by
  have HP := hid_in (Sb.put_all_full h htab L v hBL hl hn hu0 huq hq _ (hid_in rfl) hfull)
  obtain ⟨p, cap, b, o, rfl, -⟩ := hBL
  clear h htab hl hfull hn
  go_enter Tryz.func98, Tryz.ntmps98
  go_wp2_with (go_at_call 59; refine HP.out.mono ?_; rintro e w1 ⟨rfl, hb⟩)
  go_ret
  exact ⟨rfl, hb⟩
theorem putAll_ok {w : World} {g m n : Nat} {M : List Nat → Option (List Nat)} {q u : Int} (h : St w g m M n q u) (htab : Tab w) (L : List (List Nat)) (v : Value) (hBL : BL w v L) (hl : ∀ b ∈ L, b.length ≤ 4096) (hn : L.length ≤ 4194304) (hu0 : 0 ≤ u) (huq : u ≤ q) (hq : q ≤ 9223372036854775807) (hfull : needI M L L.length ≤ q - u) :
    Calls Tryz.prog 98 #[.pointer (some ⟨g, 0, none⟩), v] w fun e w' => e = .returned (.int .i64 0) ∧ St w' g m (layI M L L.length) (cntI M n L L.length) q (u + needI M L L.length) ∧ Kp g m w w' := by
  have HP := hid_in (Sb.put_all_ok h htab L v hBL hl hn hu0 huq hq _ (hid_in rfl) hfull)
  obtain ⟨p, cap, b, o, rfl, -⟩ := hBL
  clear h htab hl hfull hn
  go_enter Tryz.func98, Tryz.ntmps98
  go_wp2_with (go_at_call 59; refine HP.out.mono ?_; rintro e w1 ⟨⟨z, rfl⟩, hst, hk⟩; have HST := hid_in hst; have HK := hid_in hk; clear hst hk)
  go_ret
  exact ⟨rfl, HST.out, HK.out⟩
set_option maxHeartbeats 1000000 in
set_option maxRecDepth 100000 in
theorem bput_full {w : World} {gs ms n base g : Nat} {M : List Nat → Option (List Nat)} {q u : Int} {L : List (List Nat)} (h : St w gs ms M n q u) (htab : Tab w) (hbt : Bt w base g L) (hl : ∀ b ∈ L, b.length ≤ 4096) (hn : L.length ≤ 4194304) (hu0 : 0 ≤ u) (huq : u ≤ q) (hq : q ≤ 9223372036854775807) (hfull : q - u < needI M L L.length) (V Z : List Value) (_HVL : Hid (V.length = 32)) (HZ : Hid (Z = (List.replicate 32 0).map u8v)) :
    Calls Tryz.prog 44 #[.pointer (some ⟨g, 0, none⟩), .pointer (some ⟨gs, 0, none⟩), .agg V.toArray] w fun e w' => e = .returned (.tuple #[.agg Z.toArray, .int .i64 3]) ∧ Below w.heap.size w w' := by
  obtain ⟨v, hr, hBL⟩ := hbt.bl
  have HP := hid_in (fun W (hW : Below w.heap.size w W) => putAll_full (h.below hW) (htab.below hW htab.pos) L v (hBL.below hW) hl hn hu0 huq hq hfull)
  obtain ⟨p, cap, b, o, rfl, -⟩ := hBL
  have hz0 := Sb.zero39n
  rw [← HZ.out] at hz0
  have HZL : Hid (Z.length = 32) := hid_in (by rw [HZ.out]; simp)
  have HZ1 : Hid (∀ v ∈ Z, v.oneCell' = true) := hid_in (by rw [HZ.out]; exact one_u8 _)
  have hW0 : Below w.heap.size w ((w.alloc (.cells V.toArray 30)).alloc (.cells Z.toArray 30)) := ((Below.refl _ _).alloc (Nat.le_refl _) _).alloc (by simp) _
  have HC := hid_in (HP.out _ hW0)
  have HB0 := hid_in hW0
  have cg : ((w.alloc (.cells V.toArray 30)).alloc (.cells Z.toArray 30)).cell? ⟨g, 0, none⟩ = some (.slice p L.length cap) := (hW0.cell (p := ⟨g, 0, none⟩) hr.lt).trans (hr.cell 0)
  have hrz : Row ((w.alloc (.cells V.toArray 30)).alloc (.cells Z.toArray 30)) (w.heap.size + 1) Z 30 := Row.newAt _ _ Z 30 (by simp)
  have HRZ := hid_in hrz
  clear h htab hbt hl hfull hn hr hW0 hrz HP
  generalize L.length = ln at *
  go_enter Tryz.func44, Tryz.ntmps44
  go_wp2_with (first | (go_at_call 98; refine HC.out.mono ?_; rintro e w1 ⟨rfl, hb1⟩; have hrz1 := HRZ.out.below hb1 HRZ.out.lt; have HB1 := hid_in hb1; clear hb1) | (refine Sb.wpList_store_Row rfl 30 _ _ rfl (w.heap.size + 1) 0 Z rfl rfl 30 Z hrz1 32 info39 HZL.out (by rw [HZL.out]; decide) HZ1.out ?_; intro w8 hr8 hg8 hs8; rw [splice_all _ _ rfl] at hr8))
  refine Sb.post_Row2 6 7 30 rfl (w.heap.size + 1) rfl 30 Z hr8 _ Tryz.underlying30 rfl 32 info39 HZL.out rfl ⟨rfl, ?_⟩
  exact below_of_grown (HB0.out.trans (HB1.out.mono HB0.out.size)) hg8 (Nat.le_trans HB0.out.size HB1.out.size) (by omega)
set_option maxHeartbeats 1000000 in
set_option maxRecDepth 100000 in
theorem bput_ok {w : World} {gs ms n base g : Nat} {M : List Nat → Option (List Nat)} {q u : Int} {L : List (List Nat)} (h : St w gs ms M n q u) (htab : Tab w) (hbt : Bt w base g L) (hl : ∀ b ∈ L, b.length ≤ 4096) (hn : L.length ≤ 4194304) (hu0 : 0 ≤ u) (huq : u ≤ q) (hq : q ≤ 9223372036854775807) (hfull : needI M L L.length ≤ q - u) (V : List Value) (HVL : Hid (V.length = 32)) (HV1 : Hid (∀ v ∈ V, v.oneCell' = true)) :
    Calls Tryz.prog 44 #[.pointer (some ⟨g, 0, none⟩), .pointer (some ⟨gs, 0, none⟩), .agg V.toArray] w fun e w' => e = .returned (.tuple #[.agg V.toArray, .int .i64 0]) ∧ St w' gs ms (layI M L L.length) (cntI M n L L.length) q (u + needI M L L.length) ∧ Kp gs ms w w' := by
  obtain ⟨v, hr, hBL⟩ := hbt.bl
  have HGS := hid_in h.glt
  have HMS := hid_in h.mlt
  have HP := hid_in (fun W (hW : Below w.heap.size w W) => putAll_ok (h.below hW) (htab.below hW htab.pos) L v (hBL.below hW) hl hn hu0 huq hq hfull)
  obtain ⟨p, cap, b, o, rfl, -⟩ := hBL
  obtain ⟨Z, hz, hzl⟩ := Sb.zero39
  have HZL := hid_in hzl
  have hW0 : Below w.heap.size w ((w.alloc (.cells V.toArray 30)).alloc (.cells Z.toArray 30)) := ((Below.refl _ _).alloc (Nat.le_refl _) _).alloc (by simp) _
  have HC := hid_in (HP.out _ hW0)
  have HB0 := hid_in hW0
  have cg : ((w.alloc (.cells V.toArray 30)).alloc (.cells Z.toArray 30)).cell? ⟨g, 0, none⟩ = some (.slice p L.length cap) := (hW0.cell (p := ⟨g, 0, none⟩) hr.lt).trans (hr.cell 0)
  have HRZ := hid_in (show Row ((w.alloc (.cells V.toArray 30)).alloc (.cells Z.toArray 30)) (w.heap.size + 1) Z 30 from Row.newAt _ _ Z 30 (by simp))
  have HRV := hid_in (show Row ((w.alloc (.cells V.toArray 30)).alloc (.cells Z.toArray 30)) w.heap.size V 30 from (Row.new w V 30).alloc _)
  generalize needI M L L.length = N at *
  generalize layI M L L.length = ML at *
  generalize cntI M n L L.length = NL at *
  clear h htab hbt hl hfull hn hr hW0 HP hzl
  generalize L.length = ln at *
  go_enter Tryz.func44, Tryz.ntmps44
  go_wp2_with (first | (go_at_call 98; refine HC.out.mono ?_; rintro e w1 ⟨rfl, hst1, hk1⟩; have hrz1 := hk1.row HRZ.out (by have := HGS.out; omega) (by have := HMS.out; omega); have hrv1 := hk1.row HRV.out (by have := HGS.out; omega) (by have := HMS.out; omega); have HST1 := hid_in hst1; have HK1 := hid_in hk1; have HRZ1 := hid_in hrz1; clear hst1 hk1) | (refine Sb.wpList_load_Row rfl 30 _ rfl w.heap.size rfl 30 _ hrv1 _ Tryz.underlying30 rfl 32 info39 HVL.out ?_) | (refine Sb.wpList_store_Row rfl 30 _ _ rfl (w.heap.size + 1) 0 V rfl rfl 30 Z hrz1 32 info39 HVL.out (by rw [HZL.out]; decide) HV1.out ?_; intro w8 hr8 hg8 hs8; rw [splice_all _ _ (by rw [HVL.out, HZL.out])] at hr8))
  refine Sb.post_Row2 6 7 30 rfl (w.heap.size + 1) rfl 30 V hr8 _ Tryz.underlying30 rfl 32 info39 HVL.out rfl ⟨rfl, HST1.out.grown39 HRZ1.out hg8, ?_⟩
  have k1 := (Kp.of_below (g := gs) (m := ms) HB0.out).trans HK1.out
  refine ⟨hg8.os.trans k1.os, hg8.tape.trans k1.tape, hg8.output.trans k1.output, Nat.le_trans k1.size hg8.size, fun j hj h1 h2 => ?_⟩
  rw [hg8.block j (Nat.lt_of_lt_of_le hj k1.size) (fun e => by have := Option.some.inj e; omega)]
  exact k1.block j hj h1 h2
end Go.Proofs.YtamaejlbojbbeaaGreatDoor.Tr
namespace Go.Proofs.YtamaejlbojbbeaaGreatDoor.Tr
open Go.RowKit
open Sb (hid_in Row Sl T5 BL u8v Tab wp_world grownBy_setCell below_of_grown info39 one_u8 splice_all)
/-- a file as it comes in -/
structure Fil where
  path : ByteArray
  dir : Bool
  data : ByteArray
def Fil.cells (f : Fil) : List Value := [.string f.path, .bool f.dir, .string f.data]
/-- a value that reads as files -/
def Fls (w : World) (v : Value) (fs : List Fil) : Prop := ∃ p cap b o, v = .slice p fs.length cap ∧ fs.length ≤ cap ∧ cap ≤ 9223372036854775807 ∧ (fs ≠ [] → p = some ⟨b, o, none⟩ ∧ b < w.heap.size) ∧ ∀ (i : Nat) f, fs[i]? = some f → w.rangeAt b (o + i * 3) f.cells
theorem Fls.below {w w' : World} {v : Value} {fs : List Fil} (h : Fls w v fs) (hb : Below w.heap.size w w') : Fls w' v fs := by
  obtain ⟨p, cap, b, o, h1, h2, h3, h4, h5⟩ := h
  exact ⟨p, cap, b, o, h1, h2, h3, fun hn => ⟨(h4 hn).1, Nat.lt_of_lt_of_le (h4 hn).2 hb.size⟩, fun i f hi => Nd.rangeAt_below (h5 i f hi) hb (h4 (by rintro rfl; simp at hi)).2⟩
/-- what a path is told to be -/
def Fil.err (f : Fil) : Int := (Vp.parseS (Vp.bl f.path)).2
def Fil.nms (f : Fil) : List Vp.Str := (Vp.parseS (Vp.bl f.path)).1
/-- the path in memory is that of the file -/
def Mat (s : Spot) (f : Fil) : Prop := s.names = f.nms ∧ s.path = Vp.B (Vp.showS f.nms) ∧ s.dir = f.dir ∧ s.data = f.data
def Mats (sp : List Spot) (fs : List Fil) : Prop := sp.length = fs.length ∧ ∀ (i : Nat) s f, sp[i]? = some s → fs[i]? = some f → Mat s f
theorem Mats.snoc {sp : List Spot} {fs : List Fil} {i : Nat} {s : Spot} {f : Fil} (h : Mats sp (fs.take i)) (hf : fs[i]? = some f) (hm : Mat s f) : Mats (sp ++ [s]) (fs.take (i + 1)) := by
  have hi : i < fs.length := (List.getElem?_eq_some_iff.1 hf).1
  have hl := h.1
  simp only [List.length_take] at hl
  refine ⟨by simp; omega, fun j t g h1 h2 => ?_⟩
  rcases Nat.lt_or_ge j sp.length with hj | hj
  · rw [List.getElem?_append_left hj] at h1
    refine h.2 j t g h1 ?_
    rw [List.getElem?_take] at h2 ⊢
    rw [if_pos (by omega)] at h2 ⊢
    exact h2
  · rw [List.getElem?_append_right hj] at h1
    have h0 : j - sp.length = 0 := by
      have := (List.getElem?_eq_some_iff.1 h1).1
      simp at this; omega
    rw [h0] at h1
    simp only [List.getElem?_cons_zero, Option.some.injEq] at h1
    obtain rfl : j = i := by omega
    rw [List.getElem?_take, if_pos (by omega), hf] at h2
    obtain rfl := Option.some.inj h2
    subst h1
    exact hm
theorem own0 {w : World} {base n size : Nat} {e : TypeId} {v : Value} {xs : List Value} (h : w.ownsRow base e size v n xs) : w.ownsRow 0 e size v n xs := by
  refine ⟨h.1, ?_⟩
  rcases h.2 with h | ⟨g, cap, cur, h1, _, h3⟩
  · exact .inl h
  · exact .inr ⟨g, cap, cur, h1, Nat.zero_le _, h3⟩
theorem info81 : (Tryz.prog.info? 81).map (·.size) = some 3 := by kernel_rfl
theorem info93h : ∃ i z, Hid (Tryz.prog.info? 93 = some i) ∧ Hid (i.size = 4) ∧ Hid (i.bytes = 64) ∧ Hid (i.zero = some z) ∧ Hid (z.cells.size = 4) := by
  have h : (Tryz.prog.info? 93).map (fun i => (i.size, i.bytes, i.zero.map (·.cells.size))) = some (4, 64, some 4) := by kernel_rfl
  cases hi : Tryz.prog.info? 93 with
  | none => rw [hi] at h; cases h
  | some i =>
    rw [hi] at h
    simp only [Option.map_some, Option.some.injEq, Prod.mk.injEq] at h
    obtain ⟨h1, h2, h3⟩ := h
    cases hz : i.zero with
    | none => rw [hz] at h3; cases h3
    | some z =>
      rw [hz] at h3
      simp at h3
      exact ⟨i, z, rfl, h1, h2, hz, h3⟩
/-- paths in a row of their own -/
structure OwnS (w : World) (blk : Nat) (sp : List Spot) : Prop where
  row : ∃ vs, Row w blk vs 93 ∧ vs.length = sp.length * 4 ∧ Nd.Fills vs 4 (sp.map Spot.cells)
  nms : ∀ s ∈ sp, Nm w s.v s.names
/-- between two rounds of parse -/
structure PR (w : World) (n : Nat) (fs : List Fil) (i : Nat) (W : World) : Prop where
  ex : ∃ sp vs, Mats sp (fs.take i) ∧ Row W w.heap.size vs 93 ∧ vs.length = n * 4 ∧ Nd.Fills vs 4 (sp.map Spot.cells) ∧ ∀ s ∈ sp, Nm W s.v s.names
  noerr : ∀ (j : Nat) f, j < i → fs[j]? = some f → f.err = 0
  bel : Below w.heap.size w W
set_option maxHeartbeats 2000000 in
set_option maxRecDepth 100000 in
theorem parse_any (fs : List Fil) (v : Value) (w : World) (h : Fls w v fs) (hn : fs.length ≤ 1000000) (hp : ∀ f ∈ fs, f.path.size ≤ 9223372036854775807) :
    Calls Tryz.prog 39 #[v] w fun e w' => ∃ sv k, e = .returned (.tuple #[sv, .int .i64 k]) ∧ Below w.heap.size w w' ∧ ((k ≠ 0 ∧ sv = .slice none 0 0 ∧ ∃ (j : Nat) (f : Fil), fs[j]? = some f ∧ f.err = k ∧ ∀ (i : Nat) f', i < j → fs[i]? = some f' → f'.err = 0) ∨ (k = 0 ∧ (∀ f ∈ fs, f.err = 0) ∧ ∃ sp, Sps w' sv sp ∧ Mats sp fs ∧ sv = .slice (some ⟨w.heap.size, 0, none⟩) sp.length sp.length ∧ OwnS w' w.heap.size sp)) := by
  obtain ⟨p, cap, b, o, rfl, h1, h2, h3, h4⟩ := h
  obtain ⟨i93, z93, hi93, hs93, hb93, hz93, hzc93⟩ := info93h
  have H3 := hid_in h3
  have H4 := hid_in h4
  have HP := hid_in hp
  clear h3 h4 hp
  go_enter Tryz.func39, Tryz.ntmps39
  go_wp2_with (first | (refine wpList_make_full _ rfl _ _ 86 rfl _ 93 i93 z93 4 Tryz.underlying86 hi93.out hz93.out hs93.out .i64 .i64 _ _ fs.length rfl rfl rfl rfl (by rw [hb93.out]; omega) (by simp [maxLen]; omega) (Nat.le_refl _) ?_; intro w2 hown hg2; obtain ⟨vs0, hr0, hl0⟩ := Nd.made_row hown; have HR0 := hid_in hr0; have HL0 := hid_in hl0; have HG2 := hid_in hg2; clear hown hr0 hl0 hg2))
  go_loopw [14] (fun vi W => ∃ i : Nat, i ≤ fs.length ∧ vi = .int .i64 (i : Int) ∧ Hid (PR w fs.length fs i W)) (fun vi _ => fs.length - (intOf vi).toNat)
  case atStart => exact ⟨0, by omega, rfl, ⟨⟨[], vs0, ⟨rfl, fun i s f h => by simp at h⟩, HR0.out, HL0.out, fun i us h => by simp at h, fun s hs => by cases hs⟩, fun j f hj => by omega, (Below.refl _ _).grown HG2.out (Nat.le_refl _) (fun k e => by cases e)⟩⟩
  case round =>
    obtain ⟨i, hi, rfl, hpr⟩ := hrel
    by_cases hlt : i < fs.length
    · have hg : fs[i]? = some fs[i] := List.getElem?_eq_getElem hlt
      obtain ⟨hp, hb⟩ := H3.out (by intro h; simp [h] at hlt)
      have hrg := Nd.rangeAt_below (H4.out i _ hg) hpr.out.bel hb
      have hps := HP.out _ (List.getElem_mem hlt)
      generalize fs[i] = f at *
      subst hp
      have m0 : wr.cell? ⟨b, o + i * 3, none⟩ = some (.string f.path) := by simpa using hrg 0 _ rfl
      have m1 : wr.cell? ⟨b, o + i * 3 + 1, none⟩ = some (.bool f.dir) := hrg 1 _ rfl
      have m2 : wr.cell? ⟨b, o + i * 3 + 2, none⟩ = some (.string f.data) := hrg 2 _ rfl
      have HC3 : Hid ([Value.string f.path, .bool f.dir, .string f.data].length = 3) := rfl
      have HO3 : Hid (∀ v ∈ [Value.string f.path, .bool f.dir, .string f.data], v.oneCell' = true) := by
        intro v hv
        simp only [List.mem_cons, List.not_mem_nil, or_false] at hv
        rcases hv with rfl | rfl | rfl <;> rfl
      have HPA := hid_in (fun W => Vp.parse_any (Vp.bl f.path) (by rw [Vp.bl_length]; exact hps) W)
      rw [Vp.B_bl] at HPA
      have HG := hid_in hg
      clear hg hrg hps
      go_upto_region 5 with (first | (refine Nd.wpList_store_new rfl rfl 81 3 _ _ rfl _ [Value.string f.path, .bool f.dir, .string f.data] info81 rfl HC3 HO3 rfl rfl ?_; intro w5 hr5 hb5 hs5))
      have c0 : w5.cell? ⟨wr.heap.size, 0, none⟩ = some (.string f.path) := hr5.cell 0
      have HR5 := hid_in hr5
      have HB5 := hid_in hb5
      have HS5 := hid_in hs5
      clear hr5 hb5 hs5 m0 m1 m2
      have HERR : Hid (f.err = (Vp.parseS (Vp.bl f.path)).2) := rfl
      have HNMS : Hid (f.nms = (Vp.parseS (Vp.bl f.path)).1) := rfl
      have HSUM := hid_in (Vp.parse_sum (Vp.bl f.path))
      generalize (Vp.parseS (Vp.bl f.path)).2 = ke at *
      generalize (Vp.parseS (Vp.bl f.path)).1 = ns at *
      by_cases hke : ke = 0
      · subst hke
        go_upto_region 8 with (first | (go_at_call 81; refine (HPA.out _).mono ?_; rintro e w6 ⟨nv, rfl, hnm, hb6⟩; have HNM6 := hid_in (own0 hnm); have HB6 := hid_in hb6; obtain ⟨nq, nc, rfl⟩ := own_shape hnm; clear hnm hb6))
        have HR6 := hid_in (HR5.out.below HB6.out HR5.out.lt)
        have HSH := hid_in (Vp.show_v (Vp.Nms.val HNM6.out) (by have := HSUM.out; omega))
        generalize hnl : ns.length = nl at *
        have HNL := hid_in hnl
        clear hnl
        go_upto_region 9 with (first | (go_at_call 82; refine HSH.out.mono ?_; rintro e w7 ⟨rfl, hb7⟩; have hr7 := HR6.out.below hb7 HR6.out.lt; have c70 := hr7.cell 0; have f70 := hr7.frozen 0; simp only [List.getElem?_cons_zero] at c70; have HR7 := hid_in hr7; have HB7 := hid_in hb7; clear hr7 hb7))
        obtain ⟨NP, HNP⟩ : ∃ NP, Hid (Vp.B (Vp.showS ns) = NP) := ⟨_, hid_in rfl⟩
        rw [HNP.out]
        obtain ⟨W8, HW8⟩ : ∃ W8, Hid (w7.setCell ⟨wr.heap.size, 0, none⟩ (.string NP) = W8) := ⟨_, hid_in rfl⟩
        have hg8 := grownBy_setCell w7 ⟨wr.heap.size, 0, none⟩ (.string NP)
        have hr8 : Row W8 wr.heap.size [.string NP, .bool f.dir, .string f.data] 81 := by rw [← HW8.out]; exact HR7.out.set_same 0 _
        rw [HW8.out] at hg8
        refine wp_world HW8.out ?_
        have hB57 : Below wr.heap.size wr w7 := (HB5.out.trans (HB6.out.mono HB5.out.size)).trans (HB7.out.mono (Nat.le_trans HB5.out.size HB6.out.size))
        have HB8 := hid_in (show Below wr.heap.size wr W8 from below_of_grown hB57 hg8 hB57.size (Nat.le_refl _))
        have d0 : W8.cell? ⟨wr.heap.size, 0, none⟩ = some (.string NP) := hr8.cell 0
        have d1 : W8.cell? ⟨wr.heap.size, 1, none⟩ = some (.bool f.dir) := hr8.cell 1
        have d2 : W8.cell? ⟨wr.heap.size, 2, none⟩ = some (.string f.data) := hr8.cell 2
        obtain ⟨sp, vs, hm, hrw, hvl, hf, hnm⟩ := hpr.out.ex
        have hrw8 := hrw.below HB8.out hrw.lt
        have hnm8 : ∀ s ∈ sp, Nm W8 s.v s.names := fun s hs => Nm.kept (hnm s hs) (fun b cs fr e => (HB8.out.block b (Array.getElem?_eq_some_iff.1 e).1).trans e)
        have hnm6 : Nm w6 (.slice nq nl nc) ns := by unfold Nm; rw [HNL.out]; exact HNM6.out
        have hnew : Nm W8 (.slice nq nl nc) ns := Nm.kept hnm6 (fun b cs fr e => kept_typed ((HB7.out.block b (Array.getElem?_eq_some_iff.1 e).1).trans e) hg8 (fun k e2 => by
          obtain rfl := Option.some.inj e2
          exact typed_ne ((HB7.out.block b (Array.getElem?_eq_some_iff.1 e).1).trans e) HR7.out (by decide)))
        have HNM8 := hid_in hnm8
        have HNEW := hid_in hnew
        have HM := hid_in hm
        have HVL := hid_in hvl
        have HF := hid_in hf
        have HRW := hid_in hrw8
        have HSL : Hid (sp.length = i) := hid_in (by have := hm.1; simp only [List.length_take] at this; omega)
        have HC4 : Hid ([Value.slice nq nl nc, .string NP, .bool f.dir, .string f.data].length = 4) := rfl
        have HO4 : Hid (∀ v ∈ [Value.slice nq nl nc, .string NP, .bool f.dir, .string f.data], v.oneCell' = true) := by
          intro v hv
          simp only [List.mem_cons, List.not_mem_nil, or_false] at hv
          rcases hv with rfl | rfl | rfl | rfl <;> rfl
        have hwl := hrw8.lt
        clear hm hrw hvl hf hnm hnm8 hnm6 hnew hr8 hB57 HW8 hg8 c70 f70 HPA HSH
        go_wp2_with (first | (refine Sb.wpList_store_Row rfl 93 _ _ rfl w.heap.size _ [Value.slice nq nl nc, .string NP, .bool f.dir, .string f.data] rfl rfl 93 vs hrw8 4 info93 rfl (by rw [HVL.out]; omega) HO4.out ?_; intro w9 hr9 hg9 hs9))
        have HR9 := hid_in hr9
        have HG9 := hid_in hg9
        clear hr9 hg9 hs9 hrw8
        go_roundw
        case rel =>
          go_light
          refine ⟨i + 1, by omega, by go_num, ?_⟩
          refine ⟨⟨sp ++ [⟨.slice nq nl nc, ns, NP, f.dir, f.data⟩], _, HM.out.snoc HG.out ⟨HNMS.out.symm, by rw [HNMS.out, HNP.out], rfl, rfl⟩, HR9.out, ?_, ?_, ?_⟩, ?_, ?_⟩
          · rw [Nd.splice_length _ _ _ (by rw [HVL.out]; simp; omega)]; exact HVL.out
          · have h3 := HF.out.snoc (fun us hus => by obtain ⟨s, _, rfl⟩ := List.mem_map.1 hus; rfl) [Value.slice nq nl nc, .string NP, .bool f.dir, .string f.data] rfl (by rw [List.length_map, HSL.out, HVL.out]; omega)
            rw [List.length_map, HSL.out] at h3
            rw [List.map_append]
            exact h3
          · intro s hs
            refine Nm.kept (w := W8) ?_ (fun b cs fr e => kept_typed e HG9.out (fun k e2 => by
              obtain rfl := Option.some.inj e2
              exact typed_ne e HRW.out (by decide)))
            rcases List.mem_append.1 hs with hs | hs
            · exact HNM8.out s hs
            · simp at hs
              subst hs
              exact HNEW.out
          · intro j f' hj hf'
            rcases Nat.lt_or_ge j i with h | h
            · exact hpr.out.noerr j f' h hf'
            · obtain rfl : j = i := by omega
              rw [HG.out] at hf'
              obtain rfl := Option.some.inj hf'
              exact HERR.out
          · exact below_of_grown (hpr.out.bel.trans (HB8.out.mono hpr.out.bel.size)) HG9.out (Nat.le_trans hpr.out.bel.size HB8.out.size) (Nat.le_refl _)
        case measure => simp [intOf]; omega
      · have hke2 : (ke != 0) = true := by simpa using hke
        have HKE := hid_in hke
        clear hke
        go_wp2_with (first | (go_at_call 81; refine (HPA.out _).mono ?_; rintro e w6 ⟨nv, rfl, hnm, hb6⟩; have HB6 := hid_in hb6; clear hnm hb6))
        go_ret2
        refine ⟨_, _, rfl, (hpr.out.bel.trans (HB5.out.mono hpr.out.bel.size)).trans (HB6.out.mono (Nat.le_trans hpr.out.bel.size HB5.out.size)), .inl ⟨HKE.out, rfl, i, f, HG.out, HERR.out, hpr.out.noerr⟩⟩
    · obtain rfl : i = fs.length := by omega
      go_wp2_with fail
      go_ret2
      obtain ⟨sp, vs, hm, hr, hl, hf, hnm⟩ := hpr.out.ex
      rw [List.take_length] at hm
      refine ⟨_, _, rfl, hpr.out.bel, .inr ⟨rfl, fun f hf => ?_, sp, ?_, hm, by rw [hm.1]; rfl, ⟨vs, hr, by rw [hm.1]; exact hl, hf⟩, hnm⟩⟩
      · obtain ⟨j, hj⟩ := List.getElem?_of_mem hf
        exact hpr.out.noerr j f (List.getElem?_eq_some_iff.1 hj).1 hj
      · refine ⟨_, _, w.heap.size, 0, (by rw [hm.1]; rfl), Nat.le_of_eq hm.1, by omega, fun _ => ⟨rfl, _, _, hr⟩, fun i s hi => ?_, hnm⟩
        have h5 := Sb.fills_range hf hr (i := i) (us := s.cells) (by rw [List.getElem?_map, hi]; rfl)
        rwa [Nat.zero_add]
end Go.Proofs.YtamaejlbojbbeaaGreatDoor.Tr
namespace Go.Proofs.YtamaejlbojbbeaaGreatDoor.Vp
open Go.RowKit
theorem val_at {w : World} {v : Value} {xs : List Str} (h : Val w v xs) : ∃ p cap b o, v = .slice p xs.length cap ∧ xs.length ≤ cap ∧ cap ≤ 9223372036854775807 ∧ (xs ≠ [] → p = some ⟨b, o, none⟩) ∧ ∀ (j : Nat) x, xs[j]? = some x → w.cell? ⟨b, o + j, none⟩ = some (.string (B x)) := by
  obtain ⟨p, cap, rfl, hr⟩ := h
  obtain ⟨b, o, h1, h2⟩ := hr.cells
  exact ⟨p, cap, b, o, rfl, hr.le, hr.big, fun hne => (h1 hne).1, h2⟩
theorem flat_len (xs : List Str) : ((xs.map (47 :: ·)).flatten).length = Lib.lens xs + xs.length := by
  induction xs with
  | nil => rfl
  | cons x r ih => simp only [List.map_cons, List.flatten_cons, List.length_append, List.length_cons, Lib.lens, List.sum_cons] at ih ⊢; omega
end Go.Proofs.YtamaejlbojbbeaaGreatDoor.Vp
namespace Go.Proofs.YtamaejlbojbbeaaGreatDoor.Vp
open Go.RowKit
/-- whether names are a path's -/
def checkS (xs : List Str) : Int := if xs.all isNameS = false then 41 else if 8 < xs.length then 42 else 0
theorem lens_mem {xs : List Str} {x : Str} (h : x ∈ xs) : x.length ≤ Lib.lens xs := by
  induction xs with
  | nil => cases h
  | cons y r ih =>
    simp only [Lib.lens, List.map_cons, List.sum_cons] at ih ⊢
    rcases List.mem_cons.1 h with rfl | h
    · omega
    · have := ih h; omega
theorem allS_snoc {p : Str → Bool} {l : List Str} {i : Nat} {c : Str} (hc : l[i]? = some c) (h : (l.take i).all p = true) (hp : p c = true) : (l.take (i + 1)).all p = true := by
  rw [List.take_add_one, hc]; simp [List.all_append, h, hp]
theorem allS_no {p : Str → Bool} {l : List Str} {i : Nat} {c : Str} (hc : l[i]? = some c) (hp : p c = false) : l.all p = false := by
  rw [List.all_eq_false]
  exact ⟨c, List.mem_of_getElem? hc, by simp [hp]⟩
set_option maxHeartbeats 400000 in
set_option maxRecDepth 100000 in
theorem check_v {xs : List Str} {u : Value} {w : World} (hx : Val w u xs) (hl : Lib.lens xs + xs.length ≤ 140737488355328) : Calls Tryz.prog 182 #[u] w fun e w' => e = .returned (.int .i64 (checkS xs)) ∧ w' = w := by
  obtain ⟨p, cap, b, o, rfl, hle, hbig, hp, hc⟩ := val_at hx
  obtain ⟨R, hR⟩ : ∃ R, Hid (R = checkS xs) := ⟨_, rfl⟩
  rw [← hR.out]
  have HC := hid_in hc
  have HP := hid_in hp
  have HL := hid_in hl
  have hb1 : xs.length ≤ 9223372036854775807 := by omega
  generalize hn : xs.length = n at *
  have Hn := hid_in hn
  clear hn hc hp hx hl
  go_enter Tryz.func182, Tryz.ntmps182
  go_wp2_with fail
  go_loopw [7] (fun vi w' => w' = w ∧ ∃ i : Nat, i ≤ n ∧ vi = .int .i64 (i : Int) ∧ Hid ((xs.take i).all isNameS = true)) (fun vi _ => n - (intOf vi).toNat)
  case atStart => exact ⟨rfl, 0, by omega, rfl, rfl⟩
  case round =>
    obtain ⟨hw, i, hi, rfl, hall⟩ := hrel
    obtain rfl := hw.symm
    by_cases hlt : i < n
    · obtain ⟨x, hxi⟩ : ∃ d, xs[i]? = some d := ⟨_, List.getElem?_eq_getElem (by rw [Hn.out]; exact hlt)⟩
      have cx := HC.out i x hxi
      obtain rfl := HP.out (by rintro rfl; simp at hxi)
      have HN := hid_in (isName_any x (by have := lens_mem (List.mem_of_getElem? hxi); have := HL.out; omega))
      have HX := hid_in hxi
      clear hxi
      cases hnm : isNameS x
      · rw [hnm] at HN
        have HNM := hid_in hnm
        clear hnm
        go_wp2_with (go_at_call 208; refine (HN.out _).mono ?_; rintro e w' ⟨rfl, hw⟩; obtain rfl := hw.symm)
        go_ret
        refine ⟨congrArg (fun z => Ending.returned (Value.int .i64 z)) (Eq.trans ?_ hR.out.symm), rfl⟩
        unfold checkS
        rw [if_pos (allS_no HX.out HNM.out)]
      · rw [hnm] at HN
        have hsn : Hid ((xs.take (i + 1)).all isNameS = true) := allS_snoc HX.out hall.out hnm
        clear hnm
        go_wp2_with (go_at_call 208; refine (HN.out _).mono ?_; rintro e w' ⟨rfl, hw⟩; obtain rfl := hw.symm)
        go_roundw
        case rel =>
          go_light
          exact ⟨trivial, i + 1, by omega, by go_num, hsn⟩
        case measure => simp [intOf]; omega
    · have hin : i = n := by omega
      subst hin
      have HA : Hid (R = if 8 < i then 42 else 0) := by
        show _ = _
        rw [hR.out]
        have := hall.out
        rw [List.take_of_length_le (by rw [Hn.out]; omega)] at this
        unfold checkS
        rw [if_neg (by rw [this]; simp), Hn.out]
      clear hR
      by_cases h8 : 8 < i
      · have HA2 := hid_in (HA.out.trans (if_pos h8))
        go_wp2_with fail
        go_ret
        refine ⟨congrArg (fun z => Ending.returned (Value.int .i64 z)) (Eq.trans ?_ HA2.out.symm), rfl⟩
        rfl
      · have HA2 := hid_in (HA.out.trans (if_neg h8))
        go_wp2_with fail
        go_ret
        refine ⟨congrArg (fun z => Ending.returned (Value.int .i64 z)) (Eq.trans ?_ HA2.out.symm), rfl⟩
        rfl
theorem clone_v {xs : List Str} {u : Value} {w : World} (hx : Val w u xs) (hl : xs.length ≤ 100000) : Calls Tryz.prog 183 #[u] w fun e w' => ∃ v', e = .returned v' ∧ Nms w' w.heap.size v' xs ∧ Below w.heap.size w w' := by
  obtain ⟨p, cap, rfl, hr⟩ := hx
  by_cases h0 : xs = []
  · subst h0
    cases p with
    | none => exact (Tryz.slices_Clone_string_nil 0 cap w).mono fun e w' ⟨he, hw⟩ => ⟨_, he, World.ownsRow_nil _ _ _ _, hw ▸ Below.refl _ _⟩
    | some a => exact (Tryz.slices_Clone_string_zero a cap w).mono fun e w' ⟨v', he, h1, _, h2⟩ => ⟨v', he, h1, h2⟩
  · obtain ⟨b, o, h1, h2⟩ := hr.cells
    obtain ⟨rfl, _⟩ := h1 h0
    refine (Tryz.slices_Clone_string b o xs.length cap (xs.map B) w (by simp) (by omega) (fun j hj => ?_)).mono fun e w' ⟨v', he, h3, _, h4⟩ => ⟨v', he, ?_, h4⟩
    · have hj2 : j < xs.length := by simpa using hj
      have := h2 j xs[j] (List.getElem?_eq_getElem hj2)
      simpa [List.getD_eq_getElem?_getD, hj2, sv] using this
    · unfold Nms
      rw [List.take_of_length_le (by simp), List.map_map] at h3
      exact h3
/-- the directory's path, the last name, the error -/
def splitS (xs : List Str) : List Str × Str × Int := if checkS xs ≠ 0 then ([], [], checkS xs) else if xs = [] then ([], [], 132) else (xs.dropLast, xs.getLastD [], 0)
set_option maxHeartbeats 1000000 in
set_option maxRecDepth 100000 in
theorem split_v {xs : List Str} {u : Value} {w : World} (hx : Val w u xs) (hl : Lib.lens xs + xs.length ≤ 140737488355328) (hl2 : xs.length ≤ 100000) : Calls Tryz.prog 142 #[u] w fun e w' => ∃ v, e = .returned (.tuple #[v, .string (B (splitS xs).2.1), .int .i64 (splitS xs).2.2]) ∧ Nms w' w.heap.size v (splitS xs).1 ∧ Below w.heap.size w w' := by
  have HC := hid_in (check_v hx hl)
  have HS : Hid (splitS xs = if checkS xs ≠ 0 then ([], [], checkS xs) else if xs = [] then ([], [], 132) else (xs.dropLast, xs.getLastD [], 0)) := rfl
  generalize splitS xs = R at HS ⊢
  generalize checkS xs = k at HC HS
  by_cases hk : k = 0
  · subst hk
    by_cases h0 : xs = []
    · have HR : R = ([], [], 132) := by rw [HS.out, if_neg (by simp), if_pos h0]
      subst HR h0
      obtain ⟨p, cap, rfl, hr⟩ := hx
      clear HS hr
      go_enter Tryz.func142, Tryz.ntmps142
      go_wp2_with (go_at_call 182; refine HC.out.mono ?_; rintro e w' ⟨rfl, hw⟩; obtain rfl := hw.symm)
      go_ret3
      exact ⟨_, rfl, World.ownsRow_nil _ _ _ _, Below.refl _ _⟩
    · have HR : R = (xs.dropLast, xs.getLastD [], 0) := by rw [HS.out, if_neg (by simp), if_neg h0]
      subst HR
      clear HS
      obtain ⟨p, cap, rfl, hr⟩ := hx
      obtain ⟨b, o, h1, h2⟩ := hr.cells
      obtain ⟨rfl, hb⟩ := h1 h0
      obtain ⟨k, hk⟩ : ∃ k, xs.length = k + 1 := ⟨xs.length - 1, by have := List.length_pos_iff.2 h0; omega⟩
      have hlast : xs[k]? = some (xs.getLastD []) := by
        rw [List.getLastD_eq_getLast?, List.getLast?_eq_getElem?, hk]
        have hlt : k < xs.length := by omega
        simp [List.getElem?_eq_getElem hlt]
      have hcl := h2 k _ hlast
      have hdl : xs.dropLast = xs.take k := by rw [List.dropLast_eq_take, hk]; rfl
      have hcd : Hid (∀ W, (∃ m, W = w.drewN m) → Calls Tryz.prog 183 #[.slice (some ⟨b, o, none⟩) k cap] W fun e w' => ∃ v', e = .returned v' ∧ Nms w' w.heap.size v' xs.dropLast ∧ Below w.heap.size w w') := by
        intro W hW
        have hv : Val W (.slice (some ⟨b, o, none⟩) k cap) xs.dropLast := by
          refine Val.drew ⟨_, _, ?_, by rw [hdl]; exact hr.take k (by omega)⟩ hW
          simp [hk]
        have hsz : W.heap.size = w.heap.size := by obtain ⟨m, rfl⟩ := hW; simp
        refine (clone_v hv (by simp; omega)).mono fun e w' ⟨v', he, h3, h4⟩ => ⟨v', he, ?_, ?_⟩
        · rw [hsz] at h3; exact h3
        · rw [hsz] at h4
          obtain ⟨m, rfl⟩ := hW
          exact (below_drewN (Below.refl _ _) m).trans h4
      have hcap : (k : Int) ≤ cap := by have := hr.le; omega
      have hcb := hr.big
      have HB := hid_in hb
      rw [hk] at HC hl2
      have hcl2 : w.cell? ⟨b, o + k, none⟩ = some (.string (B (xs.getLastD []))) := hcl
      clear hcl
      generalize B (xs.getLastD []) = sl at hcl2 ⊢
      have HCL := hid_in hcl2
      have hk0 : ((k : Int) + 1 == 0) = false := by rw [beq_eq_false_iff_ne]; omega
      clear hr h1 h2 hlast hdl hl h0 hb
      rw [hk]
      clear hk
      go_enter Tryz.func142, Tryz.ntmps142
      go_wp2_with (go_at_call 182; refine HC.out.mono ?_; rintro e w' ⟨rfl, hw⟩; obtain rfl := hw.symm)
      go_region_with (first | (go_at_call 183; refine (hcd.out _ ⟨1, rfl⟩).mono ?_; rintro e w2 ⟨v', rfl, hn, hbl⟩; have hc2 : w2.cell? ⟨b, o + k, none⟩ = some (.string sl) := (hbl.cell (p := ⟨b, o + k, none⟩) HB.out).trans HCL.out; have HN := hid_in hn; have HBL := hid_in hbl; clear hn hbl))
      all_goals
        go_wp2
        go_ret3
        exact ⟨v', rfl, HN.out, HBL.out⟩
  · have HR : R = ([], [], k) := by rw [HS.out, if_pos hk]
    subst HR
    have hk2 : (k != 0) = true := by simpa using hk
    clear HS hk
    go_enter Tryz.func142, Tryz.ntmps142
    go_wp2_with (go_at_call 182; refine HC.out.mono ?_; rintro e w' ⟨rfl, hw⟩; obtain rfl := hw.symm)
    go_ret3
    exact ⟨_, rfl, World.ownsRow_nil _ _ _ _, Below.refl _ _⟩
end Go.Proofs.YtamaejlbojbbeaaGreatDoor.Vp
namespace Go.Proofs.YtamaejlbojbbeaaGreatDoor.Tr
open Go.RowKit
open Sb (hid_in Row Sl T5 BL u8v Tab wp_world grownBy_setCell below_of_grown info39 one_u8 splice_all)
theorem lens_dropLast (xs : List Vp.Str) : Lib.lens xs.dropLast + xs.dropLast.length ≤ Lib.lens xs + xs.length := by
  have h2 : Lib.lens xs.dropLast ≤ Lib.lens xs := by
    rcases List.eq_nil_or_concat xs with rfl | ⟨ys, y, rfl⟩
    · simp
    · simp [Lib.lens]
  have : xs.dropLast.length ≤ xs.length := by simp
  omega
theorem split_lens (xs : List Vp.Str) : Lib.lens (Vp.splitS xs).1 + (Vp.splitS xs).1.length ≤ Lib.lens xs + xs.length := by
  unfold Vp.splitS
  split
  · simp [Lib.lens]
  · split
    · simp [Lib.lens]
    · exact lens_dropLast xs
/-- the text of a path's directory -/
def dirB (xs : List Vp.Str) : ByteArray := Vp.B (Vp.showS (Vp.splitS xs).1)
def Spot.val (s : Spot) : Value := .agg #[s.v, .string s.path, .bool s.dir, .string s.data]
/-- a path whose names are few and short -/
def Spot.Fit (s : Spot) : Prop := Lib.lens s.names + s.names.length ≤ 256
set_option maxHeartbeats 1000000 in
theorem dirOf_any (s : Spot) (w : World) (h : Nm w s.v s.names) (hf : s.Fit) :
    Calls Tryz.prog 88 #[s.val] w fun e w' => e = .returned (.string (dirB s.names)) ∧ Below w.heap.size w w' := by
  obtain ⟨v, xs, p, d, x⟩ := s
  unfold Spot.Fit at hf
  simp only [Spot.val] at h hf ⊢
  have hl := split_lens xs
  obtain ⟨w1, HW1⟩ : ∃ w1, Hid (w.alloc (.cells #[v, .string p, .bool d, .string x] 93) = w1) := ⟨_, hid_in rfl⟩
  have hb1 : Below w.heap.size w w1 := by rw [← HW1.out]; exact (Below.refl _ _).alloc (Nat.le_refl _) _
  have hr1 : Row w1 w.heap.size [v, .string p, .bool d, .string x] 93 := by rw [← HW1.out]; exact Row.new w [v, .string p, .bool d, .string x] 93
  have c0 : w1.cell? ⟨w.heap.size, 0, none⟩ = some v := hr1.cell 0
  have HB1 := hid_in hb1
  have h1 : Nm w1 v xs := Nm.kept h (fun b cs fr e => (hb1.block b (Array.getElem?_eq_some_iff.1 e).1).trans e)
  have HSP := hid_in (Vp.split_v h1.val (by omega) (by omega))
  have HSH := hid_in (fun W u (hu : Vp.Val W u (Vp.splitS xs).1) => Vp.show_v hu (by omega))
  have HD : Hid (dirB xs = Vp.B (Vp.showS (Vp.splitS xs).1)) := rfl
  generalize dirB xs = DB at *
  generalize (Vp.splitS xs).2.1 = r1 at *
  generalize (Vp.splitS xs).2.2 = r2 at *
  generalize (Vp.splitS xs).1 = r0 at *
  obtain ⟨nq, nc, rfl⟩ := own_shape h
  clear h h1 hb1 hr1 hl
  go_enter Tryz.func88, Tryz.ntmps88
  go_upto_region 1 with fail
  refine wp_world HW1.out ?_
  go_wp2_with (first | (go_at_call 142; refine HSP.out.mono ?_; rintro e w2 ⟨v2, rfl, hn2, hb2⟩; have HN2 := hid_in hn2; have HB2 := hid_in hb2; clear hn2 hb2) | (go_at_call 82; refine (HSH.out _ _ (Vp.Nms.val HN2.out)).mono ?_; rintro e w3 ⟨rfl, hb3⟩; have HB3 := hid_in hb3; clear hb3))
  go_ret
  refine ⟨by rw [HD.out]; rfl, ?_⟩
  exact HB1.out.trans ((HB2.out.mono HB1.out.size).trans (HB3.out.mono (Nat.le_trans HB1.out.size HB2.out.size)))
theorem lit_ne (x : ByteArray) : x.toList = [] ↔ x.size = 0 := by
  obtain ⟨d⟩ := x
  simp [ByteArray.toList_eq, ByteArray.size]
set_option maxHeartbeats 1000000 in
/-- a directory with data -/
theorem wrong1_any (s : Spot) (w : World) :
    Calls Tryz.prog 83 #[s.val] w fun e w' => e = .returned (.bool (s.dir && !decide (s.data.size = 0))) ∧ Below w.heap.size w w' := by
  obtain ⟨v, xs, p, d, x⟩ := s
  simp only [Spot.val]
  cases hd : decide (x.size = 0) <;> cases d
  all_goals
    go_enter Tryz.func83, Tryz.ntmps83
    go_wp2
    go_ret
    refine ⟨?_, (Below.refl _ _).alloc (Nat.le_refl _) _⟩
    simp [lit_ne] at hd ⊢
    try exact hd
set_option maxHeartbeats 1000000 in
/-- data that are too long -/
theorem wrong2_any (s : Spot) (w : World) :
    Calls Tryz.prog 84 #[s.val] w fun e w' => e = .returned (.bool (decide (1024 < s.data.size))) ∧ Below w.heap.size w w' := by
  obtain ⟨v, xs, p, d, x⟩ := s
  simp only [Spot.val]
  go_enter Tryz.func84, Tryz.ntmps84
  go_wp2
  go_ret
  refine ⟨?_, (Below.refl _ _).alloc (Nat.le_refl _) _⟩
  simp; omega
end Go.Proofs.YtamaejlbojbbeaaGreatDoor.Tr
