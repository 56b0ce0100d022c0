/-
  The library's contract of strings.Repeat, laid at this program. The walk of truncate.
-/
import Derived.Shelf.Strings.Repeat
import Derived.Test.YtngehkmdanhgpaaGreatRows
import Derived.Deep.RegionLaw
import Derived.Deep.DrawnRows
import Derived.Laws.Tables
import Derived.Lib.SlBytesConst
import Derived.Laws.CopyOwn
import Derived.Lib.AppendZeros
import Derived.Test.YtngehkmdanhgpaaGreatR00
import Derived.Test.YtngehkmdanhgpaaGreatR01
import Derived.Test.YtngehkmdanhgpaaGreatR02
import Derived.Test.YtngehkmdanhgpaaGreatR03
import Derived.Test.YtngehkmdanhgpaaGreatR04
import Derived.Test.YtngehkmdanhgpaaGreatR05
import Derived.Test.YtngehkmdanhgpaaGreatR06
import Derived.Test.YtngehkmdanhgpaaGreatR07
import Derived.Test.YtngehkmdanhgpaaGreatR08
import Derived.Test.YtngehkmdanhgpaaGreatR09
import Derived.Test.YtngehkmdanhgpaaGreatR10
import Derived.Test.YtngehkmdanhgpaaGreatR11
import Derived.Test.YtngehkmdanhgpaaGreatR12
import Derived.Test.YtngehkmdanhgpaaGreatR13
import Derived.Test.YtngehkmdanhgpaaGreatR14
import Derived.Test.YtngehkmdanhgpaaGreatR15
import Derived.Test.YtngehkmdanhgpaaGreatR16
import Derived.Test.YtngehkmdanhgpaaGreatR17
import Derived.Test.YtngehkmdanhgpaaGreatR18
import Derived.Test.YtngehkmdanhgpaaGreatR20
import Derived.Test.YtngehkmdanhgpaaGreatR21
import Derived.Test.YtngehkmdanhgpaaGreatR22
import Derived.Test.YtngehkmdanhgpaaGreatR23
import Derived.Test.YtngehkmdanhgpaaGreatR24
import Derived.Test.YtngehkmdanhgpaaGreatR25
namespace Go.Proofs
open Go.Shelf
def Tryz.lays105_ren : Go.Shelf.Ren := ⟨fun | 105 => 94 | 212 => 123 | 99 => 124 | 165 => 118 | 166 => 119 | 170 => 125 | 169 => 120 | 263 => 138 | 264 => 139 | 206 => 140 | 240 => 135 | 241 => 136 | 276 => 145 | 277 => 146 | n => n, fun | 9 => 9 | 3 => 3 | 4 => 4 | 20 => 20 | 0 => 0 | 46 => 102 | 109 => 149 | 5 => 5 | 72 => 142 | 76 => 146 | 51 => 133 | 146 => 163 | 53 => 135 | 148 => 165 | 70 => 139 | 37 => 140 | 75 => 145 | 127 => 162 | 164 => 171 | 80 => 148 | n => n, fun | n => n⟩
theorem Tryz.lays105 : Go.Proofs.Lays.n105 Tryz.prog Tryz.lays105_ren := {
  mixed := by kernel_rfl
  f99 := Tryz.func124.trans (congrArg some (by kernel_rfl))
  f105 := Tryz.func94.trans (congrArg some (by kernel_rfl))
  f165 := Tryz.func118.trans (congrArg some (by kernel_rfl))
  f166 := Tryz.func119.trans (congrArg some (by kernel_rfl))
  f169 := Tryz.func120.trans (congrArg some (by kernel_rfl))
  f170 := Tryz.func125.trans (congrArg some (by kernel_rfl))
  f206 := Tryz.func140.trans (congrArg some (by kernel_rfl))
  f212 := Tryz.func123.trans (congrArg some (by kernel_rfl))
  f240 := Tryz.func135.trans (congrArg some (by kernel_rfl))
  f241 := Tryz.func136.trans (congrArg some (by kernel_rfl))
  f263 := Tryz.func138.trans (congrArg some (by kernel_rfl))
  f264 := Tryz.func139.trans (congrArg some (by kernel_rfl))
  f276 := Tryz.func145.trans (congrArg some (by kernel_rfl))
  f277 := Tryz.func146.trans (congrArg some (by kernel_rfl))
  t0 := Tryz.underlying0
  a0 := Tryz.isAgg0
  z0 := Tryz.sizeOf0
  v0 := Tryz.zeroValue0
  t3 := Tryz.underlying3
  a3 := Tryz.isAgg3
  z3 := Tryz.sizeOf3
  v3 := Tryz.zeroValue3
  t4 := Tryz.underlying4
  a4 := Tryz.isAgg4
  z4 := Tryz.sizeOf4
  v4 := Tryz.zeroValue4
  t5 := Tryz.underlying5
  a5 := Tryz.isAgg5
  z5 := Tryz.sizeOf5
  v5 := Tryz.zeroValue5
  t9 := Tryz.underlying9
  a9 := Tryz.isAgg9
  z9 := Tryz.sizeOf9
  v9 := Tryz.zeroValue9
  t20 := Tryz.underlying20
  a20 := Tryz.isAgg20
  z20 := Tryz.sizeOf20
  v20 := Tryz.zeroValue20
  t37 := Tryz.underlying140
  a37 := Tryz.isAgg140
  z37 := Tryz.sizeOf140
  v37 := Tryz.zeroValue140
  t46 := Tryz.underlying102
  a46 := Tryz.isAgg102
  z46 := Tryz.sizeOf102
  v46 := Tryz.zeroValue102
  t51 := Tryz.underlying133
  a51 := Tryz.isAgg133
  z51 := Tryz.sizeOf133
  v51 := Tryz.zeroValue133
  t53 := Tryz.underlying135
  a53 := Tryz.isAgg135
  z53 := Tryz.sizeOf135
  v53 := Tryz.zeroValue135
  t70 := Tryz.underlying139
  a70 := Tryz.isAgg139
  z70 := Tryz.sizeOf139
  v70 := Tryz.zeroValue139
  t72 := Tryz.underlying142
  a72 := Tryz.isAgg142
  z72 := Tryz.sizeOf142
  v72 := Tryz.zeroValue142
  t75 := Tryz.underlying145
  a75 := Tryz.isAgg145
  z75 := Tryz.sizeOf145
  v75 := Tryz.zeroValue145
  t76 := Tryz.underlying146
  a76 := Tryz.isAgg146
  z76 := Tryz.sizeOf146
  v76 := Tryz.zeroValue146
  t109 := Tryz.underlying149
  a109 := Tryz.isAgg149
  z109 := Tryz.sizeOf149
  v109 := Tryz.zeroValue149
  t127 := Tryz.underlying162
  a127 := Tryz.isAgg162
  z127 := Tryz.sizeOf162
  v127 := Tryz.zeroValue162
  t146 := Tryz.underlying163
  a146 := Tryz.isAgg163
  z146 := Tryz.sizeOf163
  v146 := Tryz.zeroValue163
  t148 := Tryz.underlying165
  a148 := Tryz.isAgg165
  z148 := Tryz.sizeOf165
  v148 := Tryz.zeroValue165
  t164 := Tryz.underlying171
  a164 := Tryz.isAgg171
  z164 := Tryz.sizeOf171
  v164 := Tryz.zeroValue171 }
theorem Tryz.Builder_Extra_105 : Builder.Extra Tryz.prog Tryz.lays105_ren := {
  sizeBuilder := by kernel_rfl
  liesBuilder := by kernel_rfl
  t5 := Tryz.underlying5
  a5 := Tryz.isAgg5
  z5 := Tryz.sizeOf5
  v5 := Tryz.zeroValue5
  infoByte := by kernel_rfl
  cellsByte := by kernel_rfl
  sizeByte := by kernel_rfl
  neB5 := by decide }
open Go.RowKit Go.Lib in
theorem Tryz.strings_Repeat (s : ByteArray) (c : Nat) (w : World) (hc : c ≤ 9223372036854775807) (hlen : s.size * c ≤ 140737488355328) :
    Calls Tryz.prog 94 #[.string s, .int .i64 c] w fun e w' => e = .returned (.string ⟨(Lib.repeatL s.data.toList c).toArray⟩) ∧ Below w.heap.size w w' := Any.strings_Repeat Tryz.lays105 Tryz.Builder_Extra_105 s c w hc hlen
end Go.Proofs
namespace Go.Proofs.YtngehkmdanhgpaaGreat.Pl
open Go.RowKit
open Vp (Str B bl Val cmpL parseS showS splitS withinS IsPath)
open Nd (Row wp_world post_Row post_Row2 grownBy_setCell below_of_grown)
def zerosB (n : Nat) : ByteArray := ⟨(Lib.repeatL [(0 : UInt8)] n).toArray⟩
theorem repeat_zero (n : Nat) (hn : n ≤ 1024) (w : World) : Calls Tryz.prog 94 #[.string ⟨#[0]⟩, .int .i64 (n : Int)] w fun e w' => e = .returned (.string (zerosB n)) ∧ Below w.heap.size w w' := Tryz.strings_Repeat ⟨#[0]⟩ n w (by omega) (by show 1 * n ≤ _; omega)
theorem repeatL_zero : ∀ n : Nat, Lib.repeatL [(0 : UInt8)] n = List.replicate n 0 := by
  intro n
  induction n with
  | zero => rfl
  | succ n ih => rw [Lib.repeatL, ih]; rfl
theorem zerosB_size (n : Nat) : (zerosB n).size = n := by
  unfold zerosB
  rw [repeatL_zero]
  simp [ByteArray.size]
def trD (old : ByteArray) (z : Nat) : ByteArray := old.extract 0 (min z old.size) ++ zerosB (z - min z old.size)
theorem trD_size (old : ByteArray) (z : Nat) : (trD old z).size = z := by
  unfold trD
  simp only [ByteArray.size_append, ByteArray.size_extract, zerosB_size]
  omega
def trE (A : List Ent) (xs : List Str) : Int := (findFA A xs).2
def trS (A : List Ent) (xs : List Str) (z : Nat) : Int := if trE A xs = 0 then (z : Int) else 0
def trA (A : List Ent) (xs : List Str) (z : Nat) : List Ent := if trE A xs = 0 then putA A ⟨xs, false, trD (findFA A xs).1.data z⟩ else A
set_option maxHeartbeats 1000000 in
set_option maxRecDepth 100000 in
theorem truncate_aux {w : World} {g m : Nat} {L : List Spot} (h : Fs w g m L) (hsm : Small (L.map Spot.ent)) (k a : Int) (z : Nat) (zI : Int) (hzI : Hid (zI = (z : Int))) (p t d : ByteArray) (hp : p.size ≤ 9223372036854775807) (hz : z ≤ 1024) :
    Calls Tryz.prog 66 #[.pointer (some ⟨g, 0, none⟩), .agg #[.int .i64 k, .string p, .string t, .string d, .int .i64 a, .int .i64 zI]] w fun e w' => e = .returned (Res.val ⟨trE (L.map Spot.ent) (nmsOf p), false, trS (L.map Spot.ent) (nmsOf p) z, ⟨#[]⟩, .slice none 0 0⟩) ∧ (∃ L', Fs w' g m L' ∧ L'.map Spot.ent = trA (L.map Spot.ent) (nmsOf p) z) ∧ w.grownBy w' (some m) := by
  obtain ⟨WA, HWA, HRO, HRA, HBA⟩ := op_box w k a zI p t d
  have H := hid_in h
  have HG := hid_in h.ne1
  have HFF := hid_in (fun W (kb : Below w.heap.size w W) => findFile_any (h.below kb) p hp)
  have c1 : WA.cell? ⟨w.heap.size, 1, none⟩ = some (.string p) := HRO.out.cell 1
  obtain ⟨qp, qn, qc, hsv⟩ := findF_sf h.map (nmsOf p)
  obtain ⟨hfe, hfx⟩ := findF_ent L (nmsOf p)
  have HE : Hid (trE (L.map Spot.ent) (nmsOf p) = (findF L (nmsOf p)).2) := by
    show _ = _
    unfold trE
    rw [← hfe]
  have HS : Hid (trS (L.map Spot.ent) (nmsOf p) z = if trE (L.map Spot.ent) (nmsOf p) = 0 then (z : Int) else 0) := rfl
  have HA : Hid (trA (L.map Spot.ent) (nmsOf p) z = if trE (L.map Spot.ent) (nmsOf p) = 0 then putA (L.map Spot.ent) ⟨nmsOf p, false, trD (findF L (nmsOf p)).1.data z⟩ else L.map Spot.ent) := by
    show _ = _
    unfold trA
    rw [← hfx]; rfl
  have HOK := hid_in (fun t (e : findF L (nmsOf p) = (t, 0)) => findF_ok e)
  have HSM := hid_in hsm
  generalize trE (L.map Spot.ent) (nmsOf p) = E at *
  generalize trS (L.map Spot.ent) (nmsOf p) z = S at *
  generalize trA (L.map Spot.ent) (nmsOf p) z = A' at *
  generalize findF L (nmsOf p) = r at *
  obtain ⟨⟨sv, sn, sp, sd, sx⟩, e0⟩ := r
  simp only at hsv HE HS HA
  subst hsv
  simp only [Spot.val, Res.val] at HFF ⊢
  have HC4 : Hid ([Value.slice qp qn qc, .string sp, .bool sd, .string sx].length = 4) := rfl
  have HO4 : Hid (∀ v ∈ [Value.slice qp qn qc, .string sp, .bool sd, .string sx], v.oneCell' = true) := by
    intro v hv
    simp only [List.mem_cons, List.not_mem_nil, or_false] at hv
    rcases hv with rfl | rfl | rfl | rfl <;> rfl
  have HREF := hid_in (fun k W => refuse_any k W)
  simp only [Res.err, Res.val] at HREF
  clear h hfe hfx hsm
  go_enter Tryz.func66, Tryz.ntmps66
  go_upto_region 1 with fail
  refine wp_world HWA.out ?_
  go_upto_region 2 with (first | (go_at_call 93; refine (HFF.out _ HBA.out).mono ?_; rintro e w2 ⟨rfl, hb2⟩; have HC2 := hid_in hb2; clear hb2) | (refine Nd.wpList_store_new rfl rfl 63 4 _ _ rfl _ [Value.slice qp qn qc, .string sp, .bool sd, .string sx] info63 rfl HC4 HO4 rfl rfl ?_; intro w3 hr3 hb3 hs3; have HR3 := hid_in hr3; have HC3 := hid_in (HC2.out.trans (hb3.mono HC2.out.size)); clear hr3 hb3 hs3))
  have HB3 := hid_in (HBA.out.trans (HC3.out.mono HBA.out.size))
  have HRO3 := hid_in (HRO.out.below HC3.out HRO.out.lt)
  have HRA3 := hid_in (HRA.out.below HC3.out HRA.out.lt)
  obtain ⟨⟨s0, s1, s2, s3⟩, -⟩ := spot_cells HR3.out (Below.refl _ w3)
  have o5 : w3.cell? ⟨w.heap.size, 5, none⟩ = some (.int .i64 zI) := HRO3.out.cell 5
  have HERR := hid_in (fun W (kb : Below w3.heap.size w3 W) => And.intro (res_cells HRA3.out kb) (And.intro (HRA3.out.below kb HRA3.out.lt) (HB3.out.trans (kb.mono HB3.out.size))))
  by_cases hk : e0 = 0
  · subst hk
    obtain ⟨hok, hnm, hdr⟩ := HOK.out _ rfl
    simp only at hnm hdr
    have hsz : sx.size ≤ 1024 := spot_small HSM.out hok
    have HNM := hid_in (H.out.map.nms _ (List.mem_of_find?_eq_some hok))
    simp only at HNM
    rw [hnm] at HNM
    have HEK : Hid (E = 0) := by show _ = _; rw [HE.out]
    clear hok hnm HOK
    obtain ⟨q, HQ⟩ : ∃ q : Nat, Hid (q = min z sx.size) := ⟨_, hid_in rfl⟩
    have hq1 : q ≤ z := by rw [HQ.out]; omega
    have hq2 : q ≤ sx.size := by rw [HQ.out]; omega
    obtain ⟨qI, HQI⟩ : ∃ qI : Int, Hid ((q : Int) = qI) := ⟨_, hid_in rfl⟩
    have hm1 : ∀ W, (Builtin.min_ #[3, 3] 3 #[.int .i64 zI, .int .i64 (sx.size : Int)]).run Tryz.prog W = .ok (.int .i64 qI) W := by
      rw [hzI.out, ← HQI.out]
      by_cases h3 : z ≤ sx.size
      · have e : q = z := by rw [HQ.out]; omega
        rw [e]; exact fun W => min_le _ _ (by omega) 3 W
      · have e : q = sx.size := by rw [HQ.out]; omega
        rw [e]; exact fun W => min_gt _ _ (by omega) 3 W
    have hs1 := str_to sx qI (by rw [← HQI.out]; omega) (by rw [← HQI.out]; omega)
    have ht2 : qI.toNat = q := by rw [← HQI.out]; omega
    rw [ht2] at hs1
    have HX0 : Hid ((sx.extract 0 q).size = q) := by show _ = _; rw [ByteArray.size_extract]; omega
    have HWD : Hid (sx.extract 0 q ++ zerosB (z - q) = trD sx z) := by
      show _ = _
      unfold trD
      rw [HQ.out]
    obtain ⟨X, HX⟩ : ∃ X, Hid (sx.extract 0 q = X) := ⟨_, hid_in rfl⟩
    rw [HX.out] at hs1 HX0 HWD
    obtain ⟨n, HN⟩ : ∃ n, Hid (z - q = n) := ⟨_, hid_in rfl⟩
    rw [HN.out] at HWD
    have hxI : (X.size : Int) = qI := by rw [HX0.out]; exact HQI.out
    have HREP := hid_in (fun W => repeat_zero n (by have := HN.out; omega) W)
    obtain ⟨nI, HNI⟩ : ∃ nI : Int, Hid ((n : Int) = nI) := ⟨_, hid_in rfl⟩
    rw [HNI.out] at HREP
    have hsub : zI - qI = nI := by have h1 := HN.out; have h2 := HNI.out; have h3 := HQI.out; have h4 := hzI.out; omega
    have hnr : 0 ≤ nI ∧ nI ≤ 1024 := by have h1 := HN.out; have h2 := HNI.out; omega
    have hw1 : wrap64 (zI - qI) = nI := by rw [hsub]; unfold wrap64; omega
    have hw2 : IntKind.i64.wrap (zI - qI) = nI := by rw [hsub, IntKind.wrap_i64]; omega
    have hA2 := str_add X (zerosB n) (by rw [HX0.out, zerosB_size]; have := HN.out; omega)
    obtain ⟨Z, HZ⟩ : ∃ Z, Hid (zerosB n = Z) := ⟨_, hid_in rfl⟩
    rw [HZ.out] at HREP hA2 HWD
    clear hA2
    have hzZ : (Z.size : Int) = nI := by rw [← HZ.out, zerosB_size]; exact HNI.out
    have hsm1 : ¬ (9223372036854775807 < qI + nI) := by have h1 := HN.out; have h2 := HNI.out; have h3 := HQI.out; omega
    have HPUT := hid_in (fun W (k : Below w.heap.size w W) => put_any (H.out.below k) (HNM.out.below k) (gp_nms p) false (X ++ Z))
    clear ht2 hq1 hq2 hsub hnr
    go_upto_region 6 with fail
    go_region_with (first | (go_at_call 94; refine (HREP.out _).mono ?_; rintro e w4 ⟨rfl, hb4⟩; have hc4 := (below_drew w3).trans (hb4.mono (below_drew w3).size); obtain ⟨⟨u0, u1, u2, u3⟩, -⟩ := spot_cells HR3.out hc4; have o5' : w4.cell? ⟨w.heap.size, 5, none⟩ = some (.int .i64 zI) := (HRO3.out.below hc4 HRO3.out.lt).cell 5; have HC4 := hid_in hc4; have HB4 := hid_in (HB3.out.trans (hc4.mono HB3.out.size)); clear hb4 hc4) | (go_at_call 25; refine (HPUT.out _ HB4.out).mono ?_; rintro e w5 ⟨rfl, hf5, hg5⟩; have hmp := (H.out.below HB4.out).map; have hr5 := Row.map (HRA3.out.below HC4.out HRA3.out.lt) hmp hg5; have hro5 := Row.map (HRO3.out.below HC4.out HRO3.out.lt) hmp hg5; obtain ⟨⟨g0, g1, g2, g3, g4⟩, q0, q1, q2, q3, q4⟩ := res_cells hr5 (Below.refl _ w5); have p5 : w5.cell? ⟨w.heap.size, 5, none⟩ = some (.int .i64 zI) := hro5.cell 5; have HR5 := hid_in hr5; have HF5 := hid_in hf5; have HG5 := hid_in (grown_plus HB4.out hg5); clear hf5 hg5 hr5 hro5 hmp))
    all_goals
      go_wp2
      refine post_Row 4 37 rfl (w.heap.size + 1) rfl 37 [.int .i64 0, .bool false, .int .i64 zI, .string ⟨#[]⟩, .slice none 0 0] (set5_row HR5.out rfl _ _ _ _ _) _ Tryz.underlying37 rfl 5 info37 rfl rfl ⟨?_, ⟨_, HF5.out.set5 HR5.out (by decide) HG.out _ _ _ _ _, ?_⟩, grown_set5 HG5.out (Nat.le_succ _) _ _ _ _ _⟩
      · rw [HS.out, HEK.out, if_pos rfl, hzI.out]
      · rw [HA.out, HEK.out, if_pos rfl, putP_ent, ← HWD.out]; rfl
  · have hk2 : (e0 != 0) = true := by simpa using hk
    have HK0 := hid_in hk
    clear hk
    go_wp2_with (first | (go_at_call 30; refine (HREF.out _ _).mono ?_; rintro e w5 ⟨rfl, hb5⟩; obtain ⟨⟨⟨g0, g1, g2, g3, g4⟩, q0, q1, q2, q3, q4⟩, hr5, hb5'⟩ := HERR.out _ hb5; have HR5 := hid_in hr5; have HB5 := hid_in hb5'; clear hb5 hr5 hb5'))
    refine post_err H.out HR5.out HB5.out e0 _ rfl rfl rfl fun W' hf hg => ⟨?_, ⟨L, hf, ?_⟩, hg⟩
    · rw [HS.out, HE.out, if_neg HK0.out]; rfl
    · rw [HA.out, HE.out, if_neg HK0.out]
theorem truncate_any {w : World} {g m : Nat} {L : List Spot} (h : Fs w g m L) (hsm : Small (L.map Spot.ent)) (k a : Int) (z : Nat) (p t d : ByteArray) (hp : p.size ≤ 9223372036854775807) (hz : z ≤ 1024) :
    Calls Tryz.prog 66 #[.pointer (some ⟨g, 0, none⟩), .agg #[.int .i64 k, .string p, .string t, .string d, .int .i64 a, .int .i64 (z : Int)]] w fun e w' => e = .returned (Res.val ⟨trE (L.map Spot.ent) (nmsOf p), false, trS (L.map Spot.ent) (nmsOf p) z, ⟨#[]⟩, .slice none 0 0⟩) ∧ (∃ L', Fs w' g m L' ∧ L'.map Spot.ent = trA (L.map Spot.ent) (nmsOf p) z) ∧ w.grownBy w' (some m) := truncate_aux h hsm k a z _ rfl p t d hp hz
end Go.Proofs.YtngehkmdanhgpaaGreat.Pl
