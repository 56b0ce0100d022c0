/-
  An upper branch by what is there: Put, Drop, Count, Size, Over; awake. The reference's In, by states. The walks of Int and Flag, written and read, of wire and of the reference. The walk of Node: the node that plain data mean.
-/
import Derived.Laws.CopyOwn
import Derived.Deep.RegionLaw
import Derived.Deep.DrawnRows
import Derived.Laws.Tables
import Derived.Test.YtglfeocfhlmloaaV00
import Derived.Test.YtglfeocfhlmloaaV01
import Derived.Test.YtglfeocfhlmloaaV02
import Derived.Test.YtglfeocfhlmloaaV03
import Derived.Test.YtglfeocfhlmloaaV04
import Derived.Test.YtglfeocfhlmloaaV05
import Derived.Test.YtglfeocfhlmloaaV06
import Derived.Test.YtglfeocfhlmloaaV07
import Derived.Test.YtglfeocfhlmloaaV08
import Derived.Test.YtglfeocfhlmloaaV09
import Derived.Test.YtglfeocfhlmloaaV10
import Derived.Test.YtglfeocfhlmloaaV11
import Derived.Test.YtglfeocfhlmloaaV12
import Derived.Test.YtglfeocfhlmloaaV13
import Derived.Test.YtglfeocfhlmloaaV14
import Derived.Test.YtglfeocfhlmloaaV15
import Derived.Test.YtglfeocfhlmloaaV16
import Derived.Test.YtglfeocfhlmloaaV17
import Derived.Test.YtglfeocfhlmloaaV18
import Derived.Test.YtglfeocfhlmloaaV19
import Derived.Test.YtglfeocfhlmloaaV20
import Derived.Test.YtglfeocfhlmloaaV21
import Derived.Test.YtglfeocfhlmloaaV22
import Derived.Test.YtglfeocfhlmloaaV23
import Derived.Test.YtglfeocfhlmloaaV24
import Derived.Test.YtglfeocfhlmloaaV25
import Derived.Test.YtglfeocfhlmloaaV26
namespace Go.Proofs.Ytglfeocfhlmloaa.Up
open Go.RowKit
open Vp (Str B bl Val cmpL parseS showS withinS IsPath checkS)
open Nd (Row wp_world post_Row post_Row2 grownBy_setCell below_of_grown)
def belowE (xs : List Str) (e : Ent) : Bool := decide (xs.length < e.names.length) && withinS e.names xs
theorem belowB_ent (xs : List Str) (L : List Spot) : (L.filter (belowB xs)).map Spot.ent = (L.map Spot.ent).filter (belowE xs) := by
  rw [List.filter_map]
  rfl
def outE (xs : List Str) (e : Ent) : Bool := !withinS e.names xs
theorem out_ent (xs : List Str) (L : List Spot) : (L.filter (outX xs)).map Spot.ent = (L.map Spot.ent).filter (outE xs) := by
  rw [List.filter_map]
  rfl
def dirA (A : List Ent) (xs : List Str) : Int := if xs = [] then 0 else match entAt A xs with | none => 4 | some s => if s.kind = 2 then 0 else 70
def hasA (A : List Ent) (xs : List Str) : Bool := decide (0 < (A.filter (belowE xs)).length)
def placeA (A : List Ent) (xs : List Str) (k : Int) : Int := if dirA A xs.dropLast ≠ 0 then dirA A xs.dropLast else if (entAt A xs).isSome = true then (if k = 2 then 0 else if hasA A xs then 130 else 0) else if 1024 ≤ A.length then 8 else 0
def putEA (A : List Ent) (p : ByteArray) (k : Int) (q : Bool) (d : ByteArray) : Int := if errOf p ≠ 0 then errOf p else if nmsOf p = [] then 132 else if formE k q d ≠ 0 then formE k q d else placeA A (nmsOf p) k
theorem dir_ent (L : List Spot) (xs : List Str) : dirE L xs = dirA (L.map Spot.ent) xs := by
  unfold dirE dirA
  rw [← spotAt_ent]
  cases spotAt L xs <;> rfl
theorem has_ent (L : List Spot) (xs : List Str) : hasB L xs = hasA (L.map Spot.ent) xs := by
  unfold hasB hasA
  rw [← belowB_ent, List.length_map]
theorem place_ent (L : List Spot) (xs : List Str) (k : Int) : placeE L xs k = placeA (L.map Spot.ent) xs k := by
  unfold placeE placeA
  rw [dir_ent, has_ent, ← spotAt_ent, List.length_map]
  cases spotAt L xs <;> rfl
theorem putE_ent (L : List Spot) (p : ByteArray) (k : Int) (q : Bool) (d : ByteArray) : putE L p k q d = putEA (L.map Spot.ent) p k q d := by
  unfold putE putEA
  rw [place_ent]
/-- an upper branch, by what is there -/
def FsA (w : World) (g m : Nat) (N Z : Int) (A : List Ent) : Prop := ∃ L, Fs w g m N Z L ∧ L.map Spot.ent = A
theorem FsA.below {w w' : World} {g m : Nat} {N Z : Int} {A : List Ent} (h : FsA w g m N Z A) (k : Below w.heap.size w w') : FsA w' g m N Z A := by
  obtain ⟨L, h1, h2⟩ := h
  exact ⟨L, h1.below k, h2⟩
def putU (A : List Ent) (p : ByteArray) (k : Int) (q : Bool) (d : ByteArray) : List Ent := if putEA A p k q d = 0 then putA A ⟨nmsOf p, k, q, d⟩ else A
theorem w_put {w : World} {g m : Nat} {N Z : Int} {A : List Ent} (h : FsA w g m N Z A) (hn : A.length ≤ 100000) (p : ByteArray) (k : Int) (q : Bool) (d : ByteArray) (hs : p.size ≤ 9223372036854775807) :
    Calls Try.prog 21 #[.pointer (some ⟨g, 0, none⟩), .agg #[.string p, .int .i64 k, .bool q, .string d]] w fun e w' => e = .returned (.int .i64 (putEA A p k q d)) ∧ FsA w' g m N Z (putU A p k q d) ∧ w.grownBy w' (some m) := by
  obtain ⟨L, h1, rfl⟩ := h
  refine (put_any h1 (by simpa using hn) p k q d hs).mono ?_
  rintro e w' ⟨rfl, hp, hg⟩
  rw [putE_ent] at *
  refine ⟨rfl, ?_, hg⟩
  unfold putU
  rcases hp with ⟨hne, hF⟩ | ⟨he, v, hF⟩
  · rw [putE_ent] at hne
    rw [if_neg hne]
    exact ⟨L, hF, rfl⟩
  · rw [putE_ent] at he
    rw [if_pos he]
    exact ⟨_, hF, putP_ent _ _⟩
theorem w_drop {w : World} {g m : Nat} {N Z : Int} {A : List Ent} (h : FsA w g m N Z A) (hn : A.length ≤ 100000) {nv : Value} {xs : List Str} (hv : Val w nv xs) :
    Calls Try.prog 20 #[.pointer (some ⟨g, 0, none⟩), nv] w fun e w' => e = .returned (.int .i64 ((A.length : Int) - ((A.filter (outE xs)).length : Int))) ∧ FsA w' g m N Z (A.filter (outE xs)) ∧ w.grownBy w' (some m) := by
  obtain ⟨L, h1, rfl⟩ := h
  refine (drop_any h1 hv (by simpa using hn)).mono ?_
  rintro e w' ⟨rfl, hF, hg⟩
  rw [← out_ent, List.length_map, List.length_map]
  exact ⟨rfl, ⟨_, hF, rfl⟩, hg⟩
theorem w_count {w : World} {g m : Nat} {N Z : Int} {A : List Ent} (h : FsA w g m N Z A) : Calls Try.prog 22 #[.pointer (some ⟨g, 0, none⟩)] w fun e w' => e = .returned (.int .i64 (A.length : Int)) ∧ w' = w := by
  obtain ⟨L, h1, rfl⟩ := h
  rw [List.length_map]
  exact count_any h1
def sumA (A : List Ent) : Nat := (A.map (fun e => e.data.size)).sum
theorem sum_ent (L : List Spot) : sumD L = sumA (L.map Spot.ent) := by
  unfold sumD sumA
  rw [List.map_map]
  rfl
def Small (A : List Ent) : Prop := ∀ e ∈ A, e.data.size ≤ 1024
theorem small_ent {L : List Spot} (h : Small (L.map Spot.ent)) : ∀ s ∈ L, s.data.size ≤ 1024 := fun s hs => h s.ent (List.mem_map.2 ⟨s, hs, rfl⟩)
theorem w_size {w : World} {g m : Nat} {N Z : Int} {A : List Ent} (h : FsA w g m N Z A) (hn : A.length ≤ 100000) (hS : Small A) : Calls Try.prog 23 #[.pointer (some ⟨g, 0, none⟩)] w fun e w' => e = .returned (.int .i64 (sumA A : Int)) ∧ Below w.heap.size w w' := by
  obtain ⟨L, h1, rfl⟩ := h
  rw [← sum_ent]
  exact size_any h1 (by simpa using hn) (small_ent hS)
def overA (N Z : Int) (A : List Ent) : Bool := decide (N < (A.length : Int) ∨ Z < (sumA A : Int))
theorem w_over {w : World} {g m : Nat} {N Z : Int} {A : List Ent} (h : FsA w g m N Z A) (hn : A.length ≤ 100000) (hS : Small A) : Calls Try.prog 24 #[.pointer (some ⟨g, 0, none⟩)] w fun e w' => e = .returned (.bool (overA N Z A)) ∧ Below w.heap.size w w' := by
  obtain ⟨L, h1, rfl⟩ := h
  unfold overA
  rw [← sum_ent, List.length_map]
  exact over_any h1 (by simpa using hn) (small_ent hS)
theorem form_small {k : Int} {q : Bool} {d : ByteArray} (h : formE k q d = 0) : d.size ≤ 1024 := by
  unfold formE at h
  split at h
  · rename_i h1; exact absurd h h1
  · split at h
    · cases h
    · omega
theorem putA_len : ∀ (A : List Ent) (e : Ent), (putA A e).length ≤ A.length + 1
  | [], e => by simp [putA]
  | a :: r, e => by
    simp only [putA]
    split
    · simp
    · have := putA_len r e
      simp only [List.length_cons]
      omega
theorem putU_len (A : List Ent) (p : ByteArray) (k : Int) (q : Bool) (d : ByteArray) : (putU A p k q d).length ≤ A.length + 1 := by
  unfold putU
  split
  · exact putA_len _ _
  · omega
def pA : ByteArray := ⟨#[47, 97]⟩
def pAF : ByteArray := ⟨#[47, 97, 47, 102]⟩
def aw1 : List Ent := [⟨[[97]], 2, false, ⟨#[]⟩⟩]
def aw2 : List Ent := [⟨[[97]], 2, false, ⟨#[]⟩⟩, ⟨[[97], [102]], 1, false, ⟨#[104, 105]⟩⟩]
theorem aw_1 : putEA [] pA 2 false ⟨#[]⟩ = 0 ∧ putU [] pA 2 false ⟨#[]⟩ = aw1 := by decide +kernel
theorem aw_2 : putEA aw1 pAF 1 false ⟨#[104, 105]⟩ = 0 ∧ putU aw1 pAF 1 false ⟨#[104, 105]⟩ = aw2 := by decide +kernel
theorem aw_3 : putEA aw2 pA 3 false ⟨#[]⟩ = 130 ∧ putU aw2 pA 3 false ⟨#[]⟩ = aw2 := by decide +kernel
theorem aw_4 : aw2.length = 2 ∧ sumA aw2 = 2 ∧ overA 1 9 aw2 = true ∧ (∀ e ∈ aw2, e.data.size ≤ 1024) := by decide +kernel
set_option maxHeartbeats 2000000 in
set_option maxRecDepth 100000 in
theorem awake_any (w : World) : Calls Try.prog 7 #[] w fun e w' => e = .returned (.bool true) ∧ Below w.heap.size w w' := by
  have HNW := hid_in (new_ok 1 9 w (by unfold quotaOk; omega))
  have H1 := hid_in (fun W g m (k : FsA W g m 1 9 []) => w_put k (by simp) pA 2 false ⟨#[]⟩ (by decide))
  have H2 := hid_in (fun W g m (k : FsA W g m 1 9 aw1) => w_put k (by decide) pAF 1 false ⟨#[104, 105]⟩ (by decide))
  have H3 := hid_in (fun W g m (k : FsA W g m 1 9 aw2) => w_put k (by decide) pA 3 false ⟨#[]⟩ (by decide))
  have H4 := hid_in (fun W g m (k : FsA W g m 1 9 aw2) => w_count k)
  have H5 := hid_in (fun W g m (k : FsA W g m 1 9 aw2) => w_size k (by decide) aw_4.2.2.2)
  have H6 := hid_in (fun W g m (k : FsA W g m 1 9 aw2) => w_over k (by decide) aw_4.2.2.2)
  rw [aw_1.1, aw_1.2] at H1
  rw [aw_2.1, aw_2.2] at H2
  rw [aw_3.1, aw_3.2] at H3
  rw [aw_4.1] at H4
  rw [aw_4.2.1] at H5
  rw [aw_4.2.2.1] at H6
  simp only [pA, pAF] at H1 H2 H3
  generalize aw2 = A2 at *
  generalize aw1 = A1 at *
  go_enter Try.func7, Try.ntmps7
  go_upto_region 5 with (first | (go_at_call 9; refine HNW.out.mono ?_; rintro e w1 ⟨g, m, rfl, hf1, hb1, hm1⟩; have HF1 : Hid (FsA w1 g m 1 9 []) := hid_in ⟨[], hf1, rfl⟩; have HB1 := hid_in hb1; have HM := hid_in hm1; clear hf1 hb1 hm1) | (go_at_call 21; refine (H1.out _ _ _ HF1.out).mono ?_; rintro e w2 ⟨rfl, hf2, hg2⟩; have HF2 := hid_in hf2; have HB2 := hid_in (HB1.out.grown hg2 HB1.out.size (fun k e => by obtain rfl := Option.some.inj e; exact HM.out)); clear hf2 hg2))
  go_upto_region 6 with (go_at_call 21; refine (H2.out _ _ _ HF2.out).mono ?_; rintro e w3 ⟨rfl, hf3, hg3⟩; have HF3 := hid_in hf3; have HB3 := hid_in (HB2.out.grown hg3 HB2.out.size (fun k e => by obtain rfl := Option.some.inj e; exact HM.out)); clear hf3 hg3)
  go_upto_region 7 with (go_at_call 21; refine (H3.out _ _ _ HF3.out).mono ?_; rintro e w4 ⟨rfl, hf4, hg4⟩; have HF4 := hid_in hf4; have HB4 := hid_in (HB3.out.grown hg4 HB3.out.size (fun k e => by obtain rfl := Option.some.inj e; exact HM.out)); clear hf4 hg4)
  go_wp2_with (first | (go_at_call 22; refine (H4.out _ _ _ HF4.out).mono ?_; rintro e w5 ⟨rfl, hw5⟩; replace hw5 := hw5.symm; subst hw5) | (go_at_call 23; refine (H5.out _ _ _ HF4.out).mono ?_; rintro e w6 ⟨rfl, hb6⟩; have HF6 := hid_in (HF4.out.below hb6); have HB6 := hid_in (HB4.out.trans (hb6.mono HB4.out.size)); clear hb6) | (go_at_call 24; refine (H6.out _ _ _ HF6.out).mono ?_; rintro e w7 ⟨rfl, hb7⟩; have HB7 := hid_in (HB6.out.trans (hb7.mono HB6.out.size)); clear hb7))
  go_ret
  exact ⟨rfl, HB7.out⟩
end Go.Proofs.Ytglfeocfhlmloaa.Up
namespace Go.Proofs.Ytglfeocfhlmloaa.Nd
open Go.RowKit
def zs : List Value := [.int .i64 0, .string ⟨#[]⟩, .int .i64 0, .slice none 0 0, .slice none 0 0]
end Go.Proofs.Ytglfeocfhlmloaa.Nd
namespace Go.Proofs.Ytglfeocfhlmloaa.Nd
open Go.RowKit
namespace Wire
/-- a flag that is read: what it is, what is left, what is wrong -/
def rflag : List Nat → Bool × List Nat × Nat
  | [] => (false, [], 20)
  | c :: r => if 1 < c then (false, [], 21) else (decide (c = 1), r, 0)
end Wire
set_option maxHeartbeats 1000000 in
set_option maxRecDepth 100000 in
theorem oflag_any (w : World) (B g : Nat) (v : Value) (xs : List Nat) (fl : Bool) (ho : OutIs w B g v xs) (hl : xs.length + 1 ≤ 140737488355328) :
    Calls Try.prog 42 #[.pointer (some ⟨g, 0, none⟩), .bool fl] w fun e w' => e = .returned (.tuple #[]) ∧ ∃ v', OutIs w' B g v' (xs ++ [if fl then 1 else 0]) ∧ Grew w w' (OutS g v) ∧ Moved w v v' := by
  obtain ⟨i5i, HI5, HE1, HE2, HE3⟩ := i5h
  have c0 : w.cell? ⟨g, 0, none⟩ = some v := ho.row.cell 0
  have f0 := ho.row.frozen 0
  have hown := ho.own
  have hbase := ho.base
  have HO := hid_in ho
  clear ho
  cases fl
  · go_enter Try.func42, Try.ntmps42
    go_wp2_with (at_builtin; refine wpList_append_one_at rfl _ _ 43 rfl B 5 i5i (.int .u8 0) Try.underlying43 HI5.out HE3.out HE1.out HE2.out rfl _ _ _ rfl hown 5 _ rfl rfl hl hbase ?_; intro v1 w1 hown1 hg1 hm1; have HM1 := hid_in hm1; clear hm1; obtain ⟨q1, cq1, rfl, _, _⟩ := hown1.form (Nat.succ_pos _); have cg : w1.cell? ⟨g, 0, none⟩ = some v := (HO.out.row.grew hg1 (fun h => HO.out.apart h.symm)).cell 0; have fg := (HO.out.row.grew hg1 (fun h => HO.out.apart h.symm)).frozen 0)
    exact bodyPost_end (results_none Try.results42 _ _ _) rfl ⟨rfl, _, (out_step (y := 0) (by omega) HO.out hown1 hg1 HM1.out rfl).1, (out_step (y := 0) (by omega) HO.out hown1 hg1 HM1.out rfl).2, HM1.out⟩
  · go_enter Try.func42, Try.ntmps42
    go_wp2_with (at_builtin; refine wpList_append_one_at rfl _ _ 43 rfl B 5 i5i (.int .u8 0) Try.underlying43 HI5.out HE3.out HE1.out HE2.out rfl _ _ _ rfl hown 5 _ rfl rfl hl hbase ?_; intro v1 w1 hown1 hg1 hm1; have HM1 := hid_in hm1; clear hm1; obtain ⟨q1, cq1, rfl, _, _⟩ := hown1.form (Nat.succ_pos _); have cg : w1.cell? ⟨g, 0, none⟩ = some v := (HO.out.row.grew hg1 (fun h => HO.out.apart h.symm)).cell 0; have fg := (HO.out.row.grew hg1 (fun h => HO.out.apart h.symm)).frozen 0)
    exact bodyPost_ret (results_none Try.results42 _ _ _) rfl ⟨rfl, _, (out_step (y := 1) (by omega) HO.out hown1 hg1 HM1.out rfl).1, (out_step (y := 1) (by omega) HO.out hown1 hg1 HM1.out rfl).2, HM1.out⟩
theorem iflag_bad {B : Nat} (w : World) (g e : Nat) (bs : List Nat) (he : e ≠ 0) (hi : InIs B w g bs e) :
    Calls Try.prog 90 #[.pointer (some ⟨g, 0, none⟩)] w fun r w' => r = .returned (.bool false) ∧ w' = w := by
  have HI := hid_in hi
  clear hi
  go_enter Try.func90, Try.ntmps90
  go_wp2_with fail
  refine (take_bad _ g e 1 bs he HI.out).mono ?_
  rintro e w1 ⟨rfl, rfl⟩
  go_wp2
  go_ret
  exact ⟨rfl, rfl⟩
set_option maxHeartbeats 400000 in
theorem iflag_any {B : Nat} (w : World) (g : Nat) (bs : List Nat) (hlt : ∀ x ∈ bs, x < 256) (hi : InIs B w g bs 0) :
    Calls Try.prog 90 #[.pointer (some ⟨g, 0, none⟩)] w fun r w' => r = .returned (.bool (Wire.rflag bs).1) ∧ InIs B w' g (Wire.rflag bs).2.1 (Wire.rflag bs).2.2 ∧ w.grownBy w' (some g) ∧ w'.heap.size = w.heap.size := by
  have HI := hid_in hi
  clear hi
  go_enter Try.func90, Try.ntmps90
  rcases bs with _ | ⟨c, r⟩
  · go_wp2_with fail
    refine (take_short _ g 1 [] (by simp) HI.out).mono ?_
    rintro e w1 ⟨rfl, h1, h2, h3⟩
    have H1 := hid_in h1
    have H2 := hid_in h2
    have H3 := hid_in h3
    clear h1 h2 h3
    go_wp2
    go_ret
    exact ⟨rfl, H1.out, H2.out, H3.out⟩
  · have hc := hlt c (by simp)
    clear hlt
    go_wp2_with fail
    refine (take_some _ g 1 (c :: r) (by omega) (by simp) HI.out).mono ?_
    rintro e w1 ⟨b, off, cap, rfl, hsl, h1, h2, h3⟩
    have c0 : w1.cell? ⟨b, off, none⟩ = some (.int .u8 (c : Int)) := hsl.src 0 (by simp)
    have H1 : Hid (InIs B w1 g r 0) := h1
    have H2 := hid_in h2
    have H3 := hid_in h3
    have HF1 := hid_in (h1.ex)
    clear h1 h2 h3 hsl HI
    by_cases hbad : 1 < c
    · have k0 : ¬ ((c : Int) = 0) := by omega
      have k1 : ((c : Int) != 0) = true := by rw [bne_iff_ne]; omega
      have k2 : ((c : Int) != 1) = true := by rw [bne_iff_ne]; omega
      have HV : Hid (Wire.rflag (c :: r) = (false, [], 21)) := by show _ = _; unfold Wire.rflag; simp only; rw [if_pos hbad]
      obtain ⟨p2, cap2, b2, off2, hrow, _, _, _⟩ := HF1.out
      have HFF := hid_in (fail_any (B := B) w1 g 21 _ _ hrow)
      clear hrow HF1 hbad
      go_wp2_with fail
      refine HFF.out.mono ?_
      rintro e w2 ⟨rfl, h1, h2, h3⟩
      have H4 := hid_in h1
      have H5 := hid_in h2
      have H6 := hid_in h3
      clear h1 h2 h3
      go_wp2
      go_ret
      rw [HV.out]
      exact ⟨rfl, H4.out, grownBy_trans H2.out H5.out, H6.out.trans H3.out⟩
    · have HV : Hid (Wire.rflag (c :: r) = (decide (c = 1), r, 0)) := by show _ = _; unfold Wire.rflag; simp only; rw [if_neg hbad]
      obtain rfl | rfl : c = 0 ∨ c = 1 := by omega
      · clear hbad hc
        go_wp2
        go_ret
        rw [HV.out]
        exact ⟨rfl, H1.out, H2.out, H3.out⟩
      · clear hbad hc
        go_wp2
        go_ret
        rw [HV.out]
        exact ⟨rfl, H1.out, H2.out, H3.out⟩
end Go.Proofs.Ytglfeocfhlmloaa.Nd
namespace Go.Proofs.Ytglfeocfhlmloaa.Nd
open Go.RowKit
/-- a slice of slices of bytes -/
def Bss (w : World) (v : Value) (ps : List (List Nat)) : Prop := ∃ p cap b o, v = .slice p ps.length cap ∧ ps.length ≤ cap ∧ cap ≤ 9223372036854775807 ∧ (ps ≠ [] → p = some ⟨b, o, none⟩ ∧ b < w.heap.size) ∧ ∀ (i : Nat) bs, ps[i]? = some bs → ∃ q c b' o', w.cell? ⟨b, o + i, none⟩ = some (.slice q bs.length c) ∧ Sl w q bs c b' o'
/-- a slice of texts -/
def Strs (w : World) (v : Value) (ns : List ByteArray) : Prop := ∃ p cap b o, v = .slice p ns.length cap ∧ ns.length ≤ cap ∧ cap ≤ 9223372036854775807 ∧ (ns ≠ [] → p = some ⟨b, o, none⟩ ∧ b < w.heap.size) ∧ ∀ (i : Nat) s, ns[i]? = some s → w.cell? ⟨b, o + i, none⟩ = some (.string s)
/-- a slice of numbers -/
def Ints (w : World) (v : Value) (ks : List Int) : Prop := ∃ p cap b o, v = .slice p ks.length cap ∧ ks.length ≤ cap ∧ cap ≤ 9223372036854775807 ∧ (ks ≠ [] → p = some ⟨b, o, none⟩ ∧ b < w.heap.size) ∧ ∀ (i : Nat) k, ks[i]? = some k → w.cell? ⟨b, o + i, none⟩ = some (.int .i64 k)
theorem Bss.lt {w : World} {v : Value} {ps : List (List Nat)} (h : Bss w v ps) : ∀ bs ∈ ps, ∀ x ∈ bs, x < 256 := by
  obtain ⟨p, cap, b, o, _, _, _, _, hat⟩ := h
  intro bs hbs
  obtain ⟨i, hi, rfl⟩ := List.getElem_of_mem hbs
  obtain ⟨q, c, b', o', _, hs⟩ := hat i _ (List.getElem?_eq_getElem hi)
  exact hs.lt
end Go.Proofs.Ytglfeocfhlmloaa.Nd
