/-
  Flag of the reference: written and read. slices.SortFunc, laid at this program. What the document says of paths, over lists of bytes; small laws on strings.
-/
import Derived.Deep.CutRange
import Derived.Laws.CopyOwn
import Derived.Deep.RegionLaw
import Derived.Deep.DrawnRows
import Derived.Laws.Tables
import Derived.Shelf.SlSortCmp.WholeK
import Derived.Shelf.SlSortCmp.NoneTotal
import Derived.Ground.SlsfProg
import Derived.Test.YtglfeocfhlmloaaGreatRows
import Derived.WalkKit
import Derived.WalkSpells
import Derived.WalkLawsBesides
import Derived.Deep.Light
import Derived.Lib.Strings
import Derived.BigQuiet
import Derived.BigRegion
import Derived.Test.YtglfeocfhlmloaaGreatY00
import Derived.Test.YtglfeocfhlmloaaGreatY01
import Derived.Test.YtglfeocfhlmloaaGreatY02
import Derived.Test.YtglfeocfhlmloaaGreatY03
import Derived.Test.YtglfeocfhlmloaaGreatY04
import Derived.Test.YtglfeocfhlmloaaGreatY05
import Derived.Test.YtglfeocfhlmloaaGreatY06
import Derived.Test.YtglfeocfhlmloaaGreatY07
import Derived.Test.YtglfeocfhlmloaaGreatY08
import Derived.Test.YtglfeocfhlmloaaGreatY09
import Derived.Test.YtglfeocfhlmloaaGreatY10
namespace Go.Proofs.YtglfeocfhlmloaaGreat.Nd
open Go.RowKit
theorem rwflag_any (w : World) (fl : Bool) :
    Calls Tryz.prog 28 #[.bool fl] w fun e w' => ∃ v, e = .returned v ∧ w'.ownsRow w.heap.size 5 1 v 1 ([if fl then 1 else 0].map u8v) ∧ Below w.heap.size w w' := by
  have hb : ∀ x : Value, Below w.heap.size w (w.alloc (.cells #[x] 5)) := fun x => (Below.refl _ _).alloc (Nat.le_refl _) _
  have ho : ∀ y : Nat, (w.alloc (.cells #[u8v y] 5)).ownsRow w.heap.size 5 1 (.slice (some ⟨w.heap.size, 0, none⟩) 1 1) 1 [u8v y] := fun y => by
    refine ⟨by simp, .inr ⟨w.heap.size, 1, _, rfl, Nat.le_refl _, heap_alloc_new w _, by omega, by unfold maxLen; omega, by simp, ?_⟩⟩
    simp
  have HO := hid_in ho
  have HB := hid_in hb
  clear ho hb
  cases fl
  · go_enter Tryz.func28, Tryz.ntmps28
    go_wp2
    go_ret
    exact ⟨_, rfl, HO.out 0, HB.out _⟩
  · go_enter Tryz.func28, Tryz.ntmps28
    go_wp2
    go_ret
    exact ⟨_, rfl, HO.out 1, HB.out _⟩
theorem rflag_bad {B : Nat} (w : World) (g : Nat) (t : TypeId) (bs : List Nat) (k e : Nat) (he : e ≠ 0) (hi : RIs B w g t bs k e) :
    Calls Tryz.prog 34 #[.pointer (some ⟨g, 0, none⟩)] w fun r w' => r = .returned (.bool false) ∧ w' = w := by
  obtain ⟨p, cap, b, off, hr, hsl, hne⟩ := hi.ex
  have c2 : w.cell? ⟨g, 2, none⟩ = some (.int .i64 (e : Int)) := hr.cell 2
  have k1 : ¬ ((e : Int) = 0) := by omega
  clear hi hr hsl hne
  go_enter Tryz.func34, Tryz.ntmps34
  go_wp2
  go_ret
  exact ⟨rfl, rfl⟩
set_option maxHeartbeats 400000 in
theorem rflag_none {B : Nat} (w : World) (g : Nat) (t : TypeId) (bs : List Nat) (k : Nat) (hd : bs.drop k = []) (hi : RIs B w g t bs k 0) :
    Calls Tryz.prog 34 #[.pointer (some ⟨g, 0, none⟩)] w fun r w' => r = .returned (.bool false) ∧ RIs B w' g t bs bs.length 20 ∧ Grew w w' (· = g) := by
  have hk : k = bs.length := by have := hi.le; simp at hd; omega
  have hl := hi.len
  obtain ⟨p, cap, b, off, hr, hsl, hne⟩ := hi.ex
  have c0 : w.cell? ⟨g, 0, none⟩ = some (.slice p bs.length cap) := hr.cell 0
  have c1 : w.cell? ⟨g, 1, none⟩ = some (.int .i64 (k : Int)) := hr.cell 1
  have c2 : w.cell? ⟨g, 2, none⟩ = some (.int .i64 0) := hr.cell 2
  have k1 : (bs.length : Int) ≤ (k : Int) := by omega
  have HI := hid_in hi
  clear hi hr hsl hne hd hk
  go_enter Tryz.func34, Tryz.ntmps34
  go_wp2_with fail
  go_region
  go_wp2_with fail
  refine (rbad_any w.drew g t bs k 0 20 HI.out.drew).mono ?_
  rintro e1 w1 ⟨rfl, h1, h2, h3⟩
  have H1 := hid_in h1
  have H2 := hid_in h2
  clear h1 h2 h3 c0 c1 c2
  go_wp2
  go_ret
  refine ⟨rfl, H1.out, ?_⟩
  exact ((Grew.of_below (· = g) (Below.refl _ w).drew).trans (Grew.of_grown H2.out) (fun q _ h => by simpa using h))
set_option maxHeartbeats 1000000 in
theorem rflag_over {B : Nat} (w : World) (g : Nat) (t : TypeId) (bs : List Nat) (k c : Nat) (r : List Nat) (hd : bs.drop k = c :: r) (hb : 1 < c) (hi : RIs B w g t bs k 0) :
    Calls Tryz.prog 34 #[.pointer (some ⟨g, 0, none⟩)] w fun r w' => r = .returned (.bool false) ∧ RIs B w' g t bs bs.length 21 ∧ Grew w w' (· = g) := by
  obtain ⟨hk, hr', ⟨p, cap, b, off, hr, rfl, hcell, hbg⟩, _, hc⟩ := ris_step hi hd
  have HN := hid_in (ris_step hi.drew.drew hd).2.2.2.1
  have hl := hi.len
  have c0 : w.cell? ⟨g, 0, none⟩ = some (.slice (some ⟨b, off, none⟩) bs.length cap) := hr.cell 0
  have c1 : w.cell? ⟨g, 1, none⟩ = some (.int .i64 (k : Int)) := hr.cell 1
  have c2 : w.cell? ⟨g, 2, none⟩ = some (.int .i64 0) := hr.cell 2
  have k1 : ¬ ((bs.length : Int) ≤ (k : Int)) := by omega
  have k2 : (k : Int) < (bs.length : Int) := by omega
  have f1 := hr.frozen 1
  clear hi hr hd hk hr'
  have k3 : (1 : Int) < (c : Int) := by omega
  go_enter Tryz.func34, Tryz.ntmps34
  go_wp2_with fail
  go_region
  go_wp2_with fail
  go_region
  go_wp2_with fail
  refine (rbad_any _ g t bs (k + 1) 0 21 HN.out).mono ?_
  rintro e1 w1 ⟨rfl, h1, h2, h3⟩
  have H1 := hid_in h1
  have H2 := hid_in h2
  clear h1 h2 h3 c0 c1 c2 hcell
  go_wp2
  go_ret
  refine ⟨rfl, H1.out, ?_⟩
  exact ((Grew.of_below (· = g) (Below.refl _ w).drew.drew).trans (Grew.of_grown (grownBy_setCell w.drew.drew ⟨g, 1, none⟩ _)) (fun q _ h => by simpa using h)).trans (Grew.of_grown H2.out) (fun q _ h => by simpa using h)
set_option maxHeartbeats 1000000 in
theorem rflag_ok {B : Nat} (w : World) (g : Nat) (t : TypeId) (bs : List Nat) (k c : Nat) (r : List Nat) (hd : bs.drop k = c :: r) (hb : c ≤ 1) (hi : RIs B w g t bs k 0) :
    Calls Tryz.prog 34 #[.pointer (some ⟨g, 0, none⟩)] w fun r w' => r = .returned (.bool (decide (c = 1))) ∧ RIs B w' g t bs (k + 1) 0 ∧ Grew w w' (· = g) := by
  obtain ⟨hk, hr', ⟨p, cap, b, off, hr, rfl, hcell, hbg⟩, _, hc⟩ := ris_step hi hd
  have HN := hid_in (ris_step hi.drew.drew hd).2.2.2.1
  have hl := hi.len
  have c0 : w.cell? ⟨g, 0, none⟩ = some (.slice (some ⟨b, off, none⟩) bs.length cap) := hr.cell 0
  have c1 : w.cell? ⟨g, 1, none⟩ = some (.int .i64 (k : Int)) := hr.cell 1
  have c2 : w.cell? ⟨g, 2, none⟩ = some (.int .i64 0) := hr.cell 2
  have k1 : ¬ ((bs.length : Int) ≤ (k : Int)) := by omega
  have k2 : (k : Int) < (bs.length : Int) := by omega
  have f1 := hr.frozen 1
  clear hi hr hd hk hr'
  obtain rfl | rfl : c = 0 ∨ c = 1 := by omega
  · go_enter Tryz.func34, Tryz.ntmps34
    go_wp2_with fail
    go_region
    go_wp2_with fail
    go_region
    go_wp2_with fail
    go_ret
    exact ⟨rfl, HN.out, (Grew.of_below (· = g) (Below.refl _ w).drew.drew).trans (Grew.of_grown (grownBy_setCell w.drew.drew ⟨g, 1, none⟩ _)) (fun q _ h => by simpa using h)⟩
  · go_enter Tryz.func34, Tryz.ntmps34
    go_wp2_with fail
    go_region
    go_wp2_with fail
    go_region
    go_wp2_with fail
    go_ret
    exact ⟨rfl, HN.out, (Grew.of_below (· = g) (Below.refl _ w).drew.drew).trans (Grew.of_grown (grownBy_setCell w.drew.drew ⟨g, 1, none⟩ _)) (fun q _ h => by simpa using h)⟩
theorem rflag_s (w : World) (g B : Nat) (s : Sta) (hi : RI B w g s) : Calls Tryz.prog 34 #[.pointer (some ⟨g, 0, none⟩)] w fun r w' => r = .returned (.bool (sFlag s).1) ∧ RI B w' g (sFlag s).2 ∧ Grew w w' (· = g) := by
  obtain ⟨l, e⟩ := s
  obtain ⟨bs, k, h, hd⟩ := hi
  simp only at h hd
  unfold sFlag
  split
  · rename_i h0
    obtain rfl : e = 0 := h0
    cases l with
    | nil =>
      refine (rflag_none w g 71 bs k hd h).mono ?_
      rintro r w' ⟨rfl, h1, h2⟩
      exact ⟨rfl, ⟨bs, bs.length, h1, by simp [Wire.rflag]⟩, h2⟩
    | cons c r =>
      by_cases hc : 1 < c
      · refine (rflag_over w g 71 bs k c r hd hc h).mono ?_
        rintro r w' ⟨rfl, h1, h2⟩
        simp only [Wire.rflag, if_pos hc]
        exact ⟨trivial, ⟨bs, bs.length, h1, by simp⟩, h2⟩
      · refine (rflag_ok w g 71 bs k c r hd (by omega) h).mono ?_
        rintro r w' ⟨rfl, h1, h2⟩
        simp only [Wire.rflag, if_neg hc]
        refine ⟨trivial, ⟨bs, k + 1, h1, ?_⟩, h2⟩
        rw [← List.drop_drop, hd]
        rfl
  · rename_i h0
    refine (rflag_bad w g 71 bs k e h0 h).mono ?_
    rintro r w' ⟨rfl, rfl⟩
    exact ⟨rfl, ⟨bs, k, h, hd⟩, Grew.refl _ _⟩
end Go.Proofs.YtglfeocfhlmloaaGreat.Nd
namespace Go.Proofs
open Go.Shelf Go.RowKit Go.Lib Go.Sort
def Tryz.sortSp_ren : Go.Shelf.Ren := ⟨fun | 6 => 53 | 15 => 70 | 14 => 69 | 28 => 91 | 29 => 92 | 20 => 83 | 21 => 84 | 22 => 85 | 23 => 86 | 24 => 87 | 25 => 88 | 26 => 89 | 27 => 90 | 46 => 100 | 47 => 101 | 48 => 102 | 49 => 103 | 50 => 104 | 57 => 109 | n => n, fun | 22 => 87 | 24 => 80 | 25 => 90 | 3 => 3 | 39 => 86 | 0 => 0 | 53 => 129 | 55 => 58 | 4 => 4 | 46 => 122 | 45 => 121 | 50 => 126 | 5 => 5 | 9 => 9 | 66 => 134 | 70 => 137 | 76 => 143 | 77 => 144 | n => n, fun | n => n⟩
theorem Tryz.sortSp : Go.Proofs.SlLaysF0.n6 Tryz.prog Tryz.sortSp_ren := {
  mixed := by kernel_rfl
  f6 := ⟨Tryz.f53.name, by decide, Tryz.func53.trans (congrArg some (by kernel_rfl))⟩
  f14 := ⟨Tryz.f69.name, by decide, Tryz.func69.trans (congrArg some (by kernel_rfl))⟩
  f15 := Tryz.func70.trans (congrArg some (by kernel_rfl))
  f20 := ⟨Tryz.f83.name, by decide, Tryz.func83.trans (congrArg some (by kernel_rfl))⟩
  f21 := ⟨Tryz.f84.name, by decide, Tryz.func84.trans (congrArg some (by kernel_rfl))⟩
  f22 := ⟨Tryz.f85.name, by decide, Tryz.func85.trans (congrArg some (by kernel_rfl))⟩
  f23 := ⟨Tryz.f86.name, by decide, Tryz.func86.trans (congrArg some (by kernel_rfl))⟩
  f24 := ⟨Tryz.f87.name, by decide, Tryz.func87.trans (congrArg some (by kernel_rfl))⟩
  f25 := ⟨Tryz.f88.name, by decide, Tryz.func88.trans (congrArg some (by kernel_rfl))⟩
  f26 := ⟨Tryz.f89.name, by decide, Tryz.func89.trans (congrArg some (by kernel_rfl))⟩
  f27 := ⟨Tryz.f90.name, by decide, Tryz.func90.trans (congrArg some (by kernel_rfl))⟩
  f28 := Tryz.func91.trans (congrArg some (by kernel_rfl))
  f29 := Tryz.func92.trans (congrArg some (by kernel_rfl))
  f46 := ⟨Tryz.f100.name, by decide, Tryz.func100.trans (congrArg some (by kernel_rfl))⟩
  f47 := Tryz.func101.trans (congrArg some (by kernel_rfl))
  f48 := Tryz.func102.trans (congrArg some (by kernel_rfl))
  f49 := ⟨Tryz.f103.name, by decide, Tryz.func103.trans (congrArg some (by kernel_rfl))⟩
  f50 := ⟨Tryz.f104.name, by decide, Tryz.func104.trans (congrArg some (by kernel_rfl))⟩
  f57 := ⟨Tryz.f109.name, by decide, Tryz.func109.trans (congrArg some (by kernel_rfl))⟩
  t0 := Tryz.underlying0
  a0 := Tryz.isAgg0
  z0 := Tryz.sizeOf0
  v0 := Tryz.zeroValue0
  t3 := Tryz.underlying3
  a3 := Tryz.isAgg3
  z3 := Tryz.sizeOf3
  v3 := Tryz.zeroValue3
  t4 := Tryz.underlying4
  a4 := Tryz.isAgg4
  z4 := Tryz.sizeOf4
  v4 := Tryz.zeroValue4
  t5 := Tryz.underlying5
  a5 := Tryz.isAgg5
  z5 := Tryz.sizeOf5
  v5 := Tryz.zeroValue5
  t9 := Tryz.underlying9
  a9 := Tryz.isAgg9
  z9 := Tryz.sizeOf9
  v9 := Tryz.zeroValue9
  t22 := Tryz.underlying87
  a22 := Tryz.isAgg87
  z22 := Tryz.sizeOf87
  v22 := Tryz.zeroValue87
  t25 := Tryz.underlying90
  a25 := Tryz.isAgg90
  z25 := Tryz.sizeOf90
  v25 := Tryz.zeroValue90
  t39 := Tryz.underlying86
  a39 := Tryz.isAgg86
  z39 := Tryz.sizeOf86
  v39 := Tryz.zeroValue86
  t45 := Tryz.underlying121
  a45 := Tryz.isAgg121
  z45 := Tryz.sizeOf121
  v45 := Tryz.zeroValue121
  t46 := Tryz.underlying122
  a46 := Tryz.isAgg122
  z46 := Tryz.sizeOf122
  v46 := Tryz.zeroValue122
  t50 := Tryz.underlying126
  a50 := Tryz.isAgg126
  z50 := Tryz.sizeOf126
  v50 := Tryz.zeroValue126
  t53 := Tryz.underlying129
  a53 := Tryz.isAgg129
  z53 := Tryz.sizeOf129
  v53 := Tryz.zeroValue129
  t55 := Tryz.underlying58
  a55 := Tryz.isAgg58
  z55 := Tryz.sizeOf58
  v55 := Tryz.zeroValue58
  t66 := Tryz.underlying134
  a66 := Tryz.isAgg134
  z66 := Tryz.sizeOf134
  v66 := Tryz.zeroValue134
  t70 := Tryz.underlying137
  a70 := Tryz.isAgg137
  z70 := Tryz.sizeOf137
  v70 := Tryz.zeroValue137
  t76 := Tryz.underlying143
  a76 := Tryz.isAgg143
  z76 := Tryz.sizeOf143
  v76 := Tryz.zeroValue143
  t77 := Tryz.underlying144
  a77 := Tryz.isAgg144
  z77 := Tryz.sizeOf144
  v77 := Tryz.zeroValue144 }
theorem Tryz.agg93 : ∀ w, (isAgg 80).run Tryz.prog w = .ok true w := fun w => by kernel_rfl
theorem Tryz.size93 : ∀ w, (Go.sizeOf 80).run Tryz.prog w = .ok 5 w := fun w => by kernel_rfl
end Go.Proofs
namespace Go.Proofs.YtglfeocfhlmloaaGreat.Vp
open Go.RowKit
theorem hid_in {p : Prop} (h : p) : Hid p := h
/-- a text's bytes -/
abbrev Str := List UInt8
/-- a text as the program has it -/
def B (x : Str) : ByteArray := ⟨x.toArray⟩
def bl (s : ByteArray) : Str := s.data.toList
theorem B_bl (s : ByteArray) : B (bl s) = s := by cases s; simp [B, bl]
theorem bl_B (x : Str) : bl (B x) = x := by simp [B, bl]
theorem bl_length (s : ByteArray) : (bl s).length = s.size := by simp only [bl, Array.length_toList]; rfl
theorem B_size (x : Str) : (B x).size = x.length := by rw [← bl_length, bl_B]
theorem B_inj {x y : Str} (h : B x = B y) : x = y := by rw [← bl_B x, ← bl_B y, h]
/-- may a byte stand in a name? -/
def plainN (n : Nat) : Prop := (97 ≤ n ∧ n ≤ 122) ∨ (65 ≤ n ∧ n ≤ 90) ∨ (48 ≤ n ∧ n ≤ 57) ∨ n = 46 ∨ n = 95 ∨ n = 45
instance (n : Nat) : Decidable (plainN n) := by unfold plainN; infer_instance
def kindN (n : Nat) : Int := if plainN n then 2 else if n = 47 then 1 else 0
/-- may a byte stand in a name? -/
def plain (c : UInt8) : Bool := decide (plainN c.toNat)
theorem index_str (s : ByteArray) (j : Nat) (c : UInt8) (hj : (bl s)[j]? = some c) (k : Int) (hk : k = (j : Int)) (w : World) : (Instr.index 9 (.string s) (.int .i64 k)).run Tryz.prog w = .ok (.int .u8 (c.toNat : Int)) w := by
  subst hk
  have hlt : j < s.size := by rw [← bl_length]; exact (List.getElem?_eq_some_iff.1 hj).1
  have hs : s[j]? = some s[j] := by simp [hlt]
  have hb : s[j] = c := by
    have h1 : j < s.data.size := hlt
    simp only [bl, Array.getElem?_toList, Array.getElem?_eq_getElem h1, Option.some.injEq] at hj
    exact hj
  simp [Instr.index, asIntOf, run_underlying Tryz.underlying9, hs, hb]
set_option maxHeartbeats 400000 in
set_option maxRecDepth 100000 in
theorem kind_any (n : Nat) (w : World) : Calls Tryz.prog 75 #[.int .u8 (n : Int)] w fun e w' => e = .returned (.int .i64 (kindN n)) ∧ w' = w := by
  obtain ⟨K, hK⟩ : ∃ K, Hid (K = kindN n) := ⟨_, rfl⟩
  rw [← hK.out]
  go_enter Tryz.func75, Tryz.ntmps75
  go_wp2
  all_goals
    go_ret
    refine ⟨congrArg (fun z => Ending.returned (Value.int .i64 z)) (Eq.trans ?_ hK.out.symm), rfl⟩
    try simp only [beq_iff_eq, beq_eq_false_iff_ne, ne_eq] at *
    unfold kindN
    first
      | (rw [if_pos (by unfold plainN; omega)])
      | (rw [if_neg (by unfold plainN; omega), if_pos (by omega)])
      | (rw [if_neg (by unfold plainN; omega), if_neg (by omega)])
set_option maxHeartbeats 400000 in
set_option maxRecDepth 100000 in
theorem plain_any (n : Nat) (w : World) : Calls Tryz.prog 67 #[.int .u8 (n : Int)] w fun e w' => e = .returned (.bool (decide (plainN n))) ∧ w' = w := by
  obtain ⟨K, hK⟩ : ∃ K, Hid (K = decide (plainN n)) := ⟨_, rfl⟩
  rw [← hK.out]
  go_enter Tryz.func67, Tryz.ntmps67
  go_wp2
  all_goals
    go_ret
    refine ⟨congrArg (fun z => Ending.returned (Value.bool z)) (Eq.trans ?_ hK.out.symm), rfl⟩
    try simp only [beq_iff_eq, beq_eq_false_iff_ne, ne_eq] at *
    symm
    first
      | (refine decide_eq_true ?_; unfold plainN; omega)
      | (refine decide_eq_false ?_; unfold plainN; omega)
      | (rw [Bool.eq_iff_iff, decide_eq_true_iff]; unfold plainN; simp; omega)
end Go.Proofs.YtglfeocfhlmloaaGreat.Vp
