/-
  slices.SortFunc, laid at this program. What the document says of paths, over lists of bytes; small laws on strings.
-/
import Derived.Shelf.SlSortCmp.WholeK
import Derived.Shelf.SlSortCmp.NoneTotal
import Derived.Ground.SlsfProg
import Derived.Test.YtglfeocfhlmloaaRows
import Derived.WalkKit
import Derived.WalkSpells
import Derived.WalkLawsBesides
import Derived.Deep.Light
import Derived.Lib.Strings
import Derived.BigQuiet
import Derived.BigRegion
namespace Go.Proofs
open Go.Shelf Go.RowKit Go.Lib Go.Sort
def Try.sortSp_ren : Go.Shelf.Ren := ⟨fun | 6 => 37 | 15 => 57 | 14 => 56 | 28 => 83 | 29 => 84 | 20 => 75 | 21 => 76 | 22 => 77 | 23 => 78 | 24 => 79 | 25 => 80 | 26 => 81 | 27 => 82 | 46 => 93 | 47 => 94 | 48 => 95 | 49 => 96 | 50 => 97 | 57 => 104 | n => n, fun | 22 => 65 | 24 => 63 | 25 => 68 | 3 => 3 | 39 => 89 | 0 => 0 | 53 => 120 | 55 => 74 | 4 => 4 | 46 => 113 | 45 => 112 | 50 => 117 | 5 => 5 | 9 => 9 | 66 => 127 | 70 => 130 | 76 => 139 | 77 => 140 | n => n, fun | n => n⟩
theorem Try.sortSp : Go.Proofs.SlLaysF0.n6 Try.prog Try.sortSp_ren := {
  mixed := by kernel_rfl
  f6 := ⟨Try.f37.name, by decide, Try.func37.trans (congrArg some (by kernel_rfl))⟩
  f14 := ⟨Try.f56.name, by decide, Try.func56.trans (congrArg some (by kernel_rfl))⟩
  f15 := Try.func57.trans (congrArg some (by kernel_rfl))
  f20 := ⟨Try.f75.name, by decide, Try.func75.trans (congrArg some (by kernel_rfl))⟩
  f21 := ⟨Try.f76.name, by decide, Try.func76.trans (congrArg some (by kernel_rfl))⟩
  f22 := ⟨Try.f77.name, by decide, Try.func77.trans (congrArg some (by kernel_rfl))⟩
  f23 := ⟨Try.f78.name, by decide, Try.func78.trans (congrArg some (by kernel_rfl))⟩
  f24 := ⟨Try.f79.name, by decide, Try.func79.trans (congrArg some (by kernel_rfl))⟩
  f25 := ⟨Try.f80.name, by decide, Try.func80.trans (congrArg some (by kernel_rfl))⟩
  f26 := ⟨Try.f81.name, by decide, Try.func81.trans (congrArg some (by kernel_rfl))⟩
  f27 := ⟨Try.f82.name, by decide, Try.func82.trans (congrArg some (by kernel_rfl))⟩
  f28 := Try.func83.trans (congrArg some (by kernel_rfl))
  f29 := Try.func84.trans (congrArg some (by kernel_rfl))
  f46 := ⟨Try.f93.name, by decide, Try.func93.trans (congrArg some (by kernel_rfl))⟩
  f47 := Try.func94.trans (congrArg some (by kernel_rfl))
  f48 := Try.func95.trans (congrArg some (by kernel_rfl))
  f49 := ⟨Try.f96.name, by decide, Try.func96.trans (congrArg some (by kernel_rfl))⟩
  f50 := ⟨Try.f97.name, by decide, Try.func97.trans (congrArg some (by kernel_rfl))⟩
  f57 := ⟨Try.f104.name, by decide, Try.func104.trans (congrArg some (by kernel_rfl))⟩
  t0 := Try.underlying0
  a0 := Try.isAgg0
  z0 := Try.sizeOf0
  v0 := Try.zeroValue0
  t3 := Try.underlying3
  a3 := Try.isAgg3
  z3 := Try.sizeOf3
  v3 := Try.zeroValue3
  t4 := Try.underlying4
  a4 := Try.isAgg4
  z4 := Try.sizeOf4
  v4 := Try.zeroValue4
  t5 := Try.underlying5
  a5 := Try.isAgg5
  z5 := Try.sizeOf5
  v5 := Try.zeroValue5
  t9 := Try.underlying9
  a9 := Try.isAgg9
  z9 := Try.sizeOf9
  v9 := Try.zeroValue9
  t22 := Try.underlying65
  a22 := Try.isAgg65
  z22 := Try.sizeOf65
  v22 := Try.zeroValue65
  t25 := Try.underlying68
  a25 := Try.isAgg68
  z25 := Try.sizeOf68
  v25 := Try.zeroValue68
  t39 := Try.underlying89
  a39 := Try.isAgg89
  z39 := Try.sizeOf89
  v39 := Try.zeroValue89
  t45 := Try.underlying112
  a45 := Try.isAgg112
  z45 := Try.sizeOf112
  v45 := Try.zeroValue112
  t46 := Try.underlying113
  a46 := Try.isAgg113
  z46 := Try.sizeOf113
  v46 := Try.zeroValue113
  t50 := Try.underlying117
  a50 := Try.isAgg117
  z50 := Try.sizeOf117
  v50 := Try.zeroValue117
  t53 := Try.underlying120
  a53 := Try.isAgg120
  z53 := Try.sizeOf120
  v53 := Try.zeroValue120
  t55 := Try.underlying74
  a55 := Try.isAgg74
  z55 := Try.sizeOf74
  v55 := Try.zeroValue74
  t66 := Try.underlying127
  a66 := Try.isAgg127
  z66 := Try.sizeOf127
  v66 := Try.zeroValue127
  t70 := Try.underlying130
  a70 := Try.isAgg130
  z70 := Try.sizeOf130
  v70 := Try.zeroValue130
  t76 := Try.underlying139
  a76 := Try.isAgg139
  z76 := Try.sizeOf139
  v76 := Try.zeroValue139
  t77 := Try.underlying140
  a77 := Try.isAgg140
  z77 := Try.sizeOf140
  v77 := Try.zeroValue140 }
theorem Try.agg93 : ∀ w, (isAgg 63).run Try.prog w = .ok true w := fun w => by kernel_rfl
theorem Try.size93 : ∀ w, (Go.sizeOf 63).run Try.prog w = .ok 5 w := fun w => by kernel_rfl
end Go.Proofs
namespace Go.Proofs.Ytglfeocfhlmloaa.Vp
open Go.RowKit
theorem hid_in {p : Prop} (h : p) : Hid p := h
/-- a text's bytes -/
abbrev Str := List UInt8
/-- a text as the program has it -/
def B (x : Str) : ByteArray := ⟨x.toArray⟩
def bl (s : ByteArray) : Str := s.data.toList
theorem B_bl (s : ByteArray) : B (bl s) = s := by cases s; simp [B, bl]
theorem bl_B (x : Str) : bl (B x) = x := by simp [B, bl]
theorem bl_length (s : ByteArray) : (bl s).length = s.size := by simp only [bl, Array.length_toList]; rfl
theorem B_size (x : Str) : (B x).size = x.length := by rw [← bl_length, bl_B]
theorem B_inj {x y : Str} (h : B x = B y) : x = y := by rw [← bl_B x, ← bl_B y, h]
/-- may a byte stand in a name? -/
def plainN (n : Nat) : Prop := (97 ≤ n ∧ n ≤ 122) ∨ (65 ≤ n ∧ n ≤ 90) ∨ (48 ≤ n ∧ n ≤ 57) ∨ n = 46 ∨ n = 95 ∨ n = 45
instance (n : Nat) : Decidable (plainN n) := by unfold plainN; infer_instance
def kindN (n : Nat) : Int := if plainN n then 2 else if n = 47 then 1 else 0
/-- may a byte stand in a name? -/
def plain (c : UInt8) : Bool := decide (plainN c.toNat)
theorem index_str (s : ByteArray) (j : Nat) (c : UInt8) (hj : (bl s)[j]? = some c) (k : Int) (hk : k = (j : Int)) (w : World) : (Instr.index 9 (.string s) (.int .i64 k)).run Try.prog w = .ok (.int .u8 (c.toNat : Int)) w := by
  subst hk
  have hlt : j < s.size := by rw [← bl_length]; exact (List.getElem?_eq_some_iff.1 hj).1
  have hs : s[j]? = some s[j] := by simp [hlt]
  have hb : s[j] = c := by
    have h1 : j < s.data.size := hlt
    simp only [bl, Array.getElem?_toList, Array.getElem?_eq_getElem h1, Option.some.injEq] at hj
    exact hj
  simp [Instr.index, asIntOf, run_underlying Try.underlying9, hs, hb]
set_option maxHeartbeats 400000 in
set_option maxRecDepth 100000 in
theorem kind_any (n : Nat) (w : World) : Calls Try.prog 70 #[.int .u8 (n : Int)] w fun e w' => e = .returned (.int .i64 (kindN n)) ∧ w' = w := by
  obtain ⟨K, hK⟩ : ∃ K, Hid (K = kindN n) := ⟨_, rfl⟩
  rw [← hK.out]
  go_enter Try.func70, Try.ntmps70
  go_wp2
  all_goals
    go_ret
    refine ⟨congrArg (fun z => Ending.returned (Value.int .i64 z)) (Eq.trans ?_ hK.out.symm), rfl⟩
    try simp only [beq_iff_eq, beq_eq_false_iff_ne, ne_eq] at *
    unfold kindN
    first
      | (rw [if_pos (by unfold plainN; omega)])
      | (rw [if_neg (by unfold plainN; omega), if_pos (by omega)])
      | (rw [if_neg (by unfold plainN; omega), if_neg (by omega)])
set_option maxHeartbeats 400000 in
set_option maxRecDepth 100000 in
theorem plain_any (n : Nat) (w : World) : Calls Try.prog 67 #[.int .u8 (n : Int)] w fun e w' => e = .returned (.bool (decide (plainN n))) ∧ w' = w := by
  obtain ⟨K, hK⟩ : ∃ K, Hid (K = decide (plainN n)) := ⟨_, rfl⟩
  rw [← hK.out]
  go_enter Try.func67, Try.ntmps67
  go_wp2
  all_goals
    go_ret
    refine ⟨congrArg (fun z => Ending.returned (Value.bool z)) (Eq.trans ?_ hK.out.symm), rfl⟩
    try simp only [beq_iff_eq, beq_eq_false_iff_ne, ne_eq] at *
    symm
    first
      | (refine decide_eq_true ?_; unfold plainN; omega)
      | (refine decide_eq_false ?_; unfold plainN; omega)
      | (rw [Bool.eq_iff_iff, decide_eq_true_iff]; unfold plainN; simp; omega)
end Go.Proofs.Ytglfeocfhlmloaa.Vp
