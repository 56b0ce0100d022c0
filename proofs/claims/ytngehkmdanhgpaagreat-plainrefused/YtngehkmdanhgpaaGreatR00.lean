/-
  slices.SortFunc, laid at this program. What the document says of paths, over lists of bytes; small laws on strings. Which texts may be a path's, and which are names: the walks of the program's and of the reference's tests.
-/
import Derived.Shelf.SlSortCmp.WholeK
import Derived.Shelf.SlSortCmp.NoneTotal
import Derived.Ground.SlsfProg
import Derived.Test.YtngehkmdanhgpaaGreatRows
import Derived.WalkKit
import Derived.WalkSpells
import Derived.WalkLawsBesides
import Derived.Deep.Light
import Derived.Lib.Strings
import Derived.BigQuiet
import Derived.BigRegion
namespace Go.Proofs
open Go.Shelf Go.RowKit Go.Lib Go.Sort
def Tryz.sortSp_ren : Go.Shelf.Ren := ⟨fun | 6 => 43 | 15 => 80 | 14 => 79 | 28 => 112 | 29 => 113 | 20 => 104 | 21 => 105 | 22 => 106 | 23 => 107 | 24 => 108 | 25 => 109 | 26 => 110 | 27 => 111 | 46 => 128 | 47 => 129 | 48 => 130 | 49 => 131 | 50 => 132 | 57 => 142 | n => n, fun | 22 => 54 | 24 => 63 | 25 => 79 | 3 => 3 | 39 => 102 | 0 => 0 | 53 => 133 | 55 => 135 | 4 => 4 | 46 => 126 | 45 => 125 | 50 => 130 | 5 => 5 | 9 => 9 | 66 => 155 | 70 => 159 | 76 => 168 | 77 => 169 | n => n, fun | n => n⟩
theorem Tryz.sortSp : Go.Proofs.SlLaysF0.n6 Tryz.prog Tryz.sortSp_ren := {
  mixed := by kernel_rfl
  f6 := ⟨Tryz.f43.name, by decide, Tryz.func43.trans (congrArg some (by kernel_rfl))⟩
  f14 := ⟨Tryz.f79.name, by decide, Tryz.func79.trans (congrArg some (by kernel_rfl))⟩
  f15 := Tryz.func80.trans (congrArg some (by kernel_rfl))
  f20 := ⟨Tryz.f104.name, by decide, Tryz.func104.trans (congrArg some (by kernel_rfl))⟩
  f21 := ⟨Tryz.f105.name, by decide, Tryz.func105.trans (congrArg some (by kernel_rfl))⟩
  f22 := ⟨Tryz.f106.name, by decide, Tryz.func106.trans (congrArg some (by kernel_rfl))⟩
  f23 := ⟨Tryz.f107.name, by decide, Tryz.func107.trans (congrArg some (by kernel_rfl))⟩
  f24 := ⟨Tryz.f108.name, by decide, Tryz.func108.trans (congrArg some (by kernel_rfl))⟩
  f25 := ⟨Tryz.f109.name, by decide, Tryz.func109.trans (congrArg some (by kernel_rfl))⟩
  f26 := ⟨Tryz.f110.name, by decide, Tryz.func110.trans (congrArg some (by kernel_rfl))⟩
  f27 := ⟨Tryz.f111.name, by decide, Tryz.func111.trans (congrArg some (by kernel_rfl))⟩
  f28 := Tryz.func112.trans (congrArg some (by kernel_rfl))
  f29 := Tryz.func113.trans (congrArg some (by kernel_rfl))
  f46 := ⟨Tryz.f128.name, by decide, Tryz.func128.trans (congrArg some (by kernel_rfl))⟩
  f47 := Tryz.func129.trans (congrArg some (by kernel_rfl))
  f48 := Tryz.func130.trans (congrArg some (by kernel_rfl))
  f49 := ⟨Tryz.f131.name, by decide, Tryz.func131.trans (congrArg some (by kernel_rfl))⟩
  f50 := ⟨Tryz.f132.name, by decide, Tryz.func132.trans (congrArg some (by kernel_rfl))⟩
  f57 := ⟨Tryz.f142.name, by decide, Tryz.func142.trans (congrArg some (by kernel_rfl))⟩
  t0 := Tryz.underlying0
  a0 := Tryz.isAgg0
  z0 := Tryz.sizeOf0
  v0 := Tryz.zeroValue0
  t3 := Tryz.underlying3
  a3 := Tryz.isAgg3
  z3 := Tryz.sizeOf3
  v3 := Tryz.zeroValue3
  t4 := Tryz.underlying4
  a4 := Tryz.isAgg4
  z4 := Tryz.sizeOf4
  v4 := Tryz.zeroValue4
  t5 := Tryz.underlying5
  a5 := Tryz.isAgg5
  z5 := Tryz.sizeOf5
  v5 := Tryz.zeroValue5
  t9 := Tryz.underlying9
  a9 := Tryz.isAgg9
  z9 := Tryz.sizeOf9
  v9 := Tryz.zeroValue9
  t22 := Tryz.underlying54
  a22 := Tryz.isAgg54
  z22 := Tryz.sizeOf54
  v22 := Tryz.zeroValue54
  t25 := Tryz.underlying79
  a25 := Tryz.isAgg79
  z25 := Tryz.sizeOf79
  v25 := Tryz.zeroValue79
  t39 := Tryz.underlying102
  a39 := Tryz.isAgg102
  z39 := Tryz.sizeOf102
  v39 := Tryz.zeroValue102
  t45 := Tryz.underlying125
  a45 := Tryz.isAgg125
  z45 := Tryz.sizeOf125
  v45 := Tryz.zeroValue125
  t46 := Tryz.underlying126
  a46 := Tryz.isAgg126
  z46 := Tryz.sizeOf126
  v46 := Tryz.zeroValue126
  t50 := Tryz.underlying130
  a50 := Tryz.isAgg130
  z50 := Tryz.sizeOf130
  v50 := Tryz.zeroValue130
  t53 := Tryz.underlying133
  a53 := Tryz.isAgg133
  z53 := Tryz.sizeOf133
  v53 := Tryz.zeroValue133
  t55 := Tryz.underlying135
  a55 := Tryz.isAgg135
  z55 := Tryz.sizeOf135
  v55 := Tryz.zeroValue135
  t66 := Tryz.underlying155
  a66 := Tryz.isAgg155
  z66 := Tryz.sizeOf155
  v66 := Tryz.zeroValue155
  t70 := Tryz.underlying159
  a70 := Tryz.isAgg159
  z70 := Tryz.sizeOf159
  v70 := Tryz.zeroValue159
  t76 := Tryz.underlying168
  a76 := Tryz.isAgg168
  z76 := Tryz.sizeOf168
  v76 := Tryz.zeroValue168
  t77 := Tryz.underlying169
  a77 := Tryz.isAgg169
  z77 := Tryz.sizeOf169
  v77 := Tryz.zeroValue169 }
theorem Tryz.agg93 : ∀ w, (isAgg 63).run Tryz.prog w = .ok true w := fun w => by kernel_rfl
theorem Tryz.size93 : ∀ w, (Go.sizeOf 63).run Tryz.prog w = .ok 4 w := fun w => by kernel_rfl
end Go.Proofs
namespace Go.Proofs.YtngehkmdanhgpaaGreat.Vp
open Go.RowKit
theorem hid_in {p : Prop} (h : p) : Hid p := h
/-- a text's bytes -/
abbrev Str := List UInt8
/-- a text as the program has it -/
def B (x : Str) : ByteArray := ⟨x.toArray⟩
def bl (s : ByteArray) : Str := s.data.toList
theorem B_bl (s : ByteArray) : B (bl s) = s := by cases s; simp [B, bl]
theorem bl_B (x : Str) : bl (B x) = x := by simp [B, bl]
theorem bl_length (s : ByteArray) : (bl s).length = s.size := by simp only [bl, Array.length_toList]; rfl
theorem B_size (x : Str) : (B x).size = x.length := by rw [← bl_length, bl_B]
theorem B_inj {x y : Str} (h : B x = B y) : x = y := by rw [← bl_B x, ← bl_B y, h]
/-- may a byte stand in a name? -/
def plainN (n : Nat) : Prop := (97 ≤ n ∧ n ≤ 122) ∨ (65 ≤ n ∧ n ≤ 90) ∨ (48 ≤ n ∧ n ≤ 57) ∨ n = 46 ∨ n = 95 ∨ n = 45
instance (n : Nat) : Decidable (plainN n) := by unfold plainN; infer_instance
def kindN (n : Nat) : Int := if plainN n then 2 else if n = 47 then 1 else 0
/-- may a byte stand in a name? -/
def plain (c : UInt8) : Bool := decide (plainN c.toNat)
theorem index_str (s : ByteArray) (j : Nat) (c : UInt8) (hj : (bl s)[j]? = some c) (k : Int) (hk : k = (j : Int)) (w : World) : (Instr.index 9 (.string s) (.int .i64 k)).run Tryz.prog w = .ok (.int .u8 (c.toNat : Int)) w := by
  subst hk
  have hlt : j < s.size := by rw [← bl_length]; exact (List.getElem?_eq_some_iff.1 hj).1
  have hs : s[j]? = some s[j] := by simp [hlt]
  have hb : s[j] = c := by
    have h1 : j < s.data.size := hlt
    simp only [bl, Array.getElem?_toList, Array.getElem?_eq_getElem h1, Option.some.injEq] at hj
    exact hj
  simp [Instr.index, asIntOf, run_underlying Tryz.underlying9, hs, hb]
set_option maxHeartbeats 400000 in
set_option maxRecDepth 100000 in
theorem kind_any (n : Nat) (w : World) : Calls Tryz.prog 115 #[.int .u8 (n : Int)] w fun e w' => e = .returned (.int .i64 (kindN n)) ∧ w' = w := by
  obtain ⟨K, hK⟩ : ∃ K, Hid (K = kindN n) := ⟨_, rfl⟩
  rw [← hK.out]
  go_enter Tryz.func115, Tryz.ntmps115
  go_wp2
  all_goals
    go_ret
    refine ⟨congrArg (fun z => Ending.returned (Value.int .i64 z)) (Eq.trans ?_ hK.out.symm), rfl⟩
    try simp only [beq_iff_eq, beq_eq_false_iff_ne, ne_eq] at *
    unfold kindN
    first
      | (rw [if_pos (by unfold plainN; omega)])
      | (rw [if_neg (by unfold plainN; omega), if_pos (by omega)])
      | (rw [if_neg (by unfold plainN; omega), if_neg (by omega)])
end Go.Proofs.YtngehkmdanhgpaaGreat.Vp
namespace Go.Proofs.YtngehkmdanhgpaaGreat.Vp
open Go.RowKit
theorem all_snoc {p : UInt8 → Bool} {l : Str} {i : Nat} {c : UInt8} (hc : l[i]? = some c) (h : (l.take i).all p = true) (hp : p c = true) : (l.take (i + 1)).all p = true := by
  rw [List.take_add_one, hc]; simp [List.all_append, h, hp]
theorem all_no {p : UInt8 → Bool} {l : Str} {i : Nat} {c : UInt8} (hc : l[i]? = some c) (hp : p c = false) : l.all p = false := by
  rw [List.all_eq_false]
  exact ⟨c, List.mem_of_getElem? hc, by simp [hp]⟩
/-- a byte that a path's text may have -/
def okByte (c : UInt8) : Bool := plain c || c == 47
/-- a path's text: it begins with a stroke, and has no byte that it may not have -/
def isTextS (x : Str) : Bool := (match x with | [] => false | c :: _ => c == 47) && x.all okByte
def isNameS (x : Str) : Bool := !(x == []) && !(x == [46]) && !(x == [46, 46]) && decide (x.length ≤ 16) && x.all plain
theorem n47 : ¬ plainN 47 := by decide
theorem kind_zero (c : UInt8) : (kindN c.toNat == 0) = !okByte c := by
  unfold kindN okByte plain
  by_cases h : plainN c.toNat
  · simp [h]
  · by_cases h2 : c.toNat = 47
    · simp [n47, show c = 47 from UInt8.toNat.inj h2]
    · have : c ≠ 47 := fun e => h2 (by rw [e]; rfl)
      simp [h, h2, this]
theorem kind_two (c : UInt8) : (kindN c.toNat != 2) = !plain c := by
  unfold kindN plain
  by_cases h : plainN c.toNat
  · simp [h]
  · by_cases h2 : c.toNat = 47
    · simp [h2, n47]
    · simp [h, h2]
theorem kind_one (c : UInt8) : (kindN c.toNat != 1) = !(c == 47) := by
  unfold kindN
  by_cases h2 : c.toNat = 47
  · have hc : c = 47 := UInt8.toNat.inj h2
    simp [n47, hc]
  · have : c ≠ 47 := fun e => h2 (by rw [e]; rfl)
    by_cases h : plainN c.toNat
    · simp [h, this]
    · simp [h, h2, this]
theorem toL (x : Str) : (B x).toList = x := by rw [Lib.toList_data]; exact bl_B x
set_option maxHeartbeats 400000 in
set_option maxRecDepth 100000 in
theorem isText_any (x : Str) (hx : x.length ≤ 9223372036854775807) (w : World) : Calls Tryz.prog 84 #[.string (B x)] w fun e w' => e = .returned (.bool (isTextS x)) ∧ w' = w := by
  cases x with
  | nil =>
    have hT := toL []
    generalize B [] = s at hT ⊢
    go_enter Tryz.func84, Tryz.ntmps84
    go_wp2_with fail
    go_ret
    exact ⟨rfl, rfl⟩
  | cons c r =>
    have hsz : (B (c :: r)).size = (c :: r).length := B_size _
    have i0 := index_str (B (c :: r)) 0 c (by rw [bl_B]; rfl) 0 rfl
    have hix := fun (j : Nat) (d : UInt8) (hj : (c :: r)[j]? = some d) => index_str (B (c :: r)) j d (by rw [bl_B]; exact hj)
    have hT := toL (c :: r)
    have hk1 := kind_one c
    obtain ⟨R, hR⟩ : ∃ R, Hid (R = ((c == 47) && (c :: r).all okByte)) := ⟨_, rfl⟩
    have hR2 : isTextS (c :: r) = R := by rw [hR.out]; rfl
    rw [hR2]
    have HIX := hid_in hix
    have Hne : Hid (c :: r ≠ []) := by show _ ≠ _; simp
    clear hix hR2
    generalize B (c :: r) = s at hsz i0 HIX hT ⊢
    generalize hl : c :: r = l at hsz hT HIX hR hx Hne
    clear hl
    generalize hn : l.length = n at hsz hx
    have Hn := hid_in hn
    clear hn
    have hT2 : s.toList.isEmpty = false := by rw [hT]; simpa using Hne.out
    clear hT
    cases h47 : (c == 47)
    · rw [h47] at hk1
      have hk2 : (kindN c.toNat != 1) = true := hk1
      clear hk1
      have H47 := hid_in h47
      clear h47
      go_enter Tryz.func84, Tryz.ntmps84
      go_wp2_with (first | (go_at_call 115; refine (kind_any _ _).mono ?_; rintro e w' ⟨rfl, hw⟩; obtain rfl := hw.symm))
      go_ret
      refine ⟨congrArg (fun z => Ending.returned (Value.bool z)) (Eq.trans ?_ hR.out.symm), rfl⟩
      rw [H47.out]; rfl
    rw [h47] at hk1
    have hk2 : (kindN c.toNat != 1) = false := hk1
    clear hk1
    have H47 := hid_in h47
    clear h47
    go_enter Tryz.func84, Tryz.ntmps84
    go_wp2_with (first | (go_at_call 115; refine (kind_any _ _).mono ?_; rintro e w' ⟨rfl, hw⟩; obtain rfl := hw.symm))
    go_loopw [14] (fun vi w' => w' = w ∧ ∃ i : Nat, i ≤ n ∧ vi = .int .i64 (i : Int) ∧ Hid ((l.take i).all okByte = true)) (fun vi _ => n - (intOf vi).toNat)
    case atStart => exact ⟨rfl, 0, by omega, rfl, rfl⟩
    case round =>
      obtain ⟨rfl, i, hi, rfl, hall⟩ := hrel
      by_cases hlt : i < n
      · obtain ⟨d, hd⟩ : ∃ d, l[i]? = some d := ⟨_, List.getElem?_eq_getElem (by rw [Hn.out]; exact hlt)⟩
        have ix := HIX.out i d hd (i : Int) rfl
        cases hp : okByte d
        all_goals
          have kd := kind_zero d
          rw [hp] at kd
          try simp only [Bool.not_true, Bool.not_false] at kd
          have HP := hid_in hp
          clear hp
          have Hd := hid_in hd
          have Hl := hid_in hlt
          clear hd
          go_wp2_with (first | (go_at_call 115; refine (kind_any _ _).mono ?_; rintro e w' ⟨rfl, hw⟩; obtain rfl := hw.symm))
        · go_ret
          refine ⟨congrArg (fun z => Ending.returned (Value.bool z)) (Eq.trans ?_ hR.out.symm), rfl⟩
          rw [all_no Hd.out HP.out, Bool.and_false]
        · go_roundw
          case rel =>
            go_light
            exact ⟨trivial, i + 1, by omega, by go_num, all_snoc Hd.out hall.out HP.out⟩
          case measure => simp [intOf]; omega
      · have hin : i = n := by omega
        have hall2 : l.all okByte = true := by have := hall.out; rw [hin, ← Hn.out, List.take_length] at this; exact this
        clear hin
        go_wp2_with fail
        go_ret
        refine ⟨congrArg (fun z => Ending.returned (Value.bool z)) (Eq.trans ?_ hR.out.symm), rfl⟩
        rw [hall2, H47.out]; rfl
set_option maxHeartbeats 400000 in
set_option maxRecDepth 100000 in
theorem isName_any (x : Str) (hx : x.length ≤ 9223372036854775807) (w : World) : Calls Tryz.prog 137 #[.string (B x)] w fun e w' => e = .returned (.bool (isNameS x)) ∧ w' = w := by
  by_cases hbad : (x = [] ∨ x = [46] ∨ x = [46, 46]) ∨ 16 < x.length
  · have hT := toL x
    have hsz : (B x).size = x.length := B_size _
    have hR : Hid (isNameS x = false) := by
      show _ = _
      unfold isNameS
      rcases hbad with (rfl | rfl | rfl) | h
      · rfl
      · rfl
      · rfl
      · rw [decide_eq_false (by omega : ¬ x.length ≤ 16)]; simp
    rw [hR.out]
    have H16 : Hid (16 < x.length ∨ x.length ≤ 16) := by show _ ∨ _; omega
    generalize B x = s at hT hsz ⊢
    rcases hbad with (rfl | rfl | rfl) | h
    · go_enter Tryz.func137, Tryz.ntmps137
      go_wp2_with fail
      all_goals (go_ret; exact ⟨rfl, rfl⟩)
    · go_enter Tryz.func137, Tryz.ntmps137
      go_wp2_with fail
      all_goals (go_ret; exact ⟨rfl, rfl⟩)
    · go_enter Tryz.func137, Tryz.ntmps137
      go_wp2_with fail
      all_goals (go_ret; exact ⟨rfl, rfl⟩)
    · have e0 : (s.toList.isEmpty) = false := by rw [hT]; cases x <;> simp_all
      have e1 : (s.toList == [46]) = false := by rw [hT, beq_eq_false_iff_ne]; rintro rfl; simp at h
      have e2 : (s.toList == [46, 46]) = false := by rw [hT, beq_eq_false_iff_ne]; rintro rfl; simp at h
      have e3 : (s.toList = [46]) = False := by rw [hT]; simp only [eq_iff_iff, iff_false]; rintro rfl; simp at h
      have e4 : (s.toList = [46, 46]) = False := by rw [hT]; simp only [eq_iff_iff, iff_false]; rintro rfl; simp at h
      clear hT
      generalize x.length = n at *
      go_enter Tryz.func137, Tryz.ntmps137
      go_wp2_with fail
      all_goals (go_ret; exact ⟨rfl, rfl⟩)
  · have hb : (x ≠ [] ∧ x ≠ [46] ∧ x ≠ [46, 46]) ∧ x.length ≤ 16 := by
      refine ⟨⟨fun e => hbad (.inl (.inl e)), fun e => hbad (.inl (.inr (.inl e))), fun e => hbad (.inl (.inr (.inr e)))⟩, ?_⟩
      omega
    clear hbad
    obtain ⟨⟨b0, b1, b2⟩, b3⟩ := hb
    have hsz : (B x).size = x.length := B_size _
    have hix := fun (j : Nat) (d : UInt8) (hj : x[j]? = some d) => index_str (B x) j d (by rw [bl_B]; exact hj)
    have hT := toL x
    obtain ⟨R, hR⟩ : ∃ R, Hid (R = x.all plain) := ⟨_, rfl⟩
    have hR2 : isNameS x = R := by
      rw [hR.out]; unfold isNameS
      rw [beq_eq_false_iff_ne.2 b0, beq_eq_false_iff_ne.2 b1, beq_eq_false_iff_ne.2 b2, decide_eq_true b3]; simp
    rw [hR2]
    have HIX := hid_in hix
    clear hix hR2
    generalize B x = s at hsz HIX hT ⊢
    have e0 : (s.toList.isEmpty) = false := by rw [hT]; cases x <;> simp_all
    have e1 : (s.toList == [46]) = false := by rw [hT, beq_eq_false_iff_ne]; exact b1
    have e2 : (s.toList == [46, 46]) = false := by rw [hT, beq_eq_false_iff_ne]; exact b2
    have e3 : (s.toList = [46]) = False := by rw [hT]; simpa using b1
    have e4 : (s.toList = [46, 46]) = False := by rw [hT]; simpa using b2
    have h1 : 1 ≤ x.length := by cases x; exact absurd rfl b0; simp
    clear hT b0 b1 b2
    generalize hl : x = l at *
    clear hl
    generalize hn : l.length = n at hsz hx b3 h1
    have Hn := hid_in hn
    clear hn
    go_enter Tryz.func137, Tryz.ntmps137
    go_wp2_with fail
    go_loopw [21] (fun vi w' => w' = w ∧ ∃ i : Nat, i ≤ n ∧ vi = .int .i64 (i : Int) ∧ Hid ((l.take i).all plain = true)) (fun vi _ => n - (intOf vi).toNat)
    case atStart => exact ⟨rfl, 0, by omega, rfl, rfl⟩
    case round =>
      obtain ⟨rfl, i, hi, rfl, hall⟩ := hrel
      by_cases hlt : i < n
      · obtain ⟨d, hd⟩ : ∃ d, l[i]? = some d := ⟨_, List.getElem?_eq_getElem (by rw [Hn.out]; exact hlt)⟩
        have ix := HIX.out i d hd (i : Int) rfl
        cases hp : plain d
        all_goals
          have kd := kind_two d
          rw [hp] at kd
          try simp only [Bool.not_true, Bool.not_false] at kd
          have HP := hid_in hp
          clear hp
          have Hd := hid_in hd
          have Hl := hid_in hlt
          clear hd
          go_wp2_with (first | (go_at_call 115; refine (kind_any _ _).mono ?_; rintro e w' ⟨rfl, hw⟩; obtain rfl := hw.symm))
        · go_ret
          refine ⟨congrArg (fun z => Ending.returned (Value.bool z)) (Eq.trans ?_ hR.out.symm), rfl⟩
          exact (all_no Hd.out HP.out).symm
        · go_roundw
          case rel =>
            go_light
            exact ⟨trivial, i + 1, by omega, by go_num, all_snoc Hd.out hall.out HP.out⟩
          case measure => simp [intOf]; omega
      · have hin : i = n := by omega
        have hall2 : l.all plain = true := by have := hall.out; rw [hin, ← Hn.out, List.take_length] at this; exact this
        clear hin
        go_wp2_with fail
        go_ret
        refine ⟨congrArg (fun z => Ending.returned (Value.bool z)) (Eq.trans ?_ hR.out.symm), rfl⟩
        rw [hall2]
end Go.Proofs.YtngehkmdanhgpaaGreat.Vp
