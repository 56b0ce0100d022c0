/-
  What the document says of paths, over lists of bytes; small laws on strings. Which texts may be a path's, and which are names: the walks of the program's and of the reference's tests. The pieces of a text: what stands between its strokes. The walk of strings.Cut at one stroke. The iterator over a text's pieces, and what it hands to a loop. One piece more: the walk of step. The walk of Parse. The library's contracts that the walks use (strings.Join, slices.Equal, slices.Clone at texts), laid at this program.
-/
import Derived.Test.YtngehkmdanhgpaaGreatRows
import Derived.WalkKit
import Derived.WalkSpells
import Derived.WalkLawsBesides
import Derived.Deep.Light
import Derived.Lib.Strings
import Derived.BigQuiet
import Derived.BigRegion
import Derived.Lib.Bytealg
import Derived.Lib.Walk
import Derived.Laws.Strings3
import Derived.Deep.Draws
import Derived.BigCall
import Derived.BigGuard
import Derived.RangeFuncNested
import Derived.RangeFuncBound
import Derived.RangeFuncCalls
import Derived.RangeFuncLeaves
import Derived.RangeFuncBox
import Derived.Shelf.Abstract
import Derived.OwnWalkIn
import Derived.TacticsInMore
import Derived.LoopNIn
import Derived.LoopIn
import Derived.Maps.AppendAt
import Derived.Shelf.Strings.OnBuilder
import Derived.Shelf.Slices.Equal
import Derived.Ground.Names2Prog
import Derived.Shelf.Slices.Clone
import Derived.Shelf.Slices.Empties2
namespace Go.Proofs.YtngehkmdanhgpaaGreat.Vp
open Go.RowKit
theorem hid_in {p : Prop} (h : p) : Hid p := h
/-- a text's bytes -/
abbrev Str := List UInt8
/-- a text as the program has it -/
def B (x : Str) : ByteArray := ⟨x.toArray⟩
def bl (s : ByteArray) : Str := s.data.toList
theorem B_bl (s : ByteArray) : B (bl s) = s := by cases s; simp [B, bl]
theorem bl_B (x : Str) : bl (B x) = x := by simp [B, bl]
theorem bl_length (s : ByteArray) : (bl s).length = s.size := by simp only [bl, Array.length_toList]; rfl
theorem B_size (x : Str) : (B x).size = x.length := by rw [← bl_length, bl_B]
theorem B_inj {x y : Str} (h : B x = B y) : x = y := by rw [← bl_B x, ← bl_B y, h]
/-- may a byte stand in a name? -/
def plainN (n : Nat) : Prop := (97 ≤ n ∧ n ≤ 122) ∨ (65 ≤ n ∧ n ≤ 90) ∨ (48 ≤ n ∧ n ≤ 57) ∨ n = 46 ∨ n = 95 ∨ n = 45
instance (n : Nat) : Decidable (plainN n) := by unfold plainN; infer_instance
def kindN (n : Nat) : Int := if plainN n then 2 else if n = 47 then 1 else 0
/-- may a byte stand in a name? -/
def plain (c : UInt8) : Bool := decide (plainN c.toNat)
theorem index_str (s : ByteArray) (j : Nat) (c : UInt8) (hj : (bl s)[j]? = some c) (k : Int) (hk : k = (j : Int)) (w : World) : (Instr.index 9 (.string s) (.int .i64 k)).run Tryz.prog w = .ok (.int .u8 (c.toNat : Int)) w := by
  subst hk
  have hlt : j < s.size := by rw [← bl_length]; exact (List.getElem?_eq_some_iff.1 hj).1
  have hs : s[j]? = some s[j] := by simp [hlt]
  have hb : s[j] = c := by
    have h1 : j < s.data.size := hlt
    simp only [bl, Array.getElem?_toList, Array.getElem?_eq_getElem h1, Option.some.injEq] at hj
    exact hj
  simp [Instr.index, asIntOf, run_underlying Tryz.underlying9, hs, hb]
set_option maxHeartbeats 400000 in
set_option maxRecDepth 100000 in
theorem kind_any (n : Nat) (w : World) : Calls Tryz.prog 115 #[.int .u8 (n : Int)] w fun e w' => e = .returned (.int .i64 (kindN n)) ∧ w' = w := by
  obtain ⟨K, hK⟩ : ∃ K, Hid (K = kindN n) := ⟨_, rfl⟩
  rw [← hK.out]
  go_enter Tryz.func115, Tryz.ntmps115
  go_wp2
  all_goals
    go_ret
    refine ⟨congrArg (fun z => Ending.returned (Value.int .i64 z)) (Eq.trans ?_ hK.out.symm), rfl⟩
    try simp only [beq_iff_eq, beq_eq_false_iff_ne, ne_eq] at *
    unfold kindN
    first
      | (rw [if_pos (by unfold plainN; omega)])
      | (rw [if_neg (by unfold plainN; omega), if_pos (by omega)])
      | (rw [if_neg (by unfold plainN; omega), if_neg (by omega)])
end Go.Proofs.YtngehkmdanhgpaaGreat.Vp
namespace Go.Proofs.YtngehkmdanhgpaaGreat.Vp
open Go.RowKit
theorem all_snoc {p : UInt8 → Bool} {l : Str} {i : Nat} {c : UInt8} (hc : l[i]? = some c) (h : (l.take i).all p = true) (hp : p c = true) : (l.take (i + 1)).all p = true := by
  rw [List.take_add_one, hc]; simp [List.all_append, h, hp]
theorem all_no {p : UInt8 → Bool} {l : Str} {i : Nat} {c : UInt8} (hc : l[i]? = some c) (hp : p c = false) : l.all p = false := by
  rw [List.all_eq_false]
  exact ⟨c, List.mem_of_getElem? hc, by simp [hp]⟩
/-- a byte that a path's text may have -/
def okByte (c : UInt8) : Bool := plain c || c == 47
/-- a path's text: it begins with a stroke, and has no byte that it may not have -/
def isTextS (x : Str) : Bool := (match x with | [] => false | c :: _ => c == 47) && x.all okByte
def isNameS (x : Str) : Bool := !(x == []) && !(x == [46]) && !(x == [46, 46]) && decide (x.length ≤ 16) && x.all plain
theorem n47 : ¬ plainN 47 := by decide
theorem kind_zero (c : UInt8) : (kindN c.toNat == 0) = !okByte c := by
  unfold kindN okByte plain
  by_cases h : plainN c.toNat
  · simp [h]
  · by_cases h2 : c.toNat = 47
    · simp [n47, show c = 47 from UInt8.toNat.inj h2]
    · have : c ≠ 47 := fun e => h2 (by rw [e]; rfl)
      simp [h, h2, this]
theorem kind_two (c : UInt8) : (kindN c.toNat != 2) = !plain c := by
  unfold kindN plain
  by_cases h : plainN c.toNat
  · simp [h]
  · by_cases h2 : c.toNat = 47
    · simp [h2, n47]
    · simp [h, h2]
theorem kind_one (c : UInt8) : (kindN c.toNat != 1) = !(c == 47) := by
  unfold kindN
  by_cases h2 : c.toNat = 47
  · have hc : c = 47 := UInt8.toNat.inj h2
    simp [n47, hc]
  · have : c ≠ 47 := fun e => h2 (by rw [e]; rfl)
    by_cases h : plainN c.toNat
    · simp [h, this]
    · simp [h, h2, this]
theorem toL (x : Str) : (B x).toList = x := by rw [Lib.toList_data]; exact bl_B x
set_option maxHeartbeats 400000 in
set_option maxRecDepth 100000 in
theorem isText_any (x : Str) (hx : x.length ≤ 9223372036854775807) (w : World) : Calls Tryz.prog 84 #[.string (B x)] w fun e w' => e = .returned (.bool (isTextS x)) ∧ w' = w := by
  cases x with
  | nil =>
    have hT := toL []
    generalize B [] = s at hT ⊢
    go_enter Tryz.func84, Tryz.ntmps84
    go_wp2_with fail
    go_ret
    exact ⟨rfl, rfl⟩
  | cons c r =>
    have hsz : (B (c :: r)).size = (c :: r).length := B_size _
    have i0 := index_str (B (c :: r)) 0 c (by rw [bl_B]; rfl) 0 rfl
    have hix := fun (j : Nat) (d : UInt8) (hj : (c :: r)[j]? = some d) => index_str (B (c :: r)) j d (by rw [bl_B]; exact hj)
    have hT := toL (c :: r)
    have hk1 := kind_one c
    obtain ⟨R, hR⟩ : ∃ R, Hid (R = ((c == 47) && (c :: r).all okByte)) := ⟨_, rfl⟩
    have hR2 : isTextS (c :: r) = R := by rw [hR.out]; rfl
    rw [hR2]
    have HIX := hid_in hix
    have Hne : Hid (c :: r ≠ []) := by show _ ≠ _; simp
    clear hix hR2
    generalize B (c :: r) = s at hsz i0 HIX hT ⊢
    generalize hl : c :: r = l at hsz hT HIX hR hx Hne
    clear hl
    generalize hn : l.length = n at hsz hx
    have Hn := hid_in hn
    clear hn
    have hT2 : s.toList.isEmpty = false := by rw [hT]; simpa using Hne.out
    clear hT
    cases h47 : (c == 47)
    · rw [h47] at hk1
      have hk2 : (kindN c.toNat != 1) = true := hk1
      clear hk1
      have H47 := hid_in h47
      clear h47
      go_enter Tryz.func84, Tryz.ntmps84
      go_wp2_with (first | (go_at_call 115; refine (kind_any _ _).mono ?_; rintro e w' ⟨rfl, hw⟩; obtain rfl := hw.symm))
      go_ret
      refine ⟨congrArg (fun z => Ending.returned (Value.bool z)) (Eq.trans ?_ hR.out.symm), rfl⟩
      rw [H47.out]; rfl
    rw [h47] at hk1
    have hk2 : (kindN c.toNat != 1) = false := hk1
    clear hk1
    have H47 := hid_in h47
    clear h47
    go_enter Tryz.func84, Tryz.ntmps84
    go_wp2_with (first | (go_at_call 115; refine (kind_any _ _).mono ?_; rintro e w' ⟨rfl, hw⟩; obtain rfl := hw.symm))
    go_loopw [14] (fun vi w' => w' = w ∧ ∃ i : Nat, i ≤ n ∧ vi = .int .i64 (i : Int) ∧ Hid ((l.take i).all okByte = true)) (fun vi _ => n - (intOf vi).toNat)
    case atStart => exact ⟨rfl, 0, by omega, rfl, rfl⟩
    case round =>
      obtain ⟨rfl, i, hi, rfl, hall⟩ := hrel
      by_cases hlt : i < n
      · obtain ⟨d, hd⟩ : ∃ d, l[i]? = some d := ⟨_, List.getElem?_eq_getElem (by rw [Hn.out]; exact hlt)⟩
        have ix := HIX.out i d hd (i : Int) rfl
        cases hp : okByte d
        all_goals
          have kd := kind_zero d
          rw [hp] at kd
          try simp only [Bool.not_true, Bool.not_false] at kd
          have HP := hid_in hp
          clear hp
          have Hd := hid_in hd
          have Hl := hid_in hlt
          clear hd
          go_wp2_with (first | (go_at_call 115; refine (kind_any _ _).mono ?_; rintro e w' ⟨rfl, hw⟩; obtain rfl := hw.symm))
        · go_ret
          refine ⟨congrArg (fun z => Ending.returned (Value.bool z)) (Eq.trans ?_ hR.out.symm), rfl⟩
          rw [all_no Hd.out HP.out, Bool.and_false]
        · go_roundw
          case rel =>
            go_light
            exact ⟨trivial, i + 1, by omega, by go_num, all_snoc Hd.out hall.out HP.out⟩
          case measure => simp [intOf]; omega
      · have hin : i = n := by omega
        have hall2 : l.all okByte = true := by have := hall.out; rw [hin, ← Hn.out, List.take_length] at this; exact this
        clear hin
        go_wp2_with fail
        go_ret
        refine ⟨congrArg (fun z => Ending.returned (Value.bool z)) (Eq.trans ?_ hR.out.symm), rfl⟩
        rw [hall2, H47.out]; rfl
set_option maxHeartbeats 400000 in
set_option maxRecDepth 100000 in
theorem isName_any (x : Str) (hx : x.length ≤ 9223372036854775807) (w : World) : Calls Tryz.prog 137 #[.string (B x)] w fun e w' => e = .returned (.bool (isNameS x)) ∧ w' = w := by
  by_cases hbad : (x = [] ∨ x = [46] ∨ x = [46, 46]) ∨ 16 < x.length
  · have hT := toL x
    have hsz : (B x).size = x.length := B_size _
    have hR : Hid (isNameS x = false) := by
      show _ = _
      unfold isNameS
      rcases hbad with (rfl | rfl | rfl) | h
      · rfl
      · rfl
      · rfl
      · rw [decide_eq_false (by omega : ¬ x.length ≤ 16)]; simp
    rw [hR.out]
    have H16 : Hid (16 < x.length ∨ x.length ≤ 16) := by show _ ∨ _; omega
    generalize B x = s at hT hsz ⊢
    rcases hbad with (rfl | rfl | rfl) | h
    · go_enter Tryz.func137, Tryz.ntmps137
      go_wp2_with fail
      all_goals (go_ret; exact ⟨rfl, rfl⟩)
    · go_enter Tryz.func137, Tryz.ntmps137
      go_wp2_with fail
      all_goals (go_ret; exact ⟨rfl, rfl⟩)
    · go_enter Tryz.func137, Tryz.ntmps137
      go_wp2_with fail
      all_goals (go_ret; exact ⟨rfl, rfl⟩)
    · have e0 : (s.toList.isEmpty) = false := by rw [hT]; cases x <;> simp_all
      have e1 : (s.toList == [46]) = false := by rw [hT, beq_eq_false_iff_ne]; rintro rfl; simp at h
      have e2 : (s.toList == [46, 46]) = false := by rw [hT, beq_eq_false_iff_ne]; rintro rfl; simp at h
      have e3 : (s.toList = [46]) = False := by rw [hT]; simp only [eq_iff_iff, iff_false]; rintro rfl; simp at h
      have e4 : (s.toList = [46, 46]) = False := by rw [hT]; simp only [eq_iff_iff, iff_false]; rintro rfl; simp at h
      clear hT
      generalize x.length = n at *
      go_enter Tryz.func137, Tryz.ntmps137
      go_wp2_with fail
      all_goals (go_ret; exact ⟨rfl, rfl⟩)
  · have hb : (x ≠ [] ∧ x ≠ [46] ∧ x ≠ [46, 46]) ∧ x.length ≤ 16 := by
      refine ⟨⟨fun e => hbad (.inl (.inl e)), fun e => hbad (.inl (.inr (.inl e))), fun e => hbad (.inl (.inr (.inr e)))⟩, ?_⟩
      omega
    clear hbad
    obtain ⟨⟨b0, b1, b2⟩, b3⟩ := hb
    have hsz : (B x).size = x.length := B_size _
    have hix := fun (j : Nat) (d : UInt8) (hj : x[j]? = some d) => index_str (B x) j d (by rw [bl_B]; exact hj)
    have hT := toL x
    obtain ⟨R, hR⟩ : ∃ R, Hid (R = x.all plain) := ⟨_, rfl⟩
    have hR2 : isNameS x = R := by
      rw [hR.out]; unfold isNameS
      rw [beq_eq_false_iff_ne.2 b0, beq_eq_false_iff_ne.2 b1, beq_eq_false_iff_ne.2 b2, decide_eq_true b3]; simp
    rw [hR2]
    have HIX := hid_in hix
    clear hix hR2
    generalize B x = s at hsz HIX hT ⊢
    have e0 : (s.toList.isEmpty) = false := by rw [hT]; cases x <;> simp_all
    have e1 : (s.toList == [46]) = false := by rw [hT, beq_eq_false_iff_ne]; exact b1
    have e2 : (s.toList == [46, 46]) = false := by rw [hT, beq_eq_false_iff_ne]; exact b2
    have e3 : (s.toList = [46]) = False := by rw [hT]; simpa using b1
    have e4 : (s.toList = [46, 46]) = False := by rw [hT]; simpa using b2
    have h1 : 1 ≤ x.length := by cases x; exact absurd rfl b0; simp
    clear hT b0 b1 b2
    generalize hl : x = l at *
    clear hl
    generalize hn : l.length = n at hsz hx b3 h1
    have Hn := hid_in hn
    clear hn
    go_enter Tryz.func137, Tryz.ntmps137
    go_wp2_with fail
    go_loopw [21] (fun vi w' => w' = w ∧ ∃ i : Nat, i ≤ n ∧ vi = .int .i64 (i : Int) ∧ Hid ((l.take i).all plain = true)) (fun vi _ => n - (intOf vi).toNat)
    case atStart => exact ⟨rfl, 0, by omega, rfl, rfl⟩
    case round =>
      obtain ⟨rfl, i, hi, rfl, hall⟩ := hrel
      by_cases hlt : i < n
      · obtain ⟨d, hd⟩ : ∃ d, l[i]? = some d := ⟨_, List.getElem?_eq_getElem (by rw [Hn.out]; exact hlt)⟩
        have ix := HIX.out i d hd (i : Int) rfl
        cases hp : plain d
        all_goals
          have kd := kind_two d
          rw [hp] at kd
          try simp only [Bool.not_true, Bool.not_false] at kd
          have HP := hid_in hp
          clear hp
          have Hd := hid_in hd
          have Hl := hid_in hlt
          clear hd
          go_wp2_with (first | (go_at_call 115; refine (kind_any _ _).mono ?_; rintro e w' ⟨rfl, hw⟩; obtain rfl := hw.symm))
        · go_ret
          refine ⟨congrArg (fun z => Ending.returned (Value.bool z)) (Eq.trans ?_ hR.out.symm), rfl⟩
          exact (all_no Hd.out HP.out).symm
        · go_roundw
          case rel =>
            go_light
            exact ⟨trivial, i + 1, by omega, by go_num, all_snoc Hd.out hall.out HP.out⟩
          case measure => simp [intOf]; omega
      · have hin : i = n := by omega
        have hall2 : l.all plain = true := by have := hall.out; rw [hin, ← Hn.out, List.take_length] at this; exact this
        clear hin
        go_wp2_with fail
        go_ret
        refine ⟨congrArg (fun z => Ending.returned (Value.bool z)) (Eq.trans ?_ hR.out.symm), rfl⟩
        rw [hall2]
end Go.Proofs.YtngehkmdanhgpaaGreat.Vp
namespace Go.Proofs.YtngehkmdanhgpaaGreat.Vp
open Go.RowKit
/-- what stands ahead of the first stroke, what behind it, whether there is one -/
def cutS : Str → Str × Str × Bool
  | [] => ([], [], false)
  | c :: r => if c = 47 then ([], r, true) else (c :: (cutS r).1, (cutS r).2.1, (cutS r).2.2)
/-- what stands between the strokes, from the left, empty pieces too -/
def piecesS : Str → List Str
  | [] => [[]]
  | c :: r => if c = 47 then [] :: piecesS r else match piecesS r with
    | [] => [[c]]
    | p :: ps => (c :: p) :: ps
theorem pieces_cut (x : Str) : piecesS x = if (cutS x).2.2 then (cutS x).1 :: piecesS (cutS x).2.1 else [(cutS x).1] := by
  induction x with
  | nil => rfl
  | cons c r ih =>
    by_cases h : c = 47
    · simp [piecesS, cutS, h]
    · have e1 : piecesS (c :: r) = match piecesS r with | [] => [[c]] | p :: ps => (c :: p) :: ps := by rw [piecesS, if_neg h]
      have e2 : cutS (c :: r) = (c :: (cutS r).1, (cutS r).2.1, (cutS r).2.2) := by rw [cutS, if_neg h]
      rw [e1, e2, ih]
      by_cases h2 : (cutS r).2.2 = true
      · simp [h2]
      · simp [h2]
theorem cut_short (x : Str) (h : (cutS x).2.2 = true) : (cutS x).2.1.length < x.length := by
  induction x with
  | nil => simp [cutS] at h
  | cons c r ih =>
    unfold cutS at h ⊢
    by_cases h2 : c = 47
    · simp [h2]
    · simp only [h2, if_false] at h ⊢
      have := ih h
      simp; omega
theorem idx_cases (x : Str) : (Lib.indexByte x 47 = -1 ∧ cutS x = (x, [], false)) ∨ ∃ i : Nat, Lib.indexByte x 47 = (i : Int) ∧ i < x.length ∧ cutS x = (x.take i, x.drop (i + 1), true) := by
  induction x with
  | nil => exact .inl ⟨rfl, rfl⟩
  | cons c r ih =>
    unfold Lib.indexByte cutS
    by_cases h : c = 47
    · exact .inr ⟨0, by simp [h], by simp, by simp [h]⟩
    · rcases ih with ⟨h1, h2⟩ | ⟨i, h1, hi, h2⟩
      · exact .inl ⟨by simp [h, h1], by simp [h, h2]⟩
      · refine .inr ⟨i + 1, ?_, by simp; omega, by simp [h, h2]⟩
        rw [h1]
        have : ¬ ((i : Int) = -1) := by omega
        simp [h, this]
theorem extract_B (x : Str) (a b : Nat) : (B x).extract a b = B ((x.take b).drop a) := by
  refine ByteArray.ext ?_
  rw [ByteArray.data_extract]
  apply Array.toList_inj.1
  simp [B, List.drop_take]
set_option maxHeartbeats 400000 in
set_option maxRecDepth 100000 in
theorem indexByte_any (s : ByteArray) (c : Int) (w : World) : Calls Tryz.prog 147 #[.string s, .int .u8 c] w fun e w' => e = .returned (.int .i64 (Lib.indexByte s.data.toList c.toNat.toUInt8)) ∧ w' = w := by
  go_enter Tryz.func147, Tryz.ntmps147
  go_wp2
  rw [run_callFunc_extern Tryz.func151 (by kernel_rfl) (by kernel_rfl) (by kernel_rfl) (e := Extern.BytealgIndexByte.indexByte) (by kernel_rfl), Lib.run_indexByteString]
  simp only [Result.andThen]
  rw [Oper.upon_value]
  go_wp2
  go_ret
  exact ⟨rfl, rfl⟩
set_option maxHeartbeats 2000000 in
set_option maxRecDepth 100000 in
theorem index_any (x : Str) (w : World) : Calls Tryz.prog 144 #[.string (B x), .string ⟨#[47]⟩] w fun e w' => e = .returned (.int .i64 (Lib.indexByte x 47)) ∧ w' = w := by
  have hT := toL x
  have hD : (B x).data.toList = x := bl_B x
  obtain ⟨K, hK⟩ : ∃ K, Hid (K = Lib.indexByte x 47) := ⟨_, rfl⟩
  rw [← hK.out]
  have hC := indexByte_any (B x) 47
  rw [hD, show (47 : Int).toNat.toUInt8 = 47 from rfl, ← hK.out] at hC
  generalize B x = s at hT hC ⊢
  clear hD
  have HC := hid_in hC
  have HT := hid_in hT
  clear hC hT
  go_enter Tryz.func144, Tryz.ntmps144
  go_wp2_with (go_at_call 147; refine (HC.out _).mono ?_; rintro e w' ⟨rfl, hw⟩; obtain rfl := hw.symm)
  · have h : ([47] == s.toList) = true := by assumption
    go_ret
    refine ⟨congrArg (fun z => Ending.returned (Value.int .i64 z)) (Eq.trans ?_ hK.out.symm), rfl⟩
    have e : x = [47] := by rw [← HT.out]; exact (beq_iff_eq.1 h).symm
    rw [e]; rfl
  · go_ret
    exact ⟨rfl, rfl⟩
set_option maxHeartbeats 1000000 in
set_option maxRecDepth 100000 in
theorem lcut_any (x : Str) (hx : x.length ≤ 4294967296) (w : World) : Calls Tryz.prog 134 #[.string (B x), .string ⟨#[47]⟩] w fun e w' => e = .returned (.tuple #[.string (B (cutS x).1), .string (B (cutS x).2.1), .bool (cutS x).2.2]) ∧ ∃ n, w' = w.drewN n := by
  have hI := index_any x
  have hsz : (B x).size = x.length := B_size x
  rcases idx_cases x with ⟨h1, h2⟩ | ⟨i, h1, hi, h2⟩
  · rw [h1] at hI
    rw [h2]
    have HI := hid_in hI
    clear hI
    go_enter Tryz.func134, Tryz.ntmps134
    go_wp2_with (go_at_call 144; refine (HI.out _).mono ?_; rintro e w' ⟨rfl, hw⟩; obtain rfl := hw.symm)
    go_ret3
    exact ⟨rfl, 0, rfl⟩
  · rw [h1] at hI
    have e1 : (B x).extract 0 i = B (x.take i) := by rw [extract_B]; simp
    have e2 : (B x).extract (i + 1) x.length = B (x.drop (i + 1)) := by rw [extract_B]; simp
    rw [h2]
    have HI := hid_in hI
    have E1 := hid_in e1
    have E2 := hid_in e2
    have c2 : (i : Int) ≤ ((B x).size : Int) := by omega
    have c4 : (i : Int) + 1 ≤ ((B x).size : Int) := by omega
    clear hI h1 h2 e1 e2
    show Calls Tryz.prog 134 #[.string (B x), .string ⟨#[47]⟩] w fun e w' => e = .returned (.tuple #[.string (B (x.take i)), .string (B (x.drop (i + 1))), .bool true]) ∧ ∃ n, w' = w.drewN n
    generalize B x = s at hsz HI E1 E2 c2 c4 ⊢
    generalize x.length = n at *
    go_enter Tryz.func134, Tryz.ntmps134
    go_wp2_with (go_at_call 144; refine (HI.out _).mono ?_; rintro e w' ⟨rfl, hw⟩; obtain rfl := hw.symm)
    go_region
    go_wp2
    go_ret3
    refine ⟨?_, 1, rfl⟩
    simp [E1.out, E2.out]
set_option maxHeartbeats 1000000 in
set_option maxRecDepth 100000 in
theorem cut_any (x : Str) (hx : x.length ≤ 4294967296) (w : World) : Calls Tryz.prog 117 #[.string (B x), .string ⟨#[47]⟩] w fun e w' => e = .returned (.tuple #[.string (B (cutS x).1), .string (B (cutS x).2.1), .bool (cutS x).2.2]) ∧ ∃ n, w' = w.drewN n := by
  have hI := lcut_any x hx
  have HI := hid_in hI
  clear hI
  go_enter Tryz.func117, Tryz.ntmps117
  go_wp2_with (go_at_call 134; refine (HI.out _).mono ?_; rintro e w' ⟨rfl, n, hw⟩; obtain rfl := hw)
  go_ret3
  exact ⟨rfl, n, rfl⟩
end Go.Proofs.YtngehkmdanhgpaaGreat.Vp
namespace Go.Proofs.YtngehkmdanhgpaaGreat.Vp
open Go.RowKit Go.Shelf
attribute [local go_sem] Oper.semAt_some
theorem grown_drewN (W : World) (m : Nat) : W.grownBy (W.drewN m) none :=
  ⟨(below_drewN (Below.refl 0 W) m).os, (below_drewN (Below.refl 0 W) m).tape, (below_drewN (Below.refl 0 W) m).output, (below_drewN (Below.refl 0 W) m).size, fun k _ _ => by simp⟩
def leftOf (v : Value) : Value → Nat
  | .bool true => (match v with | .string s => (bl s).length | _ => 0) + 1
  | _ => 0
set_option maxHeartbeats 1000000 in
theorem pieces_in (x : Str) (w : World) : CallsIn Fence.wide 3 Tryz.prog 85 #[.string (B x)] w fun e w' => e = .returned (.func (.func 116) #[] #[.pointer (some ⟨w.heap.size, 0, none⟩)]) ∧ w' = w.alloc (.cells #[.string (B x)] 9) := by
  refine callsIn_of_wp Tryz.func85 rfl trivial ?_ rfl
  simp only [Tryz.ntmps85, List.size_toArray, List.length_cons, List.length_nil, Nat.reduceAdd, Nat.reduceSub, Array.replicate_succ, Array.replicate_zero, List.push_toArray, List.append_toArray, List.nil_append, List.cons_append]
  gi_wp2
  go_ret
  exact ⟨rfl, rfl⟩
set_option maxRecDepth 100000 in
set_option maxHeartbeats 1000000 in
theorem pieces1_in (n : Nat) (hn : 1 ≤ n) (l Bn : Nat) (x : Str) (hx : x.length ≤ 4294967296) (J Jx : List Str → World → Prop)
    (hJd : ∀ s W m, J s W → J s (World.drewN W m))
    (hY : ∀ pre p W, J pre W → pre.length < (piecesS x).length → YieldAt Fence.wide (n - 1) Tryz.prog l #[.string (B p)] W fun e W' =>
      (e = .returned (.bool true) ∧ J (pre ++ [p]) W' ∧ True) ∨ (e = .returned (.bool false) ∧ Jx (pre ++ [p]) W'))
    (W : World) (hBn : W.cell? ⟨Bn, 0, none⟩ = some (.string (B x))) (h0 : J [] W) :
    CallsIn Fence.wide n Tryz.prog 116 #[.func (.yield l) #[] #[], .pointer (some ⟨Bn, 0, none⟩)] W fun e W' => (∃ v, e = .returned v) ∧
      ((∃ ys, ys = piecesS x ∧ J ys W') ∨ (∃ pre, pre <+: piecesS x ∧ Jx pre W')) := by
  refine callsIn_of_wp Tryz.func116 rfl trivial ?_ rfl
  simp only [Tryz.ntmps116, List.size_toArray, List.length_cons, List.length_nil, Nat.reduceAdd, Nat.reduceSub, Array.replicate_succ, Array.replicate_zero, List.push_toArray, List.append_toArray, List.nil_append, List.cons_append]
  have HY := hid_in hY
  have HJd := hid_in hJd
  clear hY hJd
  gi_wp2
  gi_loopw [3, 4] (fun v3 v4 wr => (∃ (pre : List Str) (y : Str), v3 = .string (B y) ∧ v4 = .bool true ∧ y.length ≤ 4294967296 ∧ Hid (piecesS x = pre ++ piecesS y) ∧ J pre wr) ∨ (v4 = .bool false ∧ J (piecesS x) wr))
    (fun v3 v4 _ => leftOf v3 v4)
  case atStart =>
    exact .inl ⟨[], x, rfl, rfl, hx, rfl, h0⟩
  case round =>
    rcases hrel with ⟨pre, y, rfl, rfl, hy, hp, hJs⟩ | ⟨rfl, hJs⟩
    · have hC := hid_in (cut_any y hy)
      have HP := hid_in (pieces_cut y)
      have HL := hid_in (cut_short y)
      generalize cutS y = t at hC HP HL
      obtain ⟨c, r, b⟩ := t
      simp only at HP
      gi_wp2_with (refine ⟨trivial, ?_⟩; gi_at_call 117; refine (callsIn_wide.2 (hC.out _)).mono ?_; rintro e w' ⟨rfl, m, hw⟩; obtain rfl := hw)
      have hpre : (pre ++ [c]) <+: piecesS x := by
        rw [hp.out, HP.out]
        cases b
        · exact ⟨[], by simp⟩
        · exact ⟨piecesS r, by simp⟩
      obtain ⟨fn, tmps, assign, body, hy2, hR⟩ := HY.out pre c (wr.drewN m) (HJd.out _ _ _ hJs) (by have := hpre.length_le; simp at this; omega)
      have HPRE := hid_in hpre
      clear hpre
      rw [hy2]
      gi_wp2
      refine hR.mono ?_
      rintro e W3 (⟨rfl, hJ3, _⟩ | ⟨rfl, hJx3⟩)
      · gi_wp2
        go_roundw
        case rel =>
          cases b
          · refine .inr ⟨rfl, ?_⟩
            rw [hp.out, HP.out]; exact hJ3
          · refine .inl ⟨pre ++ [c], r, rfl, rfl, ?_, ?_, hJ3⟩
            · have := HL.out rfl; omega
            · show _ = _
              rw [hp.out, HP.out]; simp
        case measure =>
          cases b
          · simp [leftOf]
          · have := HL.out rfl
            simp [leftOf, bl_B]; omega
      · gi_wp2
        refine bodyPost_ret (results_none rfl _ _ _) rfl ?_
        exact ⟨⟨_, rfl⟩, .inr ⟨pre ++ [c], HPRE.out, hJx3⟩⟩
    · gi_wp2
      go_end0
      exact ⟨⟨_, rfl⟩, .inl ⟨_, rfl, hJs⟩⟩
theorem pieces_stops (n : Nat) (hn : 1 ≤ n) (Bn : Nat) (x : Str) (hx : x.length ≤ 4294967296) (w : World) (hb : Bn < w.heap.size) (hc : w.cell? ⟨Bn, 0, none⟩ = some (.string (B x))) :
    SeqStopsK Fence.wide n Tryz.prog 116 #[.pointer (some ⟨Bn, 0, none⟩)] (fun p : Str => #[Value.string (B p)]) (fun _ _ => True) (fun ys => ys = piecesS x) (fun pre => pre <+: piecesS x) (piecesS x).length w := fun l J Jx W hW hJ _ hY h0 =>
  pieces1_in n hn l Bn x hx J Jx (fun s W m h => hJ s W _ none h (grown_drewN W m) (fun r e => by cases e)) hY W ((hW.cell (p := ⟨Bn, 0, none⟩) hb).trans hc) h0
end Go.Proofs.YtngehkmdanhgpaaGreat.Vp
namespace Go.Proofs.YtngehkmdanhgpaaGreat.Vp
open Go.RowKit Go.Shelf
def sv (x : Str) : Value := .string (B x)
/-- the names behind one more piece -/
def stepS (xs : List Str) (p : Str) : List Str := if p = [] ∨ p = [46] then xs else if p = [46, 46] then xs.dropLast else xs ++ [p]
/-- a slice of the call's own that holds these names -/
abbrev Nms (W : World) (base : Nat) (v : Value) (xs : List Str) : Prop := W.ownsRow base 9 1 v xs.length (xs.map sv)
def s0 (p : Str) : ByteArray := B p
theorem info9 : (Tryz.prog.info? 9).map (fun i => (i.zero, i.size, i.bytes)) = some (some (.string ByteArray.empty), 1, 16) := by kernel_rfl
theorem grown_tmp {W w1 : World} {o : Obj} {row : Option Nat} (h : (W.alloc o).grownBy w1 row) : W.grownBy w1 row :=
  ⟨h.os, h.tape, h.output, Nat.le_trans (by simp) h.size, fun k hk hne => (h.block k (by simp; omega) hne).trans (Below.heap_alloc W o k hk)⟩
theorem Nms.back {W : World} {base : Nat} {g k cap : Nat} {xs : List Str} (h : Nms W base (.slice (some ⟨g, 0, none⟩) (k + 1) cap) xs) (hk : xs.length = k + 1) : Nms W base (.slice (some ⟨g, 0, none⟩) k cap) xs.dropLast := by
  have hl : xs.dropLast.length = k := by simp [hk]
  unfold Nms at *
  rw [hl]
  refine ⟨by simp [hk], ?_⟩
  rcases h.2 with ⟨h0, _⟩ | ⟨g', cap', cur, h0, hb, hg, hn, hm, hs, ht⟩
  · cases h0
  · simp only [Value.slice.injEq, Option.some.injEq, Addr.mk.injEq] at h0
    obtain ⟨⟨e1, _, _⟩, _, e2⟩ := h0
    subst e1 e2
    refine .inr ⟨g, cap, cur, rfl, hb, hg, by omega, hm, hs, ?_⟩
    have e : (xs.map sv).take k = xs.dropLast.map sv := by rw [List.dropLast_eq_take, hk, List.map_take]; rfl
    rw [← e, ← ht, hk, List.take_take]
    congr 1
    omega
set_option maxHeartbeats 1000000 in
set_option maxRecDepth 100000 in
theorem step_any (base : Nat) (v : Value) (xs : List Str) (p : Str) (W : World) (hrow : Nms W base v xs) (hlen : xs.length ≤ 100000) (hbase : base ≤ W.heap.size) :
    Calls Tryz.prog 86 #[v, .string (B p)] W fun e W' => ∃ v', e = .returned v' ∧ Nms W' base v' (stepS xs p) ∧ W.grownBy W' v.ownBlock := by
  have hT := toL p
  by_cases h1 : p = [] ∨ p = [46]
  · have hs : stepS xs p = xs := by unfold stepS; rw [if_pos h1]
    rw [hs]
    have HR := hid_in hrow
    clear hrow hs
    generalize B p = s at hT ⊢
    rcases h1 with rfl | rfl
    · go_enter Tryz.func86, Tryz.ntmps86
      go_wp2_with fail
      all_goals
        go_ret
        exact ⟨v, rfl, HR.out, ⟨rfl, rfl, rfl, Nat.le_refl _, fun _ _ _ => rfl⟩⟩
    · go_enter Tryz.func86, Tryz.ntmps86
      go_wp2_with fail
      all_goals
        go_ret
        exact ⟨v, rfl, HR.out, ⟨rfl, rfl, rfl, Nat.le_refl _, fun _ _ _ => rfl⟩⟩
  · by_cases h2 : p = [46, 46]
    · have hs : stepS xs p = xs.dropLast := by unfold stepS; rw [if_neg h1, if_pos h2]
      rw [hs]
      clear h1 hs
      subst h2
      generalize B [46, 46] = s at hT ⊢
      rcases hrow.2 with ⟨rfl, h0⟩ | ⟨g, cap, cur, rfl, hb, hg, hn, hm, hcs, ht⟩
      · have hx : xs = [] := List.eq_nil_of_length_eq_zero h0
        subst hx
        clear hrow h0
        go_enter Tryz.func86, Tryz.ntmps86
        go_wp2_with fail
        all_goals
          go_ret
          exact ⟨_, rfl, World.ownsRow_nil _ _ _ _, ⟨rfl, rfl, rfl, Nat.le_refl _, fun _ _ _ => rfl⟩⟩
      · cases hk : xs.length with
        | zero =>
          have hx : xs = [] := List.eq_nil_of_length_eq_zero hk
          subst hx
          have HR := hid_in hrow
          have hcap : cap ≤ 9223372036854775807 := by unfold maxLen at hm; omega
          clear hrow hg ht hcs hk
          go_enter Tryz.func86, Tryz.ntmps86
          go_wp2_with fail
          all_goals
            go_ret
            exact ⟨_, rfl, HR.out, ⟨rfl, rfl, rfl, Nat.le_refl _, fun _ _ _ => rfl⟩⟩
        | succ k =>
          rw [hk] at hn hlen
          have HR := hid_in (Nms.back (k := k) (show Nms W base (.slice (some ⟨g, 0, none⟩) (k + 1) cap) xs by rw [← hk]; exact hrow) hk)
          have hcap : cap ≤ 9223372036854775807 := by unfold maxLen at hm; omega
          have c1 : (k : Int) ≤ cap := by omega
          have hmax : max (k : Int) 0 = k := by omega
          clear hrow hg ht hcs hk
          go_enter Tryz.func86, Tryz.ntmps86
          go_wp2_with fail
          all_goals
            go_ret
            exact ⟨_, rfl, HR.out, ⟨rfl, rfl, rfl, Nat.le_refl _, fun _ _ _ => rfl⟩⟩
    · have hs : stepS xs p = xs ++ [p] := by unfold stepS; rw [if_neg h1, if_neg h2]
      rw [hs]
      obtain ⟨i0, hi, hz0, hz1, hz2⟩ := info_parts info9
      have e0 : (s0 p).toList.isEmpty = false := by rw [s0, toL]; cases p <;> simp_all
      have e1 : ((s0 p).toList == [46]) = false := by rw [s0, toL, beq_eq_false_iff_ne]; exact fun e => h1 (.inr e)
      have e2 : ((s0 p).toList == [46, 46]) = false := by rw [s0, toL, beq_eq_false_iff_ne]; exact h2
      have e3 : ((s0 p).toList = [46]) = False := by rw [s0, toL]; simp only [eq_iff_iff, iff_false]; exact fun e => h1 (.inr e)
      have e4 : ((s0 p).toList = [46, 46]) = False := by rw [s0, toL]; simp only [eq_iff_iff, iff_false]; exact h2
      have e5 : ((s0 p).toList = []) = False := by rw [s0, toL]; simp only [eq_iff_iff, iff_false]; exact fun e => h1 (.inl e)
      have HS : Hid ((xs ++ [p]).map sv = xs.map sv ++ [.string (s0 p)] ∧ (xs ++ [p]).length = xs.length + 1) := ⟨by simp [sv, s0], by simp⟩
      have hml : xs.length + 1 ≤ maxLen := by unfold maxLen; omega
      have hrow2 : W.ownsRow base 9 1 v xs.length (xs.map sv) := hrow
      obtain ⟨k, hk⟩ : ∃ k, Hid (k = xs.length) := ⟨_, rfl⟩
      rw [← hk.out] at hrow2 hlen hml
      obtain ⟨us, hus⟩ : ∃ us, Hid (us = xs.map sv) := ⟨_, rfl⟩
      rw [← hus.out] at hrow2
      have HR := hid_in hrow2
      clear hT h1 h2 hs hrow hrow2
      show Calls Tryz.prog 86 #[v, .string (s0 p)] W fun e W' => ∃ v', e = .returned v' ∧ Nms W' base v' (xs ++ [p]) ∧ W.grownBy W' v.ownBlock
      generalize s0 p = s at e0 e1 e2 e3 e4 e5 HS ⊢
      go_enter Tryz.func86, Tryz.ntmps86
      go_wp2_with (first | (at_builtin; refine wpList_append_own _ rfl _ _ 35 rfl base 9 i0 (.string ByteArray.empty) 1 16 Tryz.underlying35 hi hz0 hz1 hz2 rfl (by decide) v k us rfl (HR.out.alloc _) ⟨W.heap.size, 0, none⟩ 1 1 [.string s] rfl rfl (cell_one_new _ _ _) (by simp [Value.oneCell']) hml (by omega) (by simp; omega) ?_; intro v' w1 hown' hgrow _; have HO := hid_in hown'; have HG := hid_in hgrow; clear hown' hgrow))
      go_ret
      refine ⟨_, rfl, ?_, grown_tmp HG.out⟩
      unfold Nms
      rw [HS.out.1, HS.out.2, ← hk.out, ← hus.out]
      exact HO.out
end Go.Proofs.YtngehkmdanhgpaaGreat.Vp
namespace Go.Proofs.YtngehkmdanhgpaaGreat.Vp
open Go.RowKit Go.Shelf
attribute [local go_sem] Oper.semAt_some
/-- the names of a text's pieces -/
def namesS (ps : List Str) : List Str := ps.foldl stepS []
def long (p : Str) : Bool := decide (16 < p.length)
/-- the path that a text means, and the error -/
def parseS (s : Str) : List Str × Int :=
  if 256 < s.length then ([], 2) else if isTextS s = false then ([], 40) else
  if (piecesS (s.drop 1)).any long then ([], 41) else if 8 < (namesS (piecesS (s.drop 1))).length then ([], 42) else (namesS (piecesS (s.drop 1)), 0)
theorem names_snoc (pre : List Str) (p : Str) : namesS (pre ++ [p]) = stepS (namesS pre) p := by simp [namesS]
theorem step_len (xs : List Str) (p : Str) : (stepS xs p).length ≤ xs.length + 1 := by
  unfold stepS; split
  · omega
  · split <;> simp <;> omega
theorem names_len (ps : List Str) : (namesS ps).length ≤ ps.length := by
  have : ∀ (qs xs : List Str), (qs.foldl stepS xs).length ≤ xs.length + qs.length := by
    intro qs
    induction qs with
    | nil => intro xs; simp
    | cons q qs ih => intro xs; rw [List.foldl_cons]; have := ih (stepS xs q); have := step_len xs q; simp; omega
  have := this ps []
  simpa [namesS] using this
theorem pieces_len (x : Str) : (piecesS x).length ≤ x.length + 1 := by
  induction x with
  | nil => simp [piecesS]
  | cons c r ih =>
    unfold piecesS
    split
    · simp; omega
    · split
      · simp
      · rename_i h; rw [h] at ih; simp at ih ⊢; omega
set_option maxHeartbeats 1000000 in
set_option maxRecDepth 100000 in
theorem parse_long (s : Str) (hs : 256 < s.length) (hs2 : s.length ≤ 9223372036854775807) (w : World) : Calls Tryz.prog 47 #[.string (B s)] w fun e W' => ∃ v, e = .returned (.tuple #[v, .int .i64 2]) ∧ Nms W' w.heap.size v [] ∧ Below w.heap.size w W' := by
  have hsz : (B s).size = s.length := B_size s
  generalize B s = t at hsz ⊢
  generalize s.length = n at *
  refine (callsIn_wide (n := 4)).1 ?_
  refine callsIn_of_wp_marks Tryz.func47 rfl trivial ?_ rfl
  simp only [Tryz.ntmps47, List.size_toArray, List.length_cons, List.length_nil, Nat.reduceAdd, Nat.reduceSub, Array.replicate_succ, Array.replicate_zero, List.push_toArray, List.append_toArray, List.nil_append, List.cons_append]
  gi_wp2
  have b0 := (Boxed.new w 35 (.slice none 0 0)).alloc (.cells #[.int .i64 2] 27)
  have b1 := Boxed.new (w.alloc (.cells #[.slice none 0 0] 35)) 27 (.int .i64 2)
  rw [World.size_alloc] at b1
  have hB : Below w.heap.size w ((w.alloc (.cells #[.slice none 0 0] 35)).alloc (.cells #[.int .i64 2] 27)) := ((Below.refl _ w).alloc (Nat.le_refl _) _).alloc (by simp) _
  generalize (w.alloc (.cells #[.slice none 0 0] 35)).alloc (.cells #[.int .i64 2] 27) = W' at b0 b1 hB ⊢
  have c0 := b0.cell
  have c1 := b1.cell
  refine ⟨.tuple #[.slice none 0 0, .int .i64 2], ?_, ?_⟩
  · simp [results, Tryz.f47, go_sem, c0, c1]
  · exact ⟨_, rfl, World.ownsRow_nil _ _ _ _, hB⟩
set_option maxHeartbeats 1000000 in
set_option maxRecDepth 100000 in
theorem parse_path (s : Str) (hs : s.length ≤ 256) (ht : isTextS s = false) (w : World) : Calls Tryz.prog 47 #[.string (B s)] w fun e W' => ∃ v, e = .returned (.tuple #[v, .int .i64 40]) ∧ Nms W' w.heap.size v [] ∧ Below w.heap.size w W' := by
  have hsz : (B s).size = s.length := B_size s
  have hI := isText_any s (by omega)
  rw [ht] at hI
  have HI := hid_in hI
  clear hI ht
  generalize B s = t at hsz HI ⊢
  generalize s.length = n at *
  refine (callsIn_wide (n := 4)).1 ?_
  refine callsIn_of_wp_marks Tryz.func47 rfl trivial ?_ rfl
  simp only [Tryz.ntmps47, List.size_toArray, List.length_cons, List.length_nil, Nat.reduceAdd, Nat.reduceSub, Array.replicate_succ, Array.replicate_zero, List.push_toArray, List.append_toArray, List.nil_append, List.cons_append]
  gi_wp2_with (refine ⟨trivial, ?_⟩; gi_at_call 84; refine (callsIn_wide.2 (HI.out _)).mono ?_; rintro e w' ⟨rfl, hw⟩; subst hw)
  have b0 := (Boxed.new w 35 (.slice none 0 0)).alloc (.cells #[.int .i64 40] 27)
  have b1 := Boxed.new (w.alloc (.cells #[.slice none 0 0] 35)) 27 (.int .i64 40)
  rw [World.size_alloc] at b1
  have hB : Below w.heap.size w ((w.alloc (.cells #[.slice none 0 0] 35)).alloc (.cells #[.int .i64 40] 27)) := ((Below.refl _ w).alloc (Nat.le_refl _) _).alloc (by simp) _
  generalize (w.alloc (.cells #[.slice none 0 0] 35)).alloc (.cells #[.int .i64 40] 27) = W' at b0 b1 hB ⊢
  have c0 := b0.cell
  have c1 := b1.cell
  refine ⟨.tuple #[.slice none 0 0, .int .i64 40], ?_, ?_⟩
  · simp [results, Tryz.f47, go_sem, c0, c1]
  · exact ⟨_, rfl, World.ownsRow_nil _ _ _ _, hB⟩
theorem box_own {X Y : World} {row : Option Nat} {b : Nat} {t : TypeId} {v : Value} (h : Boxed X b t v) (hg : X.grownBy Y row) (hrow : ∀ r, row = some r → ∃ o : Obj, X.heap[r]? = some o ∧ o.isCells = false) : Boxed Y b t v :=
  h.kept hg fun e => by
    obtain ⟨o, ho, hc⟩ := hrow b e.symm
    rw [show X.heap[b]? = _ from h] at ho; cases ho; cases hc
theorem row_own {X Y : World} {row : Option Nat} {base : Nat} {v : Value} {xs : List Str} (h : Nms X base v xs) (hg : X.grownBy Y row) (hrow : ∀ r, row = some r → ∃ o : Obj, X.heap[r]? = some o ∧ o.isCells = false) : Nms Y base v xs := by
  refine World.ownsRow.kept h hg ?_
  rcases h.2 with ⟨rfl, _⟩ | ⟨g, cap, cur, rfl, _, hgb, _⟩
  · exact .inl rfl
  · refine .inr fun e => ?_
    obtain ⟨o, ho, hc⟩ := hrow g (by simpa [Value.ownBlock] using e.symm)
    rw [hgb] at ho; cases ho; cases hc
theorem Nms.shape {W : World} {base : Nat} {v : Value} {xs : List Str} (h : Nms W base v xs) : ∃ p c, v = .slice p xs.length c := by
  rcases h.2 with ⟨rfl, h0⟩ | ⟨g, cap, cur, rfl, _⟩
  · exact ⟨none, 0, by rw [h0]⟩
  · exact ⟨_, _, rfl⟩
theorem Nms.row_ge {W : World} {base : Nat} {v : Value} {xs : List Str} (h : Nms W base v xs) (k : Nat) (e : v.ownBlock = some k) : base ≤ k ∧ ∃ o, W.heap[k]? = some o ∧ o.isCells = true := by
  rcases h.2 with ⟨rfl, h0⟩ | ⟨g, cap, cur, rfl, hb, hg, _⟩
  · simp [Value.ownBlock] at e
  · obtain rfl : g = k := by simpa [Value.ownBlock] using e
    exact ⟨hb, _, hg, rfl⟩
/-- between two rounds -/
def PI (w : World) (pre : List Str) (W : World) : Prop :=
  (∃ v, Boxed W (w.heap.size + 1 + 1) 35 v ∧ Nms W w.heap.size v (namesS pre)) ∧ pre.any long = false ∧ Boxed W w.heap.size 35 (.slice none 0 0) ∧ Boxed W (w.heap.size + 1) 27 (.int .i64 0) ∧ Below w.heap.size w W
/-- a round has left -/
def PX (w : World) (pre : List Str) (W : World) : Prop :=
  pre.any long = true ∧ Boxed W w.heap.size 35 (.slice none 0 0) ∧ Boxed W (w.heap.size + 1) 27 (.int .i64 41) ∧ Below w.heap.size w W
theorem PI_own (w : World) (b : Nat) (hb : w.heap.size ≤ b) : OwnFrom b (PI w) := by
  rintro s X Y row ⟨⟨v, hv, hr⟩, hl, h0, h1, hB⟩ hg hrow
  have hrow' := fun r e => (hrow r e).2
  exact ⟨⟨v, box_own hv hg hrow', row_own hr hg hrow'⟩, hl, box_own h0 hg hrow', box_own h1 hg hrow', hB.grown hg (by have := h0.lt; omega) (fun k e => Nat.le_trans hb (hrow k e).1)⟩
theorem PX_own (w : World) (b : Nat) (hb : w.heap.size ≤ b) (c : Code) : OwnFrom b (fun pre W => c = .ret ∧ PX w pre W) := by
  rintro s X Y row ⟨hc, hl, h0, h1, hB⟩ hg hrow
  have hrow' := fun r e => (hrow r e).2
  exact ⟨hc, hl, box_own h0 hg hrow', box_own h1 hg hrow', hB.grown hg (by have := h0.lt; omega) (fun k e => Nat.le_trans hb (hrow k e).1)⟩
set_option maxHeartbeats 2000000 in
set_option maxRecDepth 100000 in
theorem parse_main (s : Str) (hs : s.length ≤ 256) (ht : isTextS s = true) (w : World) : Calls Tryz.prog 47 #[.string (B s)] w fun e W' => ∃ v, e = .returned (.tuple #[v, .int .i64 (parseS s).2]) ∧ Nms W' w.heap.size v (parseS s).1 ∧ Below w.heap.size w W' := by
  have hsz : (B s).size = s.length := B_size s
  have hne : 1 ≤ s.length := by cases s; cases ht; simp
  have hI := isText_any s (by omega)
  rw [ht] at hI
  have HI := hid_in hI
  have hex : (B s).extract 1 s.length = B (s.drop 1) := by rw [extract_B]; simp
  have HE := hid_in hex
  obtain ⟨r, hr⟩ : ∃ r, r = s.drop 1 := ⟨_, rfl⟩
  rw [← hr] at HE
  have hrl : r.length ≤ 255 := by rw [hr]; simp; omega
  have HP : Hid (parseS s = if (piecesS r).any long then ([], 41) else if 8 < (namesS (piecesS r)).length then ([], 42) else (namesS (piecesS r), 0)) := by
    show _ = _
    unfold parseS
    rw [if_neg (by omega), if_neg (by rw [ht]; simp), ← hr]
  clear hI ht hex hr
  generalize B s = t at hsz HI HE ⊢
  generalize parseS s = R at HP ⊢
  generalize s.length = n at *
  clear s
  have H1 := hid_in (pieces_len r)
  have H2 := hid_in hrl
  clear hrl
  refine (callsIn_wide (n := 4)).1 ?_
  refine callsIn_of_wp_marks Tryz.func47 rfl trivial ?_ rfl
  simp only [Tryz.ntmps47, List.size_toArray, List.length_cons, List.length_nil, Nat.reduceAdd, Nat.reduceSub, Array.replicate_succ, Array.replicate_zero, List.push_toArray, List.append_toArray, List.nil_append, List.cons_append]
  gi_wp2_with (first
    | (refine ⟨trivial, ?_⟩; gi_at_call 84; refine (callsIn_wide.2 (HI.out _)).mono ?_; rintro e w' ⟨rfl, hw⟩; subst hw)
    | (refine ⟨trivial, ?_⟩; gi_at_call 85; rw [HE.out]; refine (pieces_in r _).mono ?_; rintro e w' ⟨rfl, hw⟩; subst hw))
  have b0 := Boxed.new w 35 (.slice none 0 0)
  have b1 := Boxed.new (w.alloc (.cells #[.slice none 0 0] 35)) 27 (.int .i64 0)
  have b2 := Boxed.new ((w.alloc (.cells #[.slice none 0 0] 35)).alloc (.cells #[.int .i64 0] 27)) 35 (.slice none 0 0)
  have b3 := Boxed.new (((w.alloc (.cells #[.slice none 0 0] 35)).alloc (.cells #[.int .i64 0] 27)).alloc (.cells #[.slice none 0 0] 35)) 9 (.string (B r))
  simp only [World.size_alloc] at b1 b2 b3
  have hB0 : Below w.heap.size w ((((w.alloc (.cells #[.slice none 0 0] 35)).alloc (.cells #[.int .i64 0] 27)).alloc (.cells #[.slice none 0 0] 35)).alloc (.cells #[.string (B r)] 9)) := ((((Below.refl _ w).alloc (Nat.le_refl _) _).alloc (by simp) _).alloc (by simp; omega) _).alloc (by simp; omega) _
  have hI0 : PI w [] ((((w.alloc (.cells #[.slice none 0 0] 35)).alloc (.cells #[.int .i64 0] 27)).alloc (.cells #[.slice none 0 0] 35)).alloc (.cells #[.string (B r)] 9)) :=
    ⟨⟨_, b2.alloc _, World.ownsRow_nil _ _ _ _⟩, rfl, ((b0.alloc _).alloc _).alloc _, (b1.alloc _).alloc _, hB0⟩
  refine wpIn_rangeFunc_ownG rfl (by omega) (gf := 116) (lb := #[.pointer (some ⟨w.heap.size + 1 + 1 + 1, 0, none⟩)]) rfl trivial (enters_of Tryz.func116 (by kernel_rfl) rfl)
    (pieces_stops 3 (by omega) (w.heap.size + 1 + 1 + 1) r (by have := H2.out; omega) _ (by simp) b3.cell) (fun _ _ => trivial) (fun _ _ _ _ _ _ _ _ => trivial) (Below.refl _ _) (fun _ => rfl)
    (PI w) (fun c pre W => c = .ret ∧ PX w pre W) (PI_own w _ (by simp; omega)) (PX_own w _ (by simp; omega)) hI0
    (fun x => { tmps := #[Value.string t, undef, Value.pointer (some ⟨w.heap.size, 0, none⟩), Value.pointer (some ⟨w.heap.size + 1, 0, none⟩), Value.pointer (some ⟨w.heap.size + 1 + 1, 0, none⟩), Value.string (B x), Value.string t,
          Value.int IntKind.i64 n, Value.bool (decide (256 < (n : Int))), Value.string t, Value.bool true, Value.bool false, Value.string t, Value.string (B r),
          Value.func (Fn.func 116) #[] #[Value.pointer (some ⟨w.heap.size + 1 + 1 + 1, 0, none⟩)], Value.string (B x), undef, undef, undef, undef, undef, undef, undef, undef, undef, undef], defers := [] }) ?assign ?body ?done ?stop
  case assign =>
    intro l x W K hK
    gi_wp2
    exact hK
  case body =>
    clear hI0 hB0 b0 b1 b2 b3
    rintro l pre x W ⟨⟨v, hv, hrow⟩, hl, h0, h1, hB⟩ hlt
    have hxs : (B x).size = x.length := B_size x
    have HX : Hid (long x = decide (16 < x.length)) := rfl
    have HS := hid_in (step_any w.heap.size v (namesS pre) x W hrow (by have := names_len pre; have := H1.out; have := H2.out; omega) hB.size)
    have HRO := hid_in hrow
    have HL := hid_in hl
    have HB := hid_in hB
    have Hlt := hid_in hlt
    have c0 := h0.cell
    have f0 := h0.frozen
    have c1 := h1.cell
    have f1 := h1.frozen
    have hc := hv.cell
    have HV := hid_in hv
    have HB0 := hid_in h0
    have HB1 := hid_in h1
    clear hrow hl hB hlt hv h0 h1
    generalize B x = bx at hxs HS ⊢
    generalize hm : x.length = m at hxs HX
    clear hm
    gi_wp2_with (refine ⟨trivial, ?_⟩; gi_at_call 86; refine (CallsIn.inRound l (callsIn_wide.2 HS.out)).mono ?_; rintro e w' ⟨v', rfl, hown, hgrow⟩; obtain ⟨p', k', hv'⟩ := hown.shape; have HV1 := hid_in (HV.out.kept hgrow (HV.out.not_row (by decide) HRO.out)); have hc1 := HV1.out.cell; have hf1 := HV1.out.frozen; have HOW := hid_in hown; have HGR := hid_in hgrow; clear hown hgrow; subst hv')
    · have h16 : 16 < m := by have h : (16 : Int) < (m : Int) := by assumption
                              omega
      refine ⟨((KeepsOthers.setCell _ _ _).trans (KeepsOthers.setCell _ _ _)).from _, rfl, ?_, (HB0.out.set _).other (by omega) _, (HB1.out.other (by omega) _).set _, (HB.out.setCell (p := ⟨w.heap.size, 0, none⟩) (Nat.le_refl _) _).setCell (p := ⟨w.heap.size + 1, 0, none⟩) (by simp) _⟩
      rw [List.any_append, List.any_cons, HX.out, decide_eq_true h16]; simp
    · have h16 : ¬ 16 < m := by have h : (m : Int) ≤ 16 := by assumption
                                omega
      have hko : KeepsOthers W w' := KeepsOthers.of_grownBy HGR.out fun j o ej hj => by
        obtain ⟨_, o2, h2, h3⟩ := HRO.out.row_ge j ej
        rw [h2] at hj; cases hj; exact h3
      have hbel : Below w.heap.size w w' := HB.out.grown HGR.out HB.out.size fun k e => (HRO.out.row_ge k e).1
      refine ⟨(hko.trans (KeepsOthers.setCell _ _ _)).from _, trivial, ⟨_, HV1.out.set _, ?_⟩, ?_, ?_, ?_, hbel.setCell (p := ⟨w.heap.size + 1 + 1, 0, none⟩) (by simp; omega) _⟩
      · rw [names_snoc]
        exact World.ownsRow.kept HOW.out (grownBy_setCell' w' _ _) (.inr (HV1.out.not_row (by decide) HOW.out).symm)
      · rw [List.any_append, List.any_cons, HX.out, decide_eq_false h16, HL.out]; rfl
      · exact (HB0.out.kept HGR.out (HB0.out.not_row (by decide) HRO.out)).other (by omega) _
      · exact (HB1.out.kept HGR.out (HB1.out.not_row (by decide) HRO.out)).other (by omega) _
  case done =>
    clear hI0 hB0 b0 b1 b2 b3
    rintro D ys W hD rfl ⟨⟨v, hv, hrow⟩, hl, h0, h1, hB⟩ hK
    have HR := HP.out
    rw [if_neg (by rw [hl]; simp)] at HR
    have hlen : (namesS (piecesS r)).length ≤ 256 := by have := names_len (piecesS r); have := H1.out; have := H2.out; omega
    have HRO := hid_in hrow
    obtain ⟨p', k', hv'⟩ := hrow.shape
    have HHR := hid_in HR
    have HL := hid_in hl
    have HB := hid_in hB
    have c0 := h0.cell
    have f0 := h0.frozen
    have c1 := h1.cell
    have f1 := h1.frozen
    have hc := hv.cell
    have HV := hid_in hv
    have HB0 := hid_in h0
    have HB1 := hid_in h1
    have HD := hid_in hD
    have HK := hid_in hK
    clear hrow hl hB hv h0 h1 HR HP hD hK
    subst hv'
    obtain ⟨ns, hns⟩ : ∃ ns, Hid (ns = namesS (piecesS r)) := ⟨_, rfl⟩
    rw [← hns.out] at hc hlen HRO HV HHR
    generalize hk : ns.length = k at hc hlen HV HRO HHR
    have Hk := hid_in hk
    clear hk
    gi_wp2
    · have h8 : 8 < k := by have h : (8 : Int) < (k : Int) := by assumption
                            omega
      have HR2 : R = ([], 42) := by have := HHR.out; rw [if_pos h8] at this; exact this
      have hK2 := (((KeepsOthers.setCell W ⟨w.heap.size, 0, none⟩ (.slice none 0 0)).trans (KeepsOthers.setCell _ ⟨w.heap.size + 1, 0, none⟩ (.int .i64 42)))).same D _ HK.out rfl
      have B0 := ((HB0.out.set (.slice none 0 0)).other (B' := w.heap.size + 1) (by omega) (.int .i64 42))
      have B1 := ((HB1.out.other (B' := w.heap.size) (by omega) (.slice none 0 0)).set (.int .i64 42))
      have BB := (HB.out.setCell (p := ⟨w.heap.size, 0, none⟩) (Nat.le_refl _) (.slice none 0 0)).setCell (p := ⟨w.heap.size + 1, 0, none⟩) (by simp) (.int .i64 42)
      generalize (W.setCell ⟨w.heap.size, 0, none⟩ (.slice none 0 0)).setCell ⟨w.heap.size + 1, 0, none⟩ (.int .i64 42) = W2 at hK2 B0 B1 BB ⊢
      refine ⟨by simp, .inl ⟨_, _, rfl, run_takeDeferred hK2, ?_⟩⟩
      have g0 := cell_kept B0.cell (grownBy_putObj' _ D (.deferred none)) (fun r e => by cases e; exact ⟨_, hK2, rfl⟩)
      have g1 := cell_kept B1.cell (grownBy_putObj' _ D (.deferred none)) (fun r e => by cases e; exact ⟨_, hK2, rfl⟩)
      refine ⟨.tuple #[.slice none 0 0, .int .i64 42], ?_, _, by rw [HR2], by rw [HR2]; exact World.ownsRow_nil _ _ _ _, BB.trans (belowK_b (w := w) (Nat.le_refl _) W2 D _ _ (by have := HD.out; simp at this; omega) hK2 rfl rfl)⟩
      simp [results, Tryz.f47, go_sem, g0, g1]
    · have h8 : ¬ 8 < k := by have h : (k : Int) ≤ 8 := by assumption
                              omega
      have HR2 : R = (ns, 0) := by have := HHR.out; rw [if_neg h8] at this; exact this
      have hK2 := (((KeepsOthers.setCell W ⟨w.heap.size, 0, none⟩ (.slice p' k k')).trans (KeepsOthers.setCell _ ⟨w.heap.size + 1, 0, none⟩ (.int .i64 0)))).same D _ HK.out rfl
      have B0 := ((HB0.out.set (.slice p' k k')).other (B' := w.heap.size + 1) (by omega) (.int .i64 0))
      have B1 := ((HB1.out.other (B' := w.heap.size) (by omega) (.slice p' k k')).set (.int .i64 0))
      have BB := (HB.out.setCell (p := ⟨w.heap.size, 0, none⟩) (Nat.le_refl _) (.slice p' k k')).setCell (p := ⟨w.heap.size + 1, 0, none⟩) (by simp) (.int .i64 0)
      have R1 : Nms (W.setCell ⟨w.heap.size, 0, none⟩ (.slice p' k k')) w.heap.size (.slice p' k k') ns := World.ownsRow.kept HRO.out (grownBy_setCell' _ _ _) (.inr (HB0.out.not_row (by decide) HRO.out).symm)
      have R2 : Nms ((W.setCell ⟨w.heap.size, 0, none⟩ (.slice p' k k')).setCell ⟨w.heap.size + 1, 0, none⟩ (.int .i64 0)) w.heap.size (.slice p' k k') ns := World.ownsRow.kept R1 (grownBy_setCell' _ _ _) (.inr ((HB1.out.other (B' := w.heap.size) (by omega) (.slice p' k k')).not_row (by decide) R1).symm)
      generalize (W.setCell ⟨w.heap.size, 0, none⟩ (.slice p' k k')).setCell ⟨w.heap.size + 1, 0, none⟩ (.int .i64 0) = W2 at hK2 B0 B1 BB R2 ⊢
      refine ⟨by simp, .inl ⟨_, _, rfl, run_takeDeferred hK2, ?_⟩⟩
      have g0 := cell_kept B0.cell (grownBy_putObj' _ D (.deferred none)) (fun r e => by cases e; exact ⟨_, hK2, rfl⟩)
      have g1 := cell_kept B1.cell (grownBy_putObj' _ D (.deferred none)) (fun r e => by cases e; exact ⟨_, hK2, rfl⟩)
      refine ⟨.tuple #[.slice p' k k', .int .i64 0], ?_, _, by rw [HR2], by rw [HR2]; exact ownsRow_putObj R2 _ hK2 rfl, BB.trans (belowK_b (w := w) (Nat.le_refl _) W2 D _ _ (by have := HD.out; simp at this; omega) hK2 rfl rfl)⟩
      simp [results, Tryz.f47, go_sem, g0, g1]
  case stop =>
    clear hI0 hB0 b0 b1 b2 b3
    rintro D c pre W hD hpre ⟨rfl, hX, h0, h1, hB⟩ hK
    have HR : R = ([], 41) := by
      rw [HP.out, if_pos]
      rw [List.any_eq_true] at hX ⊢
      obtain ⟨x, hx, hx2⟩ := hX
      exact ⟨x, hpre.subset hx, hx2⟩
    have HHR := hid_in HR
    clear HR HP
    gi_wp2
    refine ⟨by simp, .inl ⟨_, _, rfl, run_takeDeferred hK, ?_⟩⟩
    have g0 := cell_kept h0.cell (grownBy_putObj' _ D (.deferred none)) (fun r e => by cases e; exact ⟨_, hK, rfl⟩)
    have g1 := cell_kept h1.cell (grownBy_putObj' _ D (.deferred none)) (fun r e => by cases e; exact ⟨_, hK, rfl⟩)
    refine ⟨.tuple #[.slice none 0 0, .int .i64 41], ?_, _, by rw [HHR.out], by rw [HHR.out]; exact World.ownsRow_nil _ _ _ _, hB.trans (belowK_b (w := w) (Nat.le_refl _) W D _ _ (by simp at hD; omega) hK rfl rfl)⟩
    simp [results, Tryz.f47, go_sem, g0, g1]
/-- **Parse**: what the document says. -/
theorem parse_any (s : Str) (hs : s.length ≤ 9223372036854775807) (w : World) : Calls Tryz.prog 47 #[.string (B s)] w fun e W' => ∃ v, e = .returned (.tuple #[v, .int .i64 (parseS s).2]) ∧ Nms W' w.heap.size v (parseS s).1 ∧ Below w.heap.size w W' := by
  by_cases h1 : 256 < s.length
  · have e : parseS s = ([], 2) := by unfold parseS; rw [if_pos h1]
    rw [e]; exact parse_long s h1 hs w
  · cases ht : isTextS s
    · have e : parseS s = ([], 40) := by unfold parseS; rw [if_neg h1, if_pos ht]
      rw [e]; exact parse_path s (by omega) ht w
    · exact parse_main s (by omega) ht w
end Go.Proofs.YtngehkmdanhgpaaGreat.Vp
namespace Go.Proofs
open Go.Shelf Go.RowKit Go.Lib
def Tryz.lays156_ren : Go.Shelf.Ren := ⟨fun | 156 => 88 | 165 => 118 | 166 => 119 | 169 => 120 | 240 => 135 | 241 => 136 | 276 => 145 | 277 => 146 | n => n, fun | 31 => 35 | 9 => 9 | 3 => 3 | 4 => 4 | 0 => 0 | 20 => 20 | 72 => 142 | 76 => 146 | 70 => 139 | 37 => 140 | 75 => 145 | 127 => 162 | 164 => 171 | 5 => 5 | 80 => 148 | n => n, fun | n => n⟩
theorem Tryz.lays156 : Go.Proofs.Lays.n156 Tryz.prog Tryz.lays156_ren := {
  mixed := by kernel_rfl
  f156 := Tryz.func88.trans (congrArg some (by kernel_rfl))
  f165 := Tryz.func118.trans (congrArg some (by kernel_rfl))
  f166 := Tryz.func119.trans (congrArg some (by kernel_rfl))
  f169 := Tryz.func120.trans (congrArg some (by kernel_rfl))
  f240 := Tryz.func135.trans (congrArg some (by kernel_rfl))
  f241 := Tryz.func136.trans (congrArg some (by kernel_rfl))
  f276 := Tryz.func145.trans (congrArg some (by kernel_rfl))
  f277 := Tryz.func146.trans (congrArg some (by kernel_rfl))
  t0 := Tryz.underlying0
  a0 := Tryz.isAgg0
  z0 := Tryz.sizeOf0
  v0 := Tryz.zeroValue0
  t3 := Tryz.underlying3
  a3 := Tryz.isAgg3
  z3 := Tryz.sizeOf3
  v3 := Tryz.zeroValue3
  t4 := Tryz.underlying4
  a4 := Tryz.isAgg4
  z4 := Tryz.sizeOf4
  v4 := Tryz.zeroValue4
  t9 := Tryz.underlying9
  a9 := Tryz.isAgg9
  z9 := Tryz.sizeOf9
  v9 := Tryz.zeroValue9
  t20 := Tryz.underlying20
  a20 := Tryz.isAgg20
  z20 := Tryz.sizeOf20
  v20 := Tryz.zeroValue20
  t31 := Tryz.underlying35
  a31 := Tryz.isAgg35
  z31 := Tryz.sizeOf35
  v31 := Tryz.zeroValue35
  t37 := Tryz.underlying140
  a37 := Tryz.isAgg140
  z37 := Tryz.sizeOf140
  v37 := Tryz.zeroValue140
  t70 := Tryz.underlying139
  a70 := Tryz.isAgg139
  z70 := Tryz.sizeOf139
  v70 := Tryz.zeroValue139
  t72 := Tryz.underlying142
  a72 := Tryz.isAgg142
  z72 := Tryz.sizeOf142
  v72 := Tryz.zeroValue142
  t75 := Tryz.underlying145
  a75 := Tryz.isAgg145
  z75 := Tryz.sizeOf145
  v75 := Tryz.zeroValue145
  t76 := Tryz.underlying146
  a76 := Tryz.isAgg146
  z76 := Tryz.sizeOf146
  v76 := Tryz.zeroValue146
  t127 := Tryz.underlying162
  a127 := Tryz.isAgg162
  z127 := Tryz.sizeOf162
  v127 := Tryz.zeroValue162
  t164 := Tryz.underlying171
  a164 := Tryz.isAgg171
  z164 := Tryz.sizeOf171
  v164 := Tryz.zeroValue171 }
theorem Tryz.Builder_Extra_156 : Builder.Extra Tryz.prog Tryz.lays156_ren := {
  sizeBuilder := by kernel_rfl
  liesBuilder := by kernel_rfl
  t5 := Tryz.underlying5
  a5 := Tryz.isAgg5
  z5 := Tryz.sizeOf5
  v5 := Tryz.zeroValue5
  infoByte := by kernel_rfl
  cellsByte := by kernel_rfl
  sizeByte := by kernel_rfl
  neB5 := by decide }
theorem Tryz.strings_Join_none (a : Option Addr) (c : Nat) (sep : ByteArray) (w : World) :
    Calls Tryz.prog 88 #[.slice a 0 c, .string sep] w fun e w' => e = .returned (.string ⟨#[]⟩) ∧ w' = w := Any.strings_Join_none Tryz.lays156 Tryz.Builder_Extra_156 a c sep w
theorem Tryz.strings_Join (bk o c : Nat) (xs : List ByteArray) (sep : ByteArray) (w : World) (hcells : ∀ (j : Nat) x, xs[j]? = some x → w.cell? ⟨bk, o + j, none⟩ = some (.string x)) (hbk : bk < w.heap.size) (hN : xs.length ≤ 140737488355328) (hcap : xs.length ≤ c) (hlen : (Lib.join (xs.map (·.data.toList)) sep.data.toList).length ≤ 140737488355328) :
    Calls Tryz.prog 88 #[.slice (some ⟨bk, o, none⟩) xs.length c, .string sep] w fun e w' => e = .returned (.string ⟨(Lib.join (xs.map (·.data.toList)) sep.data.toList).toArray⟩) ∧ Below w.heap.size w w' := Any.strings_Join Tryz.lays156 Tryz.Builder_Extra_156 bk o c xs sep w hcells hbk hN hcap hlen
def Tryz.lays193_ren : Go.Shelf.Ren := ⟨fun | 193 => 103 | n => n, fun | 31 => 35 | 9 => 9 | 4 => 4 | 3 => 3 | 0 => 0 | n => n, fun | n => n⟩
theorem Tryz.lays193 : Go.Proofs.Lays.n193 Tryz.prog Tryz.lays193_ren := {
  mixed := by kernel_rfl
  f193 := Tryz.func103.trans (congrArg some (by kernel_rfl))
  t0 := Tryz.underlying0
  a0 := Tryz.isAgg0
  z0 := Tryz.sizeOf0
  v0 := Tryz.zeroValue0
  t3 := Tryz.underlying3
  a3 := Tryz.isAgg3
  z3 := Tryz.sizeOf3
  v3 := Tryz.zeroValue3
  t4 := Tryz.underlying4
  a4 := Tryz.isAgg4
  z4 := Tryz.sizeOf4
  v4 := Tryz.zeroValue4
  t9 := Tryz.underlying9
  a9 := Tryz.isAgg9
  z9 := Tryz.sizeOf9
  v9 := Tryz.zeroValue9
  t31 := Tryz.underlying35
  a31 := Tryz.isAgg35
  z31 := Tryz.sizeOf35
  v31 := Tryz.zeroValue35 }
theorem Tryz.slices_Equal_string (b1 o1 n c b2 o2 m d : Nat) (xs ys : List ByteArray) (w : World) (hx : n ≤ xs.length) (hy : m ≤ ys.length) (hbig : n ≤ 9223372036854775807) (hbig2 : m ≤ 9223372036854775807) (hc1 : ∀ j, j < xs.length → w.cell? ⟨b1, o1 + j, none⟩ = some (.string (xs.getD j ByteArray.empty))) (hc2 : ∀ j, j < ys.length → w.cell? ⟨b2, o2 + j, none⟩ = some (.string (ys.getD j ByteArray.empty))) :
    Calls Tryz.prog 103 #[.slice (some ⟨b1, o1, none⟩) n c, .slice (some ⟨b2, o2, none⟩) m d] w fun e w' => e = .returned (.bool (decide (xs.take n = ys.take m))) ∧ ∃ q, w' = w.drewN q := Any.slices_Equal_string Tryz.lays193 b1 o1 n c b2 o2 m d xs ys w hx hy hbig hbig2 hc1 hc2
theorem Tryz.slices_Equal_string_empty (a1 a2 : Option Addr) (c m d : Nat) (w : World) (hbig2 : m ≤ 9223372036854775807) :
    Calls Tryz.prog 103 #[.slice a1 0 c, .slice a2 m d] w fun e w' => e = .returned (.bool (decide (m = 0))) ∧ w' = w := Any.slices_Equal_string_empty Tryz.lays193 a1 a2 c m d w hbig2
def Tryz.laysNm216_ren : Go.Shelf.Ren := ⟨fun | 16 => 122 | n => n, fun | 24 => 35 | 9 => 9 | 4 => 4 | n => n, fun | n => n⟩
theorem Tryz.laysNm216 : Go.Proofs.Lays2.n16 Tryz.prog Tryz.laysNm216_ren := {
  mixed := by kernel_rfl
  f16 := Tryz.func122.trans (congrArg some (by kernel_rfl))
  t4 := Tryz.underlying4
  a4 := Tryz.isAgg4
  z4 := Tryz.sizeOf4
  v4 := Tryz.zeroValue4
  t9 := Tryz.underlying9
  a9 := Tryz.isAgg9
  z9 := Tryz.sizeOf9
  v9 := Tryz.zeroValue9
  t24 := Tryz.underlying35
  a24 := Tryz.isAgg35
  z24 := Tryz.sizeOf35
  v24 := Tryz.zeroValue35
  i9 := by kernel_rfl }
theorem Tryz.slices_Clone_string (b off n c : Nat) (zs : List ByteArray) (w : World) (hz : n ≤ zs.length) (hbig : n * 16 ≤ 140737488355328) (hc : ∀ j, j < zs.length → w.cell? ⟨b, off + j, none⟩ = some (.string (zs.getD j ByteArray.empty))) :
    Calls Tryz.prog 122 #[.slice (some ⟨b, off, none⟩) n c] w fun e w' => ∃ v', e = .returned v' ∧ w'.ownsRow w.heap.size 9 1 v' n ((zs.take n).map (Value.string)) ∧ v' ≠ .slice none 0 0 ∧ Below w.heap.size w w' := Any.slices_Clone_string Tryz.laysNm216 b off n c zs w hz hbig hc
theorem Tryz.slices_Clone_string_nil (n c : Nat) (w : World) :
    Calls Tryz.prog 122 #[.slice none n c] w fun e w' => e = .returned (.slice none 0 0) ∧ w' = w := Any.slices_Clone_string_nil Tryz.laysNm216 n c w
theorem Tryz.slices_Clone_string_zero (a : Addr) (c : Nat) (w : World) :
    Calls Tryz.prog 122 #[.slice (some a) 0 c] w fun e w' => ∃ v', e = .returned v' ∧ w'.ownsRow w.heap.size 9 1 v' 0 [] ∧ v' ≠ .slice none 0 0 ∧ Below w.heap.size w w' := Any.slices_Clone_string_zero Tryz.laysNm216 a c w
theorem Tryz.slices_Equal_string_lens (a1 a2 : Option Addr) (n c m d : Nat) (w : World) (hnm : n ≠ m) :
    Calls Tryz.prog 103 #[.slice a1 n c, .slice a2 m d] w fun e w' => e = .returned (.bool false) ∧ w' = w := Any.slices_Equal_string_lens Tryz.lays193 a1 a2 n c m d w hnm
end Go.Proofs
