/-
  What the document says of paths, over lists of bytes; small laws on strings. Which texts may be a path's, and which are names: the walks of the program's and of the reference's tests. The pieces of a text: what stands between its strokes. The walk of strings.Cut at one stroke. The iterator over a text's pieces, and what it hands to a loop.
-/
import Derived.Test.YtngehkmdanhgpaaGreatRows
import Derived.WalkKit
import Derived.WalkSpells
import Derived.WalkLawsBesides
import Derived.Deep.Light
import Derived.Lib.Strings
import Derived.BigQuiet
import Derived.BigRegion
import Derived.Lib.Bytealg
import Derived.Lib.Walk
import Derived.Laws.Strings3
import Derived.Deep.Draws
import Derived.BigCall
import Derived.BigGuard
import Derived.RangeFuncNested
import Derived.RangeFuncBound
import Derived.RangeFuncCalls
import Derived.RangeFuncLeaves
import Derived.RangeFuncBox
import Derived.Shelf.Abstract
import Derived.OwnWalkIn
import Derived.TacticsInMore
import Derived.LoopNIn
import Derived.LoopIn
import Derived.Maps.AppendAt
namespace Go.Proofs.YtngehkmdanhgpaaGreat.Vp
open Go.RowKit
theorem hid_in {p : Prop} (h : p) : Hid p := h
/-- a text's bytes -/
abbrev Str := List UInt8
/-- a text as the program has it -/
def B (x : Str) : ByteArray := ⟨x.toArray⟩
def bl (s : ByteArray) : Str := s.data.toList
theorem B_bl (s : ByteArray) : B (bl s) = s := by cases s; simp [B, bl]
theorem bl_B (x : Str) : bl (B x) = x := by simp [B, bl]
theorem bl_length (s : ByteArray) : (bl s).length = s.size := by simp only [bl, Array.length_toList]; rfl
theorem B_size (x : Str) : (B x).size = x.length := by rw [← bl_length, bl_B]
theorem B_inj {x y : Str} (h : B x = B y) : x = y := by rw [← bl_B x, ← bl_B y, h]
/-- may a byte stand in a name? -/
def plainN (n : Nat) : Prop := (97 ≤ n ∧ n ≤ 122) ∨ (65 ≤ n ∧ n ≤ 90) ∨ (48 ≤ n ∧ n ≤ 57) ∨ n = 46 ∨ n = 95 ∨ n = 45
instance (n : Nat) : Decidable (plainN n) := by unfold plainN; infer_instance
def kindN (n : Nat) : Int := if plainN n then 2 else if n = 47 then 1 else 0
/-- may a byte stand in a name? -/
def plain (c : UInt8) : Bool := decide (plainN c.toNat)
theorem index_str (s : ByteArray) (j : Nat) (c : UInt8) (hj : (bl s)[j]? = some c) (k : Int) (hk : k = (j : Int)) (w : World) : (Instr.index 9 (.string s) (.int .i64 k)).run Tryz.prog w = .ok (.int .u8 (c.toNat : Int)) w := by
  subst hk
  have hlt : j < s.size := by rw [← bl_length]; exact (List.getElem?_eq_some_iff.1 hj).1
  have hs : s[j]? = some s[j] := by simp [hlt]
  have hb : s[j] = c := by
    have h1 : j < s.data.size := hlt
    simp only [bl, Array.getElem?_toList, Array.getElem?_eq_getElem h1, Option.some.injEq] at hj
    exact hj
  simp [Instr.index, asIntOf, run_underlying Tryz.underlying9, hs, hb]
set_option maxHeartbeats 400000 in
set_option maxRecDepth 100000 in
theorem kind_any (n : Nat) (w : World) : Calls Tryz.prog 115 #[.int .u8 (n : Int)] w fun e w' => e = .returned (.int .i64 (kindN n)) ∧ w' = w := by
  obtain ⟨K, hK⟩ : ∃ K, Hid (K = kindN n) := ⟨_, rfl⟩
  rw [← hK.out]
  go_enter Tryz.func115, Tryz.ntmps115
  go_wp2
  all_goals
    go_ret
    refine ⟨congrArg (fun z => Ending.returned (Value.int .i64 z)) (Eq.trans ?_ hK.out.symm), rfl⟩
    try simp only [beq_iff_eq, beq_eq_false_iff_ne, ne_eq] at *
    unfold kindN
    first
      | (rw [if_pos (by unfold plainN; omega)])
      | (rw [if_neg (by unfold plainN; omega), if_pos (by omega)])
      | (rw [if_neg (by unfold plainN; omega), if_neg (by omega)])
set_option maxHeartbeats 400000 in
set_option maxRecDepth 100000 in
theorem plain_any (n : Nat) (w : World) : Calls Tryz.prog 83 #[.int .u8 (n : Int)] w fun e w' => e = .returned (.bool (decide (plainN n))) ∧ w' = w := by
  obtain ⟨K, hK⟩ : ∃ K, Hid (K = decide (plainN n)) := ⟨_, rfl⟩
  rw [← hK.out]
  go_enter Tryz.func83, Tryz.ntmps83
  go_wp2
  all_goals
    go_ret
    refine ⟨congrArg (fun z => Ending.returned (Value.bool z)) (Eq.trans ?_ hK.out.symm), rfl⟩
    try simp only [beq_iff_eq, beq_eq_false_iff_ne, ne_eq] at *
    symm
    first
      | (refine decide_eq_true ?_; unfold plainN; omega)
      | (refine decide_eq_false ?_; unfold plainN; omega)
      | (rw [Bool.eq_iff_iff, decide_eq_true_iff]; unfold plainN; simp; omega)
end Go.Proofs.YtngehkmdanhgpaaGreat.Vp
namespace Go.Proofs.YtngehkmdanhgpaaGreat.Vp
open Go.RowKit
theorem all_snoc {p : UInt8 → Bool} {l : Str} {i : Nat} {c : UInt8} (hc : l[i]? = some c) (h : (l.take i).all p = true) (hp : p c = true) : (l.take (i + 1)).all p = true := by
  rw [List.take_add_one, hc]; simp [List.all_append, h, hp]
theorem all_no {p : UInt8 → Bool} {l : Str} {i : Nat} {c : UInt8} (hc : l[i]? = some c) (hp : p c = false) : l.all p = false := by
  rw [List.all_eq_false]
  exact ⟨c, List.mem_of_getElem? hc, by simp [hp]⟩
/-- a byte that a path's text may have -/
def okByte (c : UInt8) : Bool := plain c || c == 47
/-- a path's text: it begins with a stroke, and has no byte that it may not have -/
def isTextS (x : Str) : Bool := (match x with | [] => false | c :: _ => c == 47) && x.all okByte
def isNameS (x : Str) : Bool := !(x == []) && !(x == [46]) && !(x == [46, 46]) && decide (x.length ≤ 16) && x.all plain
theorem n47 : ¬ plainN 47 := by decide
theorem kind_zero (c : UInt8) : (kindN c.toNat == 0) = !okByte c := by
  unfold kindN okByte plain
  by_cases h : plainN c.toNat
  · simp [h]
  · by_cases h2 : c.toNat = 47
    · simp [n47, show c = 47 from UInt8.toNat.inj h2]
    · have : c ≠ 47 := fun e => h2 (by rw [e]; rfl)
      simp [h, h2, this]
theorem kind_two (c : UInt8) : (kindN c.toNat != 2) = !plain c := by
  unfold kindN plain
  by_cases h : plainN c.toNat
  · simp [h]
  · by_cases h2 : c.toNat = 47
    · simp [h2, n47]
    · simp [h, h2]
theorem kind_one (c : UInt8) : (kindN c.toNat != 1) = !(c == 47) := by
  unfold kindN
  by_cases h2 : c.toNat = 47
  · have hc : c = 47 := UInt8.toNat.inj h2
    simp [n47, hc]
  · have : c ≠ 47 := fun e => h2 (by rw [e]; rfl)
    by_cases h : plainN c.toNat
    · simp [h, this]
    · simp [h, h2, this]
theorem toL (x : Str) : (B x).toList = x := by rw [Lib.toList_data]; exact bl_B x
set_option maxHeartbeats 400000 in
set_option maxRecDepth 100000 in
theorem isText_any (x : Str) (hx : x.length ≤ 9223372036854775807) (w : World) : Calls Tryz.prog 84 #[.string (B x)] w fun e w' => e = .returned (.bool (isTextS x)) ∧ w' = w := by
  cases x with
  | nil =>
    have hT := toL []
    generalize B [] = s at hT ⊢
    go_enter Tryz.func84, Tryz.ntmps84
    go_wp2_with fail
    go_ret
    exact ⟨rfl, rfl⟩
  | cons c r =>
    have hsz : (B (c :: r)).size = (c :: r).length := B_size _
    have i0 := index_str (B (c :: r)) 0 c (by rw [bl_B]; rfl) 0 rfl
    have hix := fun (j : Nat) (d : UInt8) (hj : (c :: r)[j]? = some d) => index_str (B (c :: r)) j d (by rw [bl_B]; exact hj)
    have hT := toL (c :: r)
    have hk1 := kind_one c
    obtain ⟨R, hR⟩ : ∃ R, Hid (R = ((c == 47) && (c :: r).all okByte)) := ⟨_, rfl⟩
    have hR2 : isTextS (c :: r) = R := by rw [hR.out]; rfl
    rw [hR2]
    have HIX := hid_in hix
    have Hne : Hid (c :: r ≠ []) := by show _ ≠ _; simp
    clear hix hR2
    generalize B (c :: r) = s at hsz i0 HIX hT ⊢
    generalize hl : c :: r = l at hsz hT HIX hR hx Hne
    clear hl
    generalize hn : l.length = n at hsz hx
    have Hn := hid_in hn
    clear hn
    have hT2 : s.toList.isEmpty = false := by rw [hT]; simpa using Hne.out
    clear hT
    cases h47 : (c == 47)
    · rw [h47] at hk1
      have hk2 : (kindN c.toNat != 1) = true := hk1
      clear hk1
      have H47 := hid_in h47
      clear h47
      go_enter Tryz.func84, Tryz.ntmps84
      go_wp2_with (first | (go_at_call 115; refine (kind_any _ _).mono ?_; rintro e w' ⟨rfl, hw⟩; obtain rfl := hw.symm))
      go_ret
      refine ⟨congrArg (fun z => Ending.returned (Value.bool z)) (Eq.trans ?_ hR.out.symm), rfl⟩
      rw [H47.out]; rfl
    rw [h47] at hk1
    have hk2 : (kindN c.toNat != 1) = false := hk1
    clear hk1
    have H47 := hid_in h47
    clear h47
    go_enter Tryz.func84, Tryz.ntmps84
    go_wp2_with (first | (go_at_call 115; refine (kind_any _ _).mono ?_; rintro e w' ⟨rfl, hw⟩; obtain rfl := hw.symm))
    go_loopw [14] (fun vi w' => w' = w ∧ ∃ i : Nat, i ≤ n ∧ vi = .int .i64 (i : Int) ∧ Hid ((l.take i).all okByte = true)) (fun vi _ => n - (intOf vi).toNat)
    case atStart => exact ⟨rfl, 0, by omega, rfl, rfl⟩
    case round =>
      obtain ⟨rfl, i, hi, rfl, hall⟩ := hrel
      by_cases hlt : i < n
      · obtain ⟨d, hd⟩ : ∃ d, l[i]? = some d := ⟨_, List.getElem?_eq_getElem (by rw [Hn.out]; exact hlt)⟩
        have ix := HIX.out i d hd (i : Int) rfl
        cases hp : okByte d
        all_goals
          have kd := kind_zero d
          rw [hp] at kd
          try simp only [Bool.not_true, Bool.not_false] at kd
          have HP := hid_in hp
          clear hp
          have Hd := hid_in hd
          have Hl := hid_in hlt
          clear hd
          go_wp2_with (first | (go_at_call 115; refine (kind_any _ _).mono ?_; rintro e w' ⟨rfl, hw⟩; obtain rfl := hw.symm))
        · go_ret
          refine ⟨congrArg (fun z => Ending.returned (Value.bool z)) (Eq.trans ?_ hR.out.symm), rfl⟩
          rw [all_no Hd.out HP.out, Bool.and_false]
        · go_roundw
          case rel =>
            go_light
            exact ⟨trivial, i + 1, by omega, by go_num, all_snoc Hd.out hall.out HP.out⟩
          case measure => simp [intOf]; omega
      · have hin : i = n := by omega
        have hall2 : l.all okByte = true := by have := hall.out; rw [hin, ← Hn.out, List.take_length] at this; exact this
        clear hin
        go_wp2_with fail
        go_ret
        refine ⟨congrArg (fun z => Ending.returned (Value.bool z)) (Eq.trans ?_ hR.out.symm), rfl⟩
        rw [hall2, H47.out]; rfl
set_option maxHeartbeats 400000 in
set_option maxRecDepth 100000 in
theorem isName_any (x : Str) (hx : x.length ≤ 9223372036854775807) (w : World) : Calls Tryz.prog 137 #[.string (B x)] w fun e w' => e = .returned (.bool (isNameS x)) ∧ w' = w := by
  by_cases hbad : (x = [] ∨ x = [46] ∨ x = [46, 46]) ∨ 16 < x.length
  · have hT := toL x
    have hsz : (B x).size = x.length := B_size _
    have hR : Hid (isNameS x = false) := by
      show _ = _
      unfold isNameS
      rcases hbad with (rfl | rfl | rfl) | h
      · rfl
      · rfl
      · rfl
      · rw [decide_eq_false (by omega : ¬ x.length ≤ 16)]; simp
    rw [hR.out]
    have H16 : Hid (16 < x.length ∨ x.length ≤ 16) := by show _ ∨ _; omega
    generalize B x = s at hT hsz ⊢
    rcases hbad with (rfl | rfl | rfl) | h
    · go_enter Tryz.func137, Tryz.ntmps137
      go_wp2_with fail
      all_goals (go_ret; exact ⟨rfl, rfl⟩)
    · go_enter Tryz.func137, Tryz.ntmps137
      go_wp2_with fail
      all_goals (go_ret; exact ⟨rfl, rfl⟩)
    · go_enter Tryz.func137, Tryz.ntmps137
      go_wp2_with fail
      all_goals (go_ret; exact ⟨rfl, rfl⟩)
    · have e0 : (s.toList.isEmpty) = false := by rw [hT]; cases x <;> simp_all
      have e1 : (s.toList == [46]) = false := by rw [hT, beq_eq_false_iff_ne]; rintro rfl; simp at h
      have e2 : (s.toList == [46, 46]) = false := by rw [hT, beq_eq_false_iff_ne]; rintro rfl; simp at h
      have e3 : (s.toList = [46]) = False := by rw [hT]; simp only [eq_iff_iff, iff_false]; rintro rfl; simp at h
      have e4 : (s.toList = [46, 46]) = False := by rw [hT]; simp only [eq_iff_iff, iff_false]; rintro rfl; simp at h
      clear hT
      generalize x.length = n at *
      go_enter Tryz.func137, Tryz.ntmps137
      go_wp2_with fail
      all_goals (go_ret; exact ⟨rfl, rfl⟩)
  · have hb : (x ≠ [] ∧ x ≠ [46] ∧ x ≠ [46, 46]) ∧ x.length ≤ 16 := by
      refine ⟨⟨fun e => hbad (.inl (.inl e)), fun e => hbad (.inl (.inr (.inl e))), fun e => hbad (.inl (.inr (.inr e)))⟩, ?_⟩
      omega
    clear hbad
    obtain ⟨⟨b0, b1, b2⟩, b3⟩ := hb
    have hsz : (B x).size = x.length := B_size _
    have hix := fun (j : Nat) (d : UInt8) (hj : x[j]? = some d) => index_str (B x) j d (by rw [bl_B]; exact hj)
    have hT := toL x
    obtain ⟨R, hR⟩ : ∃ R, Hid (R = x.all plain) := ⟨_, rfl⟩
    have hR2 : isNameS x = R := by
      rw [hR.out]; unfold isNameS
      rw [beq_eq_false_iff_ne.2 b0, beq_eq_false_iff_ne.2 b1, beq_eq_false_iff_ne.2 b2, decide_eq_true b3]; simp
    rw [hR2]
    have HIX := hid_in hix
    clear hix hR2
    generalize B x = s at hsz HIX hT ⊢
    have e0 : (s.toList.isEmpty) = false := by rw [hT]; cases x <;> simp_all
    have e1 : (s.toList == [46]) = false := by rw [hT, beq_eq_false_iff_ne]; exact b1
    have e2 : (s.toList == [46, 46]) = false := by rw [hT, beq_eq_false_iff_ne]; exact b2
    have e3 : (s.toList = [46]) = False := by rw [hT]; simpa using b1
    have e4 : (s.toList = [46, 46]) = False := by rw [hT]; simpa using b2
    have h1 : 1 ≤ x.length := by cases x; exact absurd rfl b0; simp
    clear hT b0 b1 b2
    generalize hl : x = l at *
    clear hl
    generalize hn : l.length = n at hsz hx b3 h1
    have Hn := hid_in hn
    clear hn
    go_enter Tryz.func137, Tryz.ntmps137
    go_wp2_with fail
    go_loopw [21] (fun vi w' => w' = w ∧ ∃ i : Nat, i ≤ n ∧ vi = .int .i64 (i : Int) ∧ Hid ((l.take i).all plain = true)) (fun vi _ => n - (intOf vi).toNat)
    case atStart => exact ⟨rfl, 0, by omega, rfl, rfl⟩
    case round =>
      obtain ⟨rfl, i, hi, rfl, hall⟩ := hrel
      by_cases hlt : i < n
      · obtain ⟨d, hd⟩ : ∃ d, l[i]? = some d := ⟨_, List.getElem?_eq_getElem (by rw [Hn.out]; exact hlt)⟩
        have ix := HIX.out i d hd (i : Int) rfl
        cases hp : plain d
        all_goals
          have kd := kind_two d
          rw [hp] at kd
          try simp only [Bool.not_true, Bool.not_false] at kd
          have HP := hid_in hp
          clear hp
          have Hd := hid_in hd
          have Hl := hid_in hlt
          clear hd
          go_wp2_with (first | (go_at_call 115; refine (kind_any _ _).mono ?_; rintro e w' ⟨rfl, hw⟩; obtain rfl := hw.symm))
        · go_ret
          refine ⟨congrArg (fun z => Ending.returned (Value.bool z)) (Eq.trans ?_ hR.out.symm), rfl⟩
          exact (all_no Hd.out HP.out).symm
        · go_roundw
          case rel =>
            go_light
            exact ⟨trivial, i + 1, by omega, by go_num, all_snoc Hd.out hall.out HP.out⟩
          case measure => simp [intOf]; omega
      · have hin : i = n := by omega
        have hall2 : l.all plain = true := by have := hall.out; rw [hin, ← Hn.out, List.take_length] at this; exact this
        clear hin
        go_wp2_with fail
        go_ret
        refine ⟨congrArg (fun z => Ending.returned (Value.bool z)) (Eq.trans ?_ hR.out.symm), rfl⟩
        rw [hall2]
end Go.Proofs.YtngehkmdanhgpaaGreat.Vp
namespace Go.Proofs.YtngehkmdanhgpaaGreat.Vp
open Go.RowKit
/-- what stands ahead of the first stroke, what behind it, whether there is one -/
def cutS : Str → Str × Str × Bool
  | [] => ([], [], false)
  | c :: r => if c = 47 then ([], r, true) else (c :: (cutS r).1, (cutS r).2.1, (cutS r).2.2)
/-- what stands between the strokes, from the left, empty pieces too -/
def piecesS : Str → List Str
  | [] => [[]]
  | c :: r => if c = 47 then [] :: piecesS r else match piecesS r with
    | [] => [[c]]
    | p :: ps => (c :: p) :: ps
theorem pieces_cut (x : Str) : piecesS x = if (cutS x).2.2 then (cutS x).1 :: piecesS (cutS x).2.1 else [(cutS x).1] := by
  induction x with
  | nil => rfl
  | cons c r ih =>
    by_cases h : c = 47
    · simp [piecesS, cutS, h]
    · have e1 : piecesS (c :: r) = match piecesS r with | [] => [[c]] | p :: ps => (c :: p) :: ps := by rw [piecesS, if_neg h]
      have e2 : cutS (c :: r) = (c :: (cutS r).1, (cutS r).2.1, (cutS r).2.2) := by rw [cutS, if_neg h]
      rw [e1, e2, ih]
      by_cases h2 : (cutS r).2.2 = true
      · simp [h2]
      · simp [h2]
theorem cut_short (x : Str) (h : (cutS x).2.2 = true) : (cutS x).2.1.length < x.length := by
  induction x with
  | nil => simp [cutS] at h
  | cons c r ih =>
    unfold cutS at h ⊢
    by_cases h2 : c = 47
    · simp [h2]
    · simp only [h2, if_false] at h ⊢
      have := ih h
      simp; omega
theorem idx_cases (x : Str) : (Lib.indexByte x 47 = -1 ∧ cutS x = (x, [], false)) ∨ ∃ i : Nat, Lib.indexByte x 47 = (i : Int) ∧ i < x.length ∧ cutS x = (x.take i, x.drop (i + 1), true) := by
  induction x with
  | nil => exact .inl ⟨rfl, rfl⟩
  | cons c r ih =>
    unfold Lib.indexByte cutS
    by_cases h : c = 47
    · exact .inr ⟨0, by simp [h], by simp, by simp [h]⟩
    · rcases ih with ⟨h1, h2⟩ | ⟨i, h1, hi, h2⟩
      · exact .inl ⟨by simp [h, h1], by simp [h, h2]⟩
      · refine .inr ⟨i + 1, ?_, by simp; omega, by simp [h, h2]⟩
        rw [h1]
        have : ¬ ((i : Int) = -1) := by omega
        simp [h, this]
theorem extract_B (x : Str) (a b : Nat) : (B x).extract a b = B ((x.take b).drop a) := by
  refine ByteArray.ext ?_
  rw [ByteArray.data_extract]
  apply Array.toList_inj.1
  simp [B, List.drop_take]
set_option maxHeartbeats 400000 in
set_option maxRecDepth 100000 in
theorem indexByte_any (s : ByteArray) (c : Int) (w : World) : Calls Tryz.prog 147 #[.string s, .int .u8 c] w fun e w' => e = .returned (.int .i64 (Lib.indexByte s.data.toList c.toNat.toUInt8)) ∧ w' = w := by
  go_enter Tryz.func147, Tryz.ntmps147
  go_wp2
  rw [run_callFunc_extern Tryz.func151 (by kernel_rfl) (by kernel_rfl) (by kernel_rfl) (e := Extern.BytealgIndexByte.indexByte) (by kernel_rfl), Lib.run_indexByteString]
  simp only [Result.andThen]
  rw [Oper.upon_value]
  go_wp2
  go_ret
  exact ⟨rfl, rfl⟩
set_option maxHeartbeats 2000000 in
set_option maxRecDepth 100000 in
theorem index_any (x : Str) (w : World) : Calls Tryz.prog 144 #[.string (B x), .string ⟨#[47]⟩] w fun e w' => e = .returned (.int .i64 (Lib.indexByte x 47)) ∧ w' = w := by
  have hT := toL x
  have hD : (B x).data.toList = x := bl_B x
  obtain ⟨K, hK⟩ : ∃ K, Hid (K = Lib.indexByte x 47) := ⟨_, rfl⟩
  rw [← hK.out]
  have hC := indexByte_any (B x) 47
  rw [hD, show (47 : Int).toNat.toUInt8 = 47 from rfl, ← hK.out] at hC
  generalize B x = s at hT hC ⊢
  clear hD
  have HC := hid_in hC
  have HT := hid_in hT
  clear hC hT
  go_enter Tryz.func144, Tryz.ntmps144
  go_wp2_with (go_at_call 147; refine (HC.out _).mono ?_; rintro e w' ⟨rfl, hw⟩; obtain rfl := hw.symm)
  · have h : ([47] == s.toList) = true := by assumption
    go_ret
    refine ⟨congrArg (fun z => Ending.returned (Value.int .i64 z)) (Eq.trans ?_ hK.out.symm), rfl⟩
    have e : x = [47] := by rw [← HT.out]; exact (beq_iff_eq.1 h).symm
    rw [e]; rfl
  · go_ret
    exact ⟨rfl, rfl⟩
set_option maxHeartbeats 1000000 in
set_option maxRecDepth 100000 in
theorem lcut_any (x : Str) (hx : x.length ≤ 4294967296) (w : World) : Calls Tryz.prog 134 #[.string (B x), .string ⟨#[47]⟩] w fun e w' => e = .returned (.tuple #[.string (B (cutS x).1), .string (B (cutS x).2.1), .bool (cutS x).2.2]) ∧ ∃ n, w' = w.drewN n := by
  have hI := index_any x
  have hsz : (B x).size = x.length := B_size x
  rcases idx_cases x with ⟨h1, h2⟩ | ⟨i, h1, hi, h2⟩
  · rw [h1] at hI
    rw [h2]
    have HI := hid_in hI
    clear hI
    go_enter Tryz.func134, Tryz.ntmps134
    go_wp2_with (go_at_call 144; refine (HI.out _).mono ?_; rintro e w' ⟨rfl, hw⟩; obtain rfl := hw.symm)
    go_ret3
    exact ⟨rfl, 0, rfl⟩
  · rw [h1] at hI
    have e1 : (B x).extract 0 i = B (x.take i) := by rw [extract_B]; simp
    have e2 : (B x).extract (i + 1) x.length = B (x.drop (i + 1)) := by rw [extract_B]; simp
    rw [h2]
    have HI := hid_in hI
    have E1 := hid_in e1
    have E2 := hid_in e2
    have c2 : (i : Int) ≤ ((B x).size : Int) := by omega
    have c4 : (i : Int) + 1 ≤ ((B x).size : Int) := by omega
    clear hI h1 h2 e1 e2
    show Calls Tryz.prog 134 #[.string (B x), .string ⟨#[47]⟩] w fun e w' => e = .returned (.tuple #[.string (B (x.take i)), .string (B (x.drop (i + 1))), .bool true]) ∧ ∃ n, w' = w.drewN n
    generalize B x = s at hsz HI E1 E2 c2 c4 ⊢
    generalize x.length = n at *
    go_enter Tryz.func134, Tryz.ntmps134
    go_wp2_with (go_at_call 144; refine (HI.out _).mono ?_; rintro e w' ⟨rfl, hw⟩; obtain rfl := hw.symm)
    go_region
    go_wp2
    go_ret3
    refine ⟨?_, 1, rfl⟩
    simp [E1.out, E2.out]
set_option maxHeartbeats 1000000 in
set_option maxRecDepth 100000 in
theorem cut_any (x : Str) (hx : x.length ≤ 4294967296) (w : World) : Calls Tryz.prog 117 #[.string (B x), .string ⟨#[47]⟩] w fun e w' => e = .returned (.tuple #[.string (B (cutS x).1), .string (B (cutS x).2.1), .bool (cutS x).2.2]) ∧ ∃ n, w' = w.drewN n := by
  have hI := lcut_any x hx
  have HI := hid_in hI
  clear hI
  go_enter Tryz.func117, Tryz.ntmps117
  go_wp2_with (go_at_call 134; refine (HI.out _).mono ?_; rintro e w' ⟨rfl, n, hw⟩; obtain rfl := hw)
  go_ret3
  exact ⟨rfl, n, rfl⟩
end Go.Proofs.YtngehkmdanhgpaaGreat.Vp
namespace Go.Proofs.YtngehkmdanhgpaaGreat.Vp
open Go.RowKit Go.Shelf
attribute [local go_sem] Oper.semAt_some
theorem grown_drewN (W : World) (m : Nat) : W.grownBy (W.drewN m) none :=
  ⟨(below_drewN (Below.refl 0 W) m).os, (below_drewN (Below.refl 0 W) m).tape, (below_drewN (Below.refl 0 W) m).output, (below_drewN (Below.refl 0 W) m).size, fun k _ _ => by simp⟩
def leftOf (v : Value) : Value → Nat
  | .bool true => (match v with | .string s => (bl s).length | _ => 0) + 1
  | _ => 0
set_option maxHeartbeats 1000000 in
theorem pieces_in (x : Str) (w : World) : CallsIn Fence.wide 3 Tryz.prog 85 #[.string (B x)] w fun e w' => e = .returned (.func (.func 116) #[] #[.pointer (some ⟨w.heap.size, 0, none⟩)]) ∧ w' = w.alloc (.cells #[.string (B x)] 9) := by
  refine callsIn_of_wp Tryz.func85 rfl trivial ?_ rfl
  simp only [Tryz.ntmps85, List.size_toArray, List.length_cons, List.length_nil, Nat.reduceAdd, Nat.reduceSub, Array.replicate_succ, Array.replicate_zero, List.push_toArray, List.append_toArray, List.nil_append, List.cons_append]
  gi_wp2
  go_ret
  exact ⟨rfl, rfl⟩
set_option maxRecDepth 100000 in
set_option maxHeartbeats 1000000 in
theorem pieces1_in (n : Nat) (hn : 1 ≤ n) (l Bn : Nat) (x : Str) (hx : x.length ≤ 4294967296) (J Jx : List Str → World → Prop)
    (hJd : ∀ s W m, J s W → J s (World.drewN W m))
    (hY : ∀ pre p W, J pre W → pre.length < (piecesS x).length → YieldAt Fence.wide (n - 1) Tryz.prog l #[.string (B p)] W fun e W' =>
      (e = .returned (.bool true) ∧ J (pre ++ [p]) W' ∧ True) ∨ (e = .returned (.bool false) ∧ Jx (pre ++ [p]) W'))
    (W : World) (hBn : W.cell? ⟨Bn, 0, none⟩ = some (.string (B x))) (h0 : J [] W) :
    CallsIn Fence.wide n Tryz.prog 116 #[.func (.yield l) #[] #[], .pointer (some ⟨Bn, 0, none⟩)] W fun e W' => (∃ v, e = .returned v) ∧
      ((∃ ys, ys = piecesS x ∧ J ys W') ∨ (∃ pre, pre <+: piecesS x ∧ Jx pre W')) := by
  refine callsIn_of_wp Tryz.func116 rfl trivial ?_ rfl
  simp only [Tryz.ntmps116, List.size_toArray, List.length_cons, List.length_nil, Nat.reduceAdd, Nat.reduceSub, Array.replicate_succ, Array.replicate_zero, List.push_toArray, List.append_toArray, List.nil_append, List.cons_append]
  have HY := hid_in hY
  have HJd := hid_in hJd
  clear hY hJd
  gi_wp2
  gi_loopw [3, 4] (fun v3 v4 wr => (∃ (pre : List Str) (y : Str), v3 = .string (B y) ∧ v4 = .bool true ∧ y.length ≤ 4294967296 ∧ Hid (piecesS x = pre ++ piecesS y) ∧ J pre wr) ∨ (v4 = .bool false ∧ J (piecesS x) wr))
    (fun v3 v4 _ => leftOf v3 v4)
  case atStart =>
    exact .inl ⟨[], x, rfl, rfl, hx, rfl, h0⟩
  case round =>
    rcases hrel with ⟨pre, y, rfl, rfl, hy, hp, hJs⟩ | ⟨rfl, hJs⟩
    · have hC := hid_in (cut_any y hy)
      have HP := hid_in (pieces_cut y)
      have HL := hid_in (cut_short y)
      generalize cutS y = t at hC HP HL
      obtain ⟨c, r, b⟩ := t
      simp only at HP
      gi_wp2_with (refine ⟨trivial, ?_⟩; gi_at_call 117; refine (callsIn_wide.2 (hC.out _)).mono ?_; rintro e w' ⟨rfl, m, hw⟩; obtain rfl := hw)
      have hpre : (pre ++ [c]) <+: piecesS x := by
        rw [hp.out, HP.out]
        cases b
        · exact ⟨[], by simp⟩
        · exact ⟨piecesS r, by simp⟩
      obtain ⟨fn, tmps, assign, body, hy2, hR⟩ := HY.out pre c (wr.drewN m) (HJd.out _ _ _ hJs) (by have := hpre.length_le; simp at this; omega)
      have HPRE := hid_in hpre
      clear hpre
      rw [hy2]
      gi_wp2
      refine hR.mono ?_
      rintro e W3 (⟨rfl, hJ3, _⟩ | ⟨rfl, hJx3⟩)
      · gi_wp2
        go_roundw
        case rel =>
          cases b
          · refine .inr ⟨rfl, ?_⟩
            rw [hp.out, HP.out]; exact hJ3
          · refine .inl ⟨pre ++ [c], r, rfl, rfl, ?_, ?_, hJ3⟩
            · have := HL.out rfl; omega
            · show _ = _
              rw [hp.out, HP.out]; simp
        case measure =>
          cases b
          · simp [leftOf]
          · have := HL.out rfl
            simp [leftOf, bl_B]; omega
      · gi_wp2
        refine bodyPost_ret (results_none rfl _ _ _) rfl ?_
        exact ⟨⟨_, rfl⟩, .inr ⟨pre ++ [c], HPRE.out, hJx3⟩⟩
    · gi_wp2
      go_end0
      exact ⟨⟨_, rfl⟩, .inl ⟨_, rfl, hJs⟩⟩
theorem pieces_stops (n : Nat) (hn : 1 ≤ n) (Bn : Nat) (x : Str) (hx : x.length ≤ 4294967296) (w : World) (hb : Bn < w.heap.size) (hc : w.cell? ⟨Bn, 0, none⟩ = some (.string (B x))) :
    SeqStopsK Fence.wide n Tryz.prog 116 #[.pointer (some ⟨Bn, 0, none⟩)] (fun p : Str => #[Value.string (B p)]) (fun _ _ => True) (fun ys => ys = piecesS x) (fun pre => pre <+: piecesS x) (piecesS x).length w := fun l J Jx W hW hJ _ hY h0 =>
  pieces1_in n hn l Bn x hx J Jx (fun s W m h => hJ s W _ none h (grown_drewN W m) (fun r e => by cases e)) hY W ((hW.cell (p := ⟨Bn, 0, none⟩) hb).trans hc) h0
end Go.Proofs.YtngehkmdanhgpaaGreat.Vp
