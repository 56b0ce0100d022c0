/-
  The pieces of a text: what stands between its strokes. The walk of strings.Cut at one stroke.
-/
import Derived.Test.YtodfdinocnhaoaaA1
import Derived.Lib.Bytealg
import Derived.Lib.Walk
import Derived.Laws.Strings3
import Derived.Deep.Draws
import Derived.BigCall
import Derived.BigGuard
namespace Go.Proofs.Ytodfdinocnhaoaa
open Go.RowKit

/-- what stands ahead of the first stroke, what behind it, whether there is one -/
def cutS : Str → Str × Str × Bool
  | [] => ([], [], false)
  | c :: r => if c = 47 then ([], r, true) else (c :: (cutS r).1, (cutS r).2.1, (cutS r).2.2)
/-- what stands between the strokes, from the left, empty pieces too -/
def piecesS : Str → List Str
  | [] => [[]]
  | c :: r => if c = 47 then [] :: piecesS r else match piecesS r with
    | [] => [[c]]
    | p :: ps => (c :: p) :: ps
theorem pieces_cut (x : Str) : piecesS x = if (cutS x).2.2 then (cutS x).1 :: piecesS (cutS x).2.1 else [(cutS x).1] := by
  induction x with
  | nil => rfl
  | cons c r ih =>
    by_cases h : c = 47
    · simp [piecesS, cutS, h]
    · have e1 : piecesS (c :: r) = match piecesS r with | [] => [[c]] | p :: ps => (c :: p) :: ps := by rw [piecesS, if_neg h]
      have e2 : cutS (c :: r) = (c :: (cutS r).1, (cutS r).2.1, (cutS r).2.2) := by rw [cutS, if_neg h]
      rw [e1, e2, ih]
      by_cases h2 : (cutS r).2.2 = true
      · simp [h2]
      · simp [h2]
theorem cut_short (x : Str) (h : (cutS x).2.2 = true) : (cutS x).2.1.length < x.length := by
  induction x with
  | nil => simp [cutS] at h
  | cons c r ih =>
    unfold cutS at h ⊢
    by_cases h2 : c = 47
    · simp [h2]
    · simp only [h2, if_false] at h ⊢
      have := ih h
      simp; omega
theorem idx_cases (x : Str) : (Lib.indexByte x 47 = -1 ∧ cutS x = (x, [], false)) ∨ ∃ i : Nat, Lib.indexByte x 47 = (i : Int) ∧ i < x.length ∧ cutS x = (x.take i, x.drop (i + 1), true) := by
  induction x with
  | nil => exact .inl ⟨rfl, rfl⟩
  | cons c r ih =>
    unfold Lib.indexByte cutS
    by_cases h : c = 47
    · exact .inr ⟨0, by simp [h], by simp, by simp [h]⟩
    · rcases ih with ⟨h1, h2⟩ | ⟨i, h1, hi, h2⟩
      · exact .inl ⟨by simp [h, h1], by simp [h, h2]⟩
      · refine .inr ⟨i + 1, ?_, by simp; omega, by simp [h, h2]⟩
        rw [h1]
        have : ¬ ((i : Int) = -1) := by omega
        simp [h, this]
theorem extract_B (x : Str) (a b : Nat) : (B x).extract a b = B ((x.take b).drop a) := by
  refine ByteArray.ext ?_
  rw [ByteArray.data_extract]
  apply Array.toList_inj.1
  simp [B, List.drop_take]

set_option maxHeartbeats 400000 in
set_option maxRecDepth 100000 in
theorem indexByte_any (s : ByteArray) (c : Int) (w : World) : Calls Try.prog 46 #[.string s, .int .u8 c] w fun e w' => e = .returned (.int .i64 (Lib.indexByte s.data.toList c.toNat.toUInt8)) ∧ w' = w := by
  go_enter Try.func46, Try.ntmps46
  go_wp2
  rw [run_callFunc_extern Try.func50 (by kernel_rfl) (by kernel_rfl) (by kernel_rfl) (e := Extern.BytealgIndexByte.indexByte) (by kernel_rfl), Lib.run_indexByteString]
  simp only [Result.andThen]
  rw [Oper.upon_value]
  go_wp2
  go_ret
  exact ⟨rfl, rfl⟩

set_option maxHeartbeats 2000000 in
set_option maxRecDepth 100000 in
theorem index_any (x : Str) (w : World) : Calls Try.prog 43 #[.string (B x), .string ⟨#[47]⟩] w fun e w' => e = .returned (.int .i64 (Lib.indexByte x 47)) ∧ w' = w := by
  have hT := toL x
  have hD : (B x).data.toList = x := bl_B x
  obtain ⟨K, hK⟩ : ∃ K, Hid (K = Lib.indexByte x 47) := ⟨_, rfl⟩
  rw [← hK.out]
  have hC := indexByte_any (B x) 47
  rw [hD, show (47 : Int).toNat.toUInt8 = 47 from rfl, ← hK.out] at hC
  generalize B x = s at hT hC ⊢
  clear hD
  have HC := hid_in hC
  have HT := hid_in hT
  clear hC hT
  go_enter Try.func43, Try.ntmps43
  go_wp2_with (go_at_call 46; refine (HC.out _).mono ?_; rintro e w' ⟨rfl, hw⟩; obtain rfl := hw.symm)
  · have h : ([47] == s.toList) = true := by assumption
    go_ret
    refine ⟨congrArg (fun z => Ending.returned (Value.int .i64 z)) (Eq.trans ?_ hK.out.symm), rfl⟩
    have e : x = [47] := by rw [← HT.out]; exact (beq_iff_eq.1 h).symm
    rw [e]; rfl
  · go_ret
    exact ⟨rfl, rfl⟩

set_option maxHeartbeats 1000000 in
set_option maxRecDepth 100000 in
theorem lcut_any (x : Str) (hx : x.length ≤ 4294967296) (w : World) : Calls Try.prog 39 #[.string (B x), .string ⟨#[47]⟩] w fun e w' => e = .returned (.tuple #[.string (B (cutS x).1), .string (B (cutS x).2.1), .bool (cutS x).2.2]) ∧ ∃ n, w' = w.drewN n := by
  have hI := index_any x
  have hsz : (B x).size = x.length := B_size x
  rcases idx_cases x with ⟨h1, h2⟩ | ⟨i, h1, hi, h2⟩
  · rw [h1] at hI
    rw [h2]
    have HI := hid_in hI
    clear hI
    go_enter Try.func39, Try.ntmps39
    go_wp2_with (go_at_call 43; refine (HI.out _).mono ?_; rintro e w' ⟨rfl, hw⟩; obtain rfl := hw.symm)
    go_ret3
    exact ⟨rfl, 0, rfl⟩
  · rw [h1] at hI
    have e1 : (B x).extract 0 i = B (x.take i) := by rw [extract_B]; simp
    have e2 : (B x).extract (i + 1) x.length = B (x.drop (i + 1)) := by rw [extract_B]; simp
    rw [h2]
    have HI := hid_in hI
    have E1 := hid_in e1
    have E2 := hid_in e2
    have c2 : (i : Int) ≤ ((B x).size : Int) := by omega
    have c4 : (i : Int) + 1 ≤ ((B x).size : Int) := by omega
    clear hI h1 h2 e1 e2
    show Calls Try.prog 39 #[.string (B x), .string ⟨#[47]⟩] w fun e w' => e = .returned (.tuple #[.string (B (x.take i)), .string (B (x.drop (i + 1))), .bool true]) ∧ ∃ n, w' = w.drewN n
    generalize B x = s at hsz HI E1 E2 c2 c4 ⊢
    generalize x.length = n at *
    go_enter Try.func39, Try.ntmps39
    go_wp2_with (go_at_call 43; refine (HI.out _).mono ?_; rintro e w' ⟨rfl, hw⟩; obtain rfl := hw.symm)
    go_region
    go_wp2
    go_ret3
    refine ⟨?_, 1, rfl⟩
    simp [E1.out, E2.out]

set_option maxHeartbeats 1000000 in
set_option maxRecDepth 100000 in
theorem cut_any (x : Str) (hx : x.length ≤ 4294967296) (w : World) : Calls Try.prog 34 #[.string (B x), .string ⟨#[47]⟩] w fun e w' => e = .returned (.tuple #[.string (B (cutS x).1), .string (B (cutS x).2.1), .bool (cutS x).2.2]) ∧ ∃ n, w' = w.drewN n := by
  have hI := lcut_any x hx
  have HI := hid_in hI
  clear hI
  go_enter Try.func34, Try.ntmps34
  go_wp2_with (go_at_call 39; refine (HI.out _).mono ?_; rintro e w' ⟨rfl, n, hw⟩; obtain rfl := hw)
  go_ret3
  exact ⟨rfl, n, rfl⟩
end Go.Proofs.Ytodfdinocnhaoaa
