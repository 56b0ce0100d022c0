/-
  A table's bytes are read as the table. Plain facts.
-/
import Derived.Deep.CutRange
import Derived.OwnWalk
import Derived.Laws.CopyOwn
import Derived.Laws.Tables
import Derived.Deep.RegionLaw
import Derived.Deep.DrawnRows
import Derived.Test.YtiijlnlkhpneaaaF00
import Derived.Test.YtiijlnlkhpneaaaF01
import Derived.Test.YtiijlnlkhpneaaaF02
import Derived.Test.YtiijlnlkhpneaaaF03
import Derived.Test.YtiijlnlkhpneaaaF04
import Derived.Test.YtiijlnlkhpneaaaF05
import Derived.Test.YtiijlnlkhpneaaaF06
import Derived.Test.YtiijlnlkhpneaaaF07
import Derived.Test.YtiijlnlkhpneaaaF08
import Derived.Test.YtiijlnlkhpneaaaF09
import Derived.Test.YtiijlnlkhpneaaaF10
import Derived.Test.YtiijlnlkhpneaaaF11
import Derived.Test.YtiijlnlkhpneaaaF12
import Derived.Test.YtiijlnlkhpneaaaF13
import Derived.Test.YtiijlnlkhpneaaaF14
import Derived.Test.YtiijlnlkhpneaaaF15
import Derived.Test.YtiijlnlkhpneaaaF16
import Derived.Test.YtiijlnlkhpneaaaF17
import Derived.Test.YtiijlnlkhpneaaaF18
import Derived.Test.YtiijlnlkhpneaaaF19
import Derived.Test.YtiijlnlkhpneaaaF20
import Derived.Test.YtiijlnlkhpneaaaF21
namespace Go.Proofs.Ytiijlnlkhpneaaa.Se
open Go.RowKit
open Nd (In Sta sNum sText sFlag sInt Grew str sNum_lt i64r bytesS okS)
theorem zz_lt (n : Int) (h : i64r n) : Nd.Wire.zz n < 18446744073709551616 := by
  obtain ⟨h1, h2⟩ := h
  unfold Nd.Wire.zz
  split <;> omega
theorem unzz_zz (n : Int) : Nd.Wire.unzz (Nd.Wire.zz n) = n := by
  unfold Nd.Wire.zz Nd.Wire.unzz
  by_cases h : 0 ≤ n
  · rw [if_pos h, if_pos (by omega)]
    omega
  · rw [if_neg h, if_neg (by omega)]
    omega
theorem zz_unzz (m : Nat) : Nd.Wire.zz (Nd.Wire.unzz m) = m := by
  unfold Nd.Wire.zz Nd.Wire.unzz
  by_cases h : m % 2 = 0
  · simp only [if_pos h]
    rw [if_pos (by omega)]
    omega
  · simp only [if_neg h]
    rw [if_neg (by omega)]
    omega
theorem unzz_ok (m : Nat) (h : m < 18446744073709551616) : i64r (Nd.Wire.unzz m) := by
  unfold i64r Nd.Wire.unzz
  split <;> omega
theorem sInt_int (n : Int) (hn : i64r n) (r : List Nat) : sInt (Nd.Wire.num (Nd.Wire.zz n) ++ r, 0) = (n, (r, 0)) := by
  unfold sInt
  rw [Nd.sNum_num _ r (zz_lt n hn)]
  simp only [unzz_zz]
theorem sFlag_flag (f : Bool) (r : List Nat) : sFlag ((if f then 1 else 0) :: r, 0) = (f, (r, 0)) := by
  cases f <;> rfl
/-- a seat's bytes are read as the seat -/
theorem sSeat_enc {x : Seat} (h : Enc1 x) (r : List Nat) : sSeat (encS x ++ r, 0) = (x, (r, 0)) := by
  obtain ⟨xc, xn, xa, xk, xr⟩ := x
  obtain ⟨h1, h2, h3, h4, h5, h6⟩ := h
  simp only at h1 h2 h3 h4 h5 h6
  obtain ⟨cn, rfl⟩ := Int.eq_ofNat_of_zero_le h1
  obtain ⟨nn, rfl⟩ := Int.eq_ofNat_of_zero_le h3
  have e : encS ⟨(cn : Int), (nn : Int), xa, xk, xr⟩ ++ r = Nd.Wire.num cn ++ (Nd.Wire.num nn ++ (Nd.Wire.num (Nd.Wire.zz xa) ++ ((if xk then 1 else 0) :: (Nd.Wire.num xr.size ++ bytesS xr ++ r)))) := by
    simp [encS]
  rw [e]
  unfold sSeat sCut
  simp only [Nd.sNum_num cn _ (by omega), Nd.sNum_num nn _ (by omega), sInt_int xa h5, sFlag_flag, Nd.sText_text 8192 xr r h6 (by decide), Nd.str_bytesS]
  rw [Nat.min_eq_left (by omega), Nat.min_eq_left (by omega)]
/-- a seat is put where none is, with room -/
theorem seat_put {room : Int} {P : List Seat} (hr : Right P) {i : Nat} (hi : P[i]? = some noSeat) {x : Seat} (hx : Right1 i x) (hn : x.number ≠ 0) (hs : (sumR (P.set i x) : Int) ≤ room) : seatE P x = 0 ∧ seatT room P x = P.set i x := by
  obtain ⟨xc, xn, xa, xk, xr⟩ := x
  have hi8 : i < 8 := by rw [← hr.len]; exact (List.getElem?_eq_some_iff.1 hi).1
  have hil : i < P.length := (List.getElem?_eq_some_iff.1 hi).1
  obtain ⟨hw, hk, hsh⟩ := hx
  simp only at hk hsh hn
  rcases hw with hw | ⟨hw1, hw2⟩
  · have : xn = 0 := congrArg Seat.number hw
    exact absurd this hn
  simp only at hw1 hw2
  subst hw2
  have hN : 1 ≤ xn ∧ xn ≤ 1099511627776 := of_decide_eq_true hw1
  have hC : isC ((i : Int) + 1) = true := decide_eq_true ⟨by omega, by omega⟩
  have e1 : ((i : Int) + 1 - 1).toNat = i := by omega
  have hg : P.getD i noSeat = noSeat := by rw [List.getD_eq_getElem?_getD, hi]; rfl
  have hlk : lookS P ((i : Int) + 1) xn = (1, ⟨#[]⟩) := by
    unfold lookS
    rw [hC, hw1, e1, hg]
    simp only [Bool.and_self, if_true]
    unfold seatSays
    rw [if_pos (by show (0 : Int) < xn; omega)]
  have hE : recE P ((i : Int) + 1) xn xr = 0 := by
    unfold recE
    rw [hlk]
    simp only
    rw [if_neg (by decide), if_pos trivial, if_neg (by omega)]
  have hT : recT room P ((i : Int) + 1) xn xa xr = P.set i ⟨(i : Int) + 1, xn, xa, true, xr⟩ := by
    unfold recT
    rw [if_pos hE, e1]
    refine mk_done ?_ _
    have h1 : sumR (P.set i ⟨(i : Int) + 1, xn, xa, true, xr⟩) = sumR (P.set i ⟨(i : Int) + 1, xn, xa, xk, xr⟩) := by
      unfold sumR
      rw [List.map_set, List.map_set]
    rw [h1]
    omega
  refine ⟨hE, ?_⟩
  unfold seatT
  simp only
  rw [hT]
  cases xk with
  | true => rfl
  | false =>
    obtain rfl := hk rfl
    simp only [Bool.false_eq_true, if_false]
    unfold forgT
    rw [hC, e1]
    simp only [if_true]
    rw [List.set_set, List.getD_eq_getElem?_getD, List.getElem?_set_self hil]
    rfl
/-- tables, from an offset on -/
def padT (pre : List Seat) (n : Nat) : List Seat := pre ++ List.replicate n noSeat
theorem sumR_app (a b : List Seat) : sumR (a ++ b) = sumR a + sumR b := by unfold sumR; simp
theorem sumR_pad : ∀ n, sumR (List.replicate n noSeat) = 0
  | 0 => rfl
  | n + 1 => by rw [List.replicate_succ, sumR_cons, sumR_pad n]; rfl
theorem pad_right {pre r : List Seat} (hr : Right (pre ++ r)) : Right (padT pre r.length) := by
  unfold padT
  refine ⟨?_, fun i s hi => ?_⟩
  · rw [← hr.len]
    simp
  · rcases Nat.lt_or_ge i pre.length with h | h
    · rw [List.getElem?_append_left h] at hi
      exact hr.at_ i s (by rw [List.getElem?_append_left h]; exact hi)
    · rw [List.getElem?_append_right h] at hi
      have := List.eq_of_mem_replicate (List.mem_of_getElem? hi)
      subst this
      exact ⟨.inl rfl, fun _ => rfl, by decide⟩
theorem readL_enc {room : Int} : ∀ (r pre : List Seat) (rest : List Nat), Right (pre ++ r) → (∀ s ∈ r.filter seated, Enc1 s) → (sumR (pre ++ r) : Int) ≤ room → readL (r.filter seated).length room (padT pre r.length) ((r.filter seated).flatMap encS ++ rest, 0) = (pre ++ r, 0)
  | [], pre, rest, _, _, _ => by
    unfold padT
    simp [readL]
  | a :: r, pre, rest, hr, he, hs => by
    have hap : pre ++ a :: r = (pre ++ [a]) ++ r := by simp
    have ih := fun h => readL_enc (room := room) r (pre ++ [a]) rest (by rw [← hap]; exact hr) h (by rw [← hap]; exact hs)
    rw [← hap] at ih
    have hat : (pre ++ a :: r)[pre.length]? = some a := by rw [List.getElem?_append_right (Nat.le_refl _)]; simp
    rw [List.filter_cons] at he ⊢
    rcases hr.from pre.length a hat with h1 | ⟨h1, h2⟩
    · rw [seated_no h1] at he ⊢
      simp only [Bool.false_eq_true, if_false] at he ⊢
      rw [← ih he]
      congr 1
      subst h1
      unfold padT
      rw [List.length_cons, List.replicate_succ]
      simp
    · have h3 : seated a = true := by simpa [seated] using h1
      rw [h3] at he ⊢
      simp only [if_true] at he ⊢
      have ih2 := ih (fun s hs => he s (by simp [hs]))
      rw [List.length_cons, List.flatMap_cons, List.append_assoc]
      have hP := pad_right hr
      have hpi : (padT pre (a :: r).length)[pre.length]? = some noSeat := by
        unfold padT
        rw [List.getElem?_append_right (Nat.le_refl _), List.length_cons, List.replicate_succ]
        simp
      have hps : (padT pre (a :: r).length).set pre.length a = padT (pre ++ [a]) r.length := by
        unfold padT
        rw [List.set_append_right _ _ (Nat.le_refl _), List.length_cons, List.replicate_succ]
        simp
      have hsum : (sumR ((padT pre (a :: r).length).set pre.length a) : Int) ≤ room := by
        rw [hps]
        unfold padT
        rw [sumR_app, sumR_pad]
        rw [hap, sumR_app] at hs
        omega
      obtain ⟨k1, k2⟩ := seat_put hP hpi (hr.at_ pre.length a hat) h1 hsum
      unfold readL
      rw [sSeat_enc (he a (by simp))]
      simp only
      rw [if_pos k1, k2, hps]
      exact ih2
/-- a table's bytes are read as the table -/
theorem readT_enc {rm : Nat} (h9 : rm ≤ 8192) {T : List Seat} (hr : Right T) (ha : AtOk T) (hs : (sumR T : Int) ≤ (rm : Int)) : readT (encT (rm : Int) (T.filter seated), 0) = some (rm, T) := by
  have e : encT (rm : Int) (T.filter seated) = Nd.Wire.num rm ++ (Nd.Wire.num (T.filter seated).length ++ ((T.filter seated).flatMap encS ++ [])) := by
    simp [encT]
  have h8 := filter_le8 hr
  have h1 := readL_enc (room := (rm : Int)) T [] [] hr (enc1_of hr ha) hs
  have hpad : padT [] T.length = noTab := by unfold padT noTab; rw [hr.len]; rfl
  rw [hpad] at h1
  rw [e]
  unfold readT sCut
  simp only [Nd.sNum_num rm _ (by omega), Nd.sNum_num (T.filter seated).length _ (by omega)]
  rw [Nat.min_eq_left (by omega), Nat.min_eq_left (by omega), if_pos h9, h1]
  rfl
end Go.Proofs.Ytiijlnlkhpneaaa.Se
