/-
  The program's readers at fields that were written, whole and cut off.
-/
import Derived.Test.YtjaplfdcdokhfaaB0
import Derived.Test.YtjaplfdcdokhfaaU14
namespace Go.Proofs.Ytjaplfdcdokhfaa
open Go.RowKit

theorem InIs.lt {w : World} {g e : Nat} {bs : List Nat} (h : InIs w g bs e) : ∀ x ∈ bs, x < 256 := by
  obtain ⟨_, _, _, _, _, hsl, _⟩ := h.ex
  exact hsl.lt
/-- a reader: what it leaves, and what is wrong -/
structure Rdr (f : Nat) (xa : List Value) (val : List Nat → Value) (rd : List Nat → List Nat × Nat) : Prop where
  any : ∀ w gi bs, InIs w gi bs 0 → Calls Try.prog f (.pointer (some ⟨gi, 0, none⟩) :: xa).toArray w fun r w' => r = .returned (val bs) ∧ InIs w' gi (rd bs).1 (rd bs).2 ∧ Grew w w' (· = gi)
  bad : ∀ w gi, InIs w gi [] 20 → Calls Try.prog f (.pointer (some ⟨gi, 0, none⟩) :: xa).toArray w fun r w' => (∃ v, r = .returned v) ∧ InIs w' gi [] 20 ∧ Grew w w' (· = gi)
theorem rdr_num : Rdr 17 [] (fun bs => .int .u64 ((Wire.rnum bs).1 : Int)) (fun bs => (Wire.rnum bs).2) :=
  ⟨fun w gi bs h => (inum_any w gi bs h.lt h).mono (by rintro r w' ⟨rfl, h1, h2, _⟩; exact ⟨rfl, h1, grew_one h2⟩),
   fun w gi h => (inum_bad w gi 20 [] (by decide) h).mono (by rintro r w' ⟨rfl, rfl⟩; exact ⟨⟨_, rfl⟩, h, Grew.refl _ _⟩)⟩
theorem rdr_int : Rdr 23 [] (fun bs => .int .i64 (Wire.unzz (Wire.rnum bs).1)) (fun bs => (Wire.rnum bs).2) :=
  ⟨fun w gi bs h => iint_of w gi _ (rnum_lt bs) (fun w' => InIs w' gi (Wire.rnum bs).2.1 (Wire.rnum bs).2.2 ∧ Grew w w' (· = gi)) (rdr_num.any w gi bs h),
   fun w gi h => (iint_of w gi 0 (by decide) (fun w' => w' = w) (inum_bad w gi 20 [] (by decide) h)).mono (by rintro r w' ⟨rfl, rfl⟩; exact ⟨⟨_, rfl⟩, h, Grew.refl _ _⟩)⟩
theorem rdr_text (M : Nat) (hM : M ≤ 9223372036854775807) : Rdr 18 [.int .i64 (M : Int)] (fun bs => .string (str (Wire.rtext (M : Int) bs).1)) (fun bs => (Wire.rtext (M : Int) bs).2) :=
  ⟨fun w gi bs h => (itext_any w gi bs M (by omega) (by omega) h.lt h).mono (by rintro r w' ⟨rfl, h1, h2, _⟩; exact ⟨rfl, h1, grew_one h2⟩),
   fun w gi h => (itext_bad w gi 20 [] M (by omega) (by omega) (by decide) h).mono (by rintro r w' ⟨rfl, rfl⟩; exact ⟨⟨_, rfl⟩, h, Grew.refl _ _⟩)⟩
theorem rdr_flag : Rdr 19 [] (fun bs => .bool (Wire.rflag bs).1) (fun bs => (Wire.rflag bs).2) :=
  ⟨fun w gi bs h => (iflag_any w gi bs h.lt h).mono (by rintro r w' ⟨rfl, h1, h2, _⟩; exact ⟨rfl, h1, grew_one h2⟩),
   fun w gi h => (iflag_bad w gi 20 [] (by decide) h).mono (by rintro r w' ⟨rfl, rfl⟩; exact ⟨⟨_, rfl⟩, h, Grew.refl _ _⟩)⟩
theorem rdr_dig : Rdr 24 [] (fun bs => .agg ((Wire.rdigest bs).1.map u8v).toArray) (fun bs => (Wire.rdigest bs).2) :=
  ⟨fun w gi bs h => by
    unfold Wire.rdigest
    by_cases hs : bs.length < 32
    · simp only [if_pos hs]
      exact idigest_short w gi bs hs h
    · simp only [if_neg hs]
      exact idigest_some w gi bs (by omega) h,
   fun w gi h => (idigest_bad w gi 20 [] (by decide) h).mono (by rintro r w' ⟨rfl, hb⟩; exact ⟨⟨_, rfl⟩, h.below hb, Grew.of_below _ hb⟩)⟩
/-- a reader that reads a field's bytes back, and is short where they are cut off -/
structure Fits (val : List Nat → Value) (rd : List Nat → List Nat × Nat) (fb : List Nat) (v : Value) : Prop where
  val : ∀ r, val (fb ++ r) = v
  rest : ∀ r, rd (fb ++ r) = (r, 0)
  cut : ∀ j, j < fb.length → rd (fb.take j) = ([], 20)
theorem fits_num (N : Nat) (S : ByteArray) (hN : N < 18446744073709551616) : Fits (fun bs => .int .u64 ((Wire.rnum bs).1 : Int)) (fun bs => (Wire.rnum bs).2) (fbytes 0 N S) (.int .u64 (N : Int)) := by
  have e : fbytes 0 N S = Wire.num N := by unfold fbytes; rw [if_pos rfl]
  rw [e]
  exact ⟨fun r => by simp only [rnum_num N r hN], fun r => by simp only [rnum_num N r hN], fun j hj => by simp only [rnum_cut N j hN hj]⟩
theorem fits_int (N : Nat) (S : ByteArray) : Fits (fun bs => .int .i64 (Wire.unzz (Wire.rnum bs).1)) (fun bs => (Wire.rnum bs).2) (fbytes 1 N S) (.int .i64 (wrap64 (N : Int))) := by
  have e : fbytes 1 N S = Wire.num (Wire.zz (wrap64 (N : Int))) := by unfold fbytes; rw [if_neg (by decide), if_pos rfl]
  obtain ⟨h1, h2⟩ := wrap64_bounds (N : Int)
  have hz := zz_lt _ h1 h2
  rw [e]
  exact ⟨fun r => by simp only [rnum_num _ r hz, unzz_zz _ h1 h2], fun r => by simp only [rnum_num _ r hz], fun j hj => by simp only [rnum_cut _ j hz hj]⟩
theorem fits_text (N : Nat) (S : ByteArray) (hS : S.size < 18446744073709551616) : Fits (fun bs => .string (str (Wire.rtext (S.size : Int) bs).1)) (fun bs => (Wire.rtext (S.size : Int) bs).2) (fbytes 2 N S) (.string S) := by
  have e : fbytes 2 N S = Wire.num S.size ++ bytesS S := by unfold fbytes; rw [if_neg (by decide), if_neg (by decide), if_pos rfl]
  rw [e]
  exact ⟨fun r => by simp only [rtext_back S r hS, str_bytesS], fun r => by simp only [rtext_back S r hS], fun j hj => by simp only [rtext_cut S j hS hj]⟩
theorem fits_flag (N : Nat) (S : ByteArray) : Fits (fun bs => .bool (Wire.rflag bs).1) (fun bs => (Wire.rflag bs).2) (fbytes 3 N S) (.bool (N % 2 == 1)) := by
  have e : fbytes 3 N S = [if N % 2 == 1 then 1 else 0] := by unfold fbytes; rw [if_neg (by decide), if_neg (by decide), if_neg (by decide), if_pos rfl]
  rw [e]
  by_cases h : N % 2 = 1
  · have h' : (N % 2 == 1) = true := by simpa using h
    rw [h']
    exact ⟨fun r => by simp [Wire.rflag], fun r => by simp [Wire.rflag], fun j hj => by simp at hj; subst hj; simp [Wire.rflag]⟩
  · have h' : (N % 2 == 1) = false := by simpa using h
    rw [h']
    exact ⟨fun r => by simp [Wire.rflag], fun r => by simp [Wire.rflag], fun j hj => by simp at hj; subst hj; simp [Wire.rflag]⟩
theorem fits_dig (N : Nat) (S : ByteArray) : Fits (fun bs => .agg ((Wire.rdigest bs).1.map u8v).toArray) (fun bs => (Wire.rdigest bs).2) (fbytes 4 N S) (.agg ((fold (bytesS S)).map u8v).toArray) := by
  have e : fbytes 4 N S = fold (bytesS S) := by unfold fbytes; rw [if_neg (by decide), if_neg (by decide), if_neg (by decide), if_neg (by decide)]
  have hl := fold_length (bytesS S)
  rw [e]
  have hd : ∀ r, Wire.rdigest (fold (bytesS S) ++ r) = (fold (bytesS S), r, 0) := fun r => by
    unfold Wire.rdigest
    rw [if_neg (by rw [List.length_append]; omega), List.take_append_of_le_length (by omega), List.take_of_length_le (by omega), List.drop_append_of_le_length (by omega), List.drop_of_length_le (by omega), List.nil_append]
  exact ⟨fun r => by simp only [hd r], fun r => by simp only [hd r], fun j hj => by
    unfold Wire.rdigest
    rw [if_pos (by rw [List.length_take]; omega)]⟩
/-- a field is read back -/
theorem back_step {f : Nat} {xa : List Value} {val : List Nat → Value} {rd : List Nat → List Nat × Nat} {fb : List Nat} {v : Value} (hr : Rdr f xa val rd) (hf : Fits val rd fb v) {w : World} {gi : Nat} {rest : List Nat} (hi : InIs w gi (fb ++ rest) 0) :
    Calls Try.prog f (.pointer (some ⟨gi, 0, none⟩) :: xa).toArray w fun r w' => r = .returned v ∧ InIs w' gi rest 0 ∧ Grew w w' (· = gi) := by
  have h := hr.any w gi _ hi
  rw [hf.val rest, hf.rest rest] at h
  exact h
/-- the In has the bytes of these fields, cut off; or it is known to be short -/
def Cut (w : World) (gi : Nat) (fs : List Fld) : Prop := (∃ c, InIs w gi ((fieldsB fs).take c) 0 ∧ c < (fieldsB fs).length) ∨ InIs w gi [] 20
theorem cut_step {f : Nat} {xa : List Value} {val : List Nat → Value} {rd : List Nat → List Nat × Nat} {v : Value} {fd : Fld} {fs : List Fld} (hr : Rdr f xa val rd) (hf : Fits val rd fd.bytes v) {w : World} {gi : Nat} (hi : Cut w gi (fd :: fs)) :
    Calls Try.prog f (.pointer (some ⟨gi, 0, none⟩) :: xa).toArray w fun r w' => (∃ v, r = .returned v) ∧ Cut w' gi fs ∧ Grew w w' (· = gi) := by
  have eF : fieldsB (fd :: fs) = fd.bytes ++ fieldsB fs := by simp [fieldsB]
  unfold Cut at hi
  rw [eF, List.length_append] at hi
  rcases hi with ⟨c, hi, hc⟩ | hi
  · by_cases hl : c < fd.bytes.length
    · rw [List.take_append_of_le_length (by omega)] at hi
      have h := hr.any w gi _ hi
      rw [hf.cut c hl] at h
      refine h.mono ?_
      rintro r w' ⟨rfl, h1, h2⟩
      exact ⟨⟨_, rfl⟩, .inr h1, h2⟩
    · rw [List.take_append, List.take_of_length_le (by omega)] at hi
      have h := hr.any w gi _ hi
      rw [hf.rest] at h
      refine h.mono ?_
      rintro r w' ⟨rfl, h1, h2⟩
      exact ⟨⟨_, rfl⟩, .inl ⟨_, h1, by omega⟩, h2⟩
  · refine (hr.bad w gi hi).mono ?_
    rintro r w' ⟨hv, h1, h2⟩
    exact ⟨hv, .inr h1, h2⟩
theorem fieldsB_drop {fs : List Fld} {i : Nat} {f : Fld} (h : fs[i]? = some f) : fieldsB (fs.drop i) = f.bytes ++ fieldsB (fs.drop (i + 1)) := by
  obtain ⟨hi, rfl⟩ := List.getElem?_eq_some_iff.1 h
  rw [List.drop_eq_getElem_cons hi]
  show (fs[i] :: fs.drop (i + 1)).flatMap Fld.bytes = _
  rw [List.flatMap_cons]
  rfl
end Go.Proofs.Ytjaplfdcdokhfaa
