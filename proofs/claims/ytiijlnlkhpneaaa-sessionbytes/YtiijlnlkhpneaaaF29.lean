/-
  What the reference takes is what the program takes. Plain facts.
-/
import Derived.Deep.CutRange
import Derived.OwnWalk
import Derived.Laws.CopyOwn
import Derived.Laws.Tables
import Derived.Deep.RegionLaw
import Derived.Deep.DrawnRows
import Derived.Test.YtiijlnlkhpneaaaF00
import Derived.Test.YtiijlnlkhpneaaaF01
import Derived.Test.YtiijlnlkhpneaaaF02
import Derived.Test.YtiijlnlkhpneaaaF03
import Derived.Test.YtiijlnlkhpneaaaF04
import Derived.Test.YtiijlnlkhpneaaaF05
import Derived.Test.YtiijlnlkhpneaaaF06
import Derived.Test.YtiijlnlkhpneaaaF07
import Derived.Test.YtiijlnlkhpneaaaF08
import Derived.Test.YtiijlnlkhpneaaaF09
import Derived.Test.YtiijlnlkhpneaaaF10
import Derived.Test.YtiijlnlkhpneaaaF11
import Derived.Test.YtiijlnlkhpneaaaF12
import Derived.Test.YtiijlnlkhpneaaaF13
import Derived.Test.YtiijlnlkhpneaaaF14
import Derived.Test.YtiijlnlkhpneaaaF15
import Derived.Test.YtiijlnlkhpneaaaF16
import Derived.Test.YtiijlnlkhpneaaaF17
import Derived.Test.YtiijlnlkhpneaaaF18
import Derived.Test.YtiijlnlkhpneaaaF19
import Derived.Test.YtiijlnlkhpneaaaF20
import Derived.Test.YtiijlnlkhpneaaaF21
import Derived.Test.YtiijlnlkhpneaaaF22
import Derived.Test.YtiijlnlkhpneaaaF23
import Derived.Test.YtiijlnlkhpneaaaF24
import Derived.Test.YtiijlnlkhpneaaaF26
import Derived.Test.YtiijlnlkhpneaaaF27
namespace Go.Proofs.Ytiijlnlkhpneaaa.Se
open Go.RowKit
open Nd (Sta sNum sText sFlag sInt str sNum_lt i64r bytesS okS)
/-- seats by rising clients, as they are written -/
def Rises : Nat → List Seat → Prop
  | _, [] => True
  | last, s :: r => (last : Int) < s.client ∧ s.client ≤ 8 ∧ 1 ≤ s.number ∧ s.number ≤ 1099511627776 ∧ i64r s.at_ ∧ s.reply.size ≤ 8192 ∧ (s.kept = false → s.reply = ⟨#[]⟩) ∧ Rises s.client.toNat r
theorem size0 {x : ByteArray} (h : x.size = 0) : x = ⟨#[]⟩ := by
  obtain ⟨⟨l⟩⟩ := x
  cases l with
  | nil => rfl
  | cons a r => cases h
theorem rSeat_enc {x : Seat} (h : Enc1 x) (r : List Nat) : rSeat (encS x ++ r, 0) = (x, (r, 0)) ∧ (sNum (encS x ++ r, 0)).1 = x.client.toNat ∧ (sNum (sNum (encS x ++ r, 0)).2).1 = x.number.toNat ∧ (sFlag (sInt (sNum (sNum (encS x ++ r, 0)).2).2).2).1 = x.kept ∧ str (sText 8192 (sFlag (sInt (sNum (sNum (encS x ++ r, 0)).2).2).2).2).1 = x.reply := by
  obtain ⟨xc, xn, xa, xk, xr⟩ := x
  obtain ⟨h1, h2, h3, h4, h5, h6⟩ := h
  simp only at h1 h2 h3 h4 h5 h6
  obtain ⟨cn, rfl⟩ := Int.eq_ofNat_of_zero_le h1
  obtain ⟨nn, rfl⟩ := Int.eq_ofNat_of_zero_le h3
  have e : encS ⟨(cn : Int), (nn : Int), xa, xk, xr⟩ ++ r = Nd.Wire.num cn ++ (Nd.Wire.num nn ++ (Nd.Wire.num (Nd.Wire.zz xa) ++ ((if xk then 1 else 0) :: (Nd.Wire.num xr.size ++ bytesS xr ++ r)))) := by
    simp [encS]
  rw [e]
  unfold rSeat
  simp only [Nd.sNum_num cn _ (by omega), Nd.sNum_num nn _ (by omega), sInt_int xa h5, sFlag_flag, Nd.sText_text 8192 xr r h6 (by decide), Nd.str_bytesS, Int.toNat_natCast, and_self]
theorem rdL_enc : ∀ (X acc : List Seat) (last : Nat) (rest : List Nat), Rises last X → rdL X.length last acc (X.flatMap encS ++ rest, 0) = some (acc ++ X, (rest, 0))
  | [], acc, last, rest, _ => by simp [rdL]
  | x :: X, acc, last, rest, h => by
    obtain ⟨h1, h2, h3, h4, h5, h6, h7, h8⟩ := h
    have he : Enc1 x := ⟨by omega, h2, by omega, h4, h5, h6⟩
    rw [List.length_cons, List.flatMap_cons, List.append_assoc]
    obtain ⟨e1, e2, e3, e4, e5⟩ := rSeat_enc he (X.flatMap encS ++ rest)
    have hb : badS last (encS x ++ (X.flatMap encS ++ rest), 0) = false := by
      unfold badS
      rw [e1, e2, e3, e4, e5]
      simp only [Bool.or_eq_false_iff, decide_eq_false_iff_not, Bool.and_eq_false_iff]
      refine ⟨⟨⟨⟨⟨by simp, by omega⟩, by omega⟩, by omega⟩, by omega⟩, ?_⟩
      cases hk : x.kept with
      | true => exact .inl rfl
      | false => exact .inr (by rw [h7 hk]; decide)
    unfold rdL
    rw [hb, e1, e2]
    simp only [Bool.false_eq_true, if_false]
    rw [rdL_enc X (acc ++ [x]) x.client.toNat rest h8]
    simp
theorem int_inv {s : Sta} (hs : okS s) (h : (sInt s).2.2 = 0) : s.2 = 0 ∧ s.1 = Nd.Wire.num (Nd.Wire.zz (sInt s).1) ++ (sInt s).2.1 ∧ i64r (sInt s).1 := by
  obtain ⟨h1, h2, h3⟩ := Nd.sNum_inv hs h
  refine ⟨h1, ?_, unzz_ok _ h3⟩
  show s.1 = Nd.Wire.num (Nd.Wire.zz (Nd.Wire.unzz (sNum s).1)) ++ (sNum s).2.1
  rw [zz_unzz]
  exact h2
theorem txt_inv {m : Nat} {s : Sta} (hs : okS s) (h : (sText m s).2.2 = 0) : s.2 = 0 ∧ s.1 = (Nd.Wire.num (str (sText m s).1).size ++ bytesS (str (sText m s).1)) ++ (sText m s).2.1 ∧ (str (sText m s).1).size ≤ m := by
  obtain ⟨h1, h2⟩ := Nd.sText_inv hs h
  rw [Nd.bytesS_str (Nd.sText_bytes hs), Nd.str_size]
  exact ⟨h1, h2, Nd.sText_len m s⟩
theorem flag_inv {s : Sta} (h : (sFlag s).2.2 = 0) : s.2 = 0 ∧ s.1 = [if (sFlag s).1 then 1 else 0] ++ (sFlag s).2.1 := by
  obtain ⟨l, e⟩ := s
  unfold sFlag at h ⊢
  by_cases he : e = 0
  · subst he
    simp only [if_true] at h ⊢
    cases l with
    | nil => simp [Nd.Wire.rflag] at h
    | cons c r =>
      simp only [Nd.Wire.rflag] at h ⊢
      by_cases hc : 1 < c
      · rw [if_pos hc] at h
        simp at h
      · refine ⟨trivial, ?_⟩
        rcases (show c = 0 ∨ c = 1 by omega) with rfl | rfl <;> simp
  · simp only [if_neg he] at h
    exact absurd h he
theorem flag_ok {s : Sta} (h : okS s) : okS (sFlag s).2 := by
  obtain ⟨l, e⟩ := s
  unfold sFlag
  split
  · cases l with
    | nil => intro x hx; simp [Nd.Wire.rflag] at hx
    | cons c r =>
      simp only [Nd.Wire.rflag]
      split
      · intro x hx; simp at hx
      · intro x hx; exact h x (by simp at hx ⊢; exact .inr hx)
  · exact h
/-- one seat that is taken -/
theorem seat_inv {last : Nat} {t : Sta} (hs : okS t) (h : badS last t = false) : t.2 = 0 ∧ t.1 = encS (rSeat t).1 ++ (rSeat t).2.1 ∧ (rSeat t).2.2 = 0 ∧ okS (rSeat t).2 ∧ (rSeat t).1.client.toNat = (sNum t).1 ∧ (last : Int) < (rSeat t).1.client ∧ (rSeat t).1.client ≤ 8 ∧ 1 ≤ (rSeat t).1.number ∧ (rSeat t).1.number ≤ 1099511627776 ∧ i64r (rSeat t).1.at_ ∧ (rSeat t).1.reply.size ≤ 8192 ∧ ((rSeat t).1.kept = false → (rSeat t).1.reply = ⟨#[]⟩) := by
  unfold badS at h
  simp only [Bool.or_eq_false_iff, decide_eq_false_iff_not, Bool.and_eq_false_iff, Decidable.not_not] at h
  obtain ⟨⟨⟨⟨⟨h1, h2⟩, h3⟩, h4⟩, h5⟩, h6⟩ := h
  unfold rSeat at h1 ⊢
  simp only at h1 ⊢
  obtain ⟨a1, s1, E1⟩ : ∃ a s, sNum t = (a, s) := ⟨_, _, rfl⟩
  rw [E1] at h1 h2 h3 h4 h5 h6 ⊢
  simp only at h1 h2 h3 h4 h5 h6 ⊢
  obtain ⟨a2, s2, E2⟩ : ∃ a s, sNum s1 = (a, s) := ⟨_, _, rfl⟩
  rw [E2] at h1 h4 h5 h6 ⊢
  simp only at h1 h4 h5 h6 ⊢
  obtain ⟨a3, s3, E3⟩ : ∃ a s, sInt s2 = (a, s) := ⟨_, _, rfl⟩
  rw [E3] at h1 h6 ⊢
  simp only at h1 h6 ⊢
  obtain ⟨a4, s4, E4⟩ : ∃ a s, sFlag s3 = (a, s) := ⟨_, _, rfl⟩
  rw [E4] at h1 h6 ⊢
  simp only at h1 h6 ⊢
  obtain ⟨a5, s5, E5⟩ : ∃ a s, sText 8192 s4 = (a, s) := ⟨_, _, rfl⟩
  rw [E5] at h1 h6 ⊢
  simp only at h1 h6 ⊢
  have o1 : okS s1 := by have := Nd.sNum_ok hs; rw [E1] at this; exact this
  have o2 : okS s2 := by have := Nd.sNum_ok o1; rw [E2] at this; exact this
  have o3 : okS s3 := by have := Nd.sNum_ok o2; have e : (sInt s2).2 = (sNum s2).2 := rfl; rw [← e, E3] at this; exact this
  have o4 : okS s4 := by have := flag_ok o3; rw [E4] at this; exact this
  have o5 : okS s5 := by have := Nd.sText_ok 8192 o4; rw [E5] at this; exact this
  obtain ⟨p5, q5, r5⟩ := txt_inv (m := 8192) o4 (by rw [E5]; exact h1)
  obtain ⟨p4, q4⟩ := flag_inv (s := s3) (by rw [E4]; exact p5)
  obtain ⟨p3, q3, r3⟩ := int_inv o2 (by rw [E3]; exact p4)
  obtain ⟨p2, q2, r2⟩ := Nd.sNum_inv o1 (by rw [E2]; exact p3)
  obtain ⟨p1, q1, r1⟩ := Nd.sNum_inv hs (by rw [E1]; exact p2)
  rw [E5] at q5 r5
  rw [E4] at q4
  rw [E3] at q3 r3
  rw [E2] at q2
  rw [E1] at q1
  simp only at q1 q2 q3 q4 q5 r3 r5
  refine ⟨p1, ?_, h1, o5, by omega, by omega, by omega, by omega, by omega, r3, r5, fun hk => ?_⟩
  · unfold encS
    simp only [Int.toNat_natCast]
    rw [q1, q2, q3, q4, q5]
    simp only [List.append_assoc]
  · rcases h6 with h6 | h6
    · simp only [Bool.not_eq_false'] at h6
      rw [h6] at hk
      cases hk
    · exact size0 (by omega)
theorem rdL_inv : ∀ (n last : Nat) (acc : List Seat) (t : Sta) {X : List Seat} {t' : Sta}, okS t → rdL n last acc t = some (X, t') → t'.2 = 0 → ∃ Y, X = acc ++ Y ∧ Y.length = n ∧ Rises last Y ∧ t.2 = 0 ∧ t.1 = Y.flatMap encS ++ t'.1
  | 0, last, acc, t, X, t', _, h, h0 => by
    unfold rdL at h
    have h2 := Option.some.inj h
    obtain rfl := (Prod.mk.inj h2).1
    obtain rfl := (Prod.mk.inj h2).2
    exact ⟨[], by simp, rfl, trivial, h0, by simp⟩
  | n + 1, last, acc, t, X, t', hs, h, h0 => by
    unfold rdL at h
    cases hb : badS last t with
    | true => rw [hb] at h; simp at h
    | false =>
      rw [hb] at h
      simp only [Bool.false_eq_true, if_false] at h
      obtain ⟨a1, a2, a3, a4, a5, a6, a7, a8, a9, a10, a11, a12⟩ := seat_inv hs hb
      obtain ⟨Y, h1, h2, h3, h4, h5⟩ := rdL_inv n _ _ _ a4 h h0
      refine ⟨(rSeat t).1 :: Y, by rw [h1]; simp, by rw [List.length_cons, h2], ⟨a6, a7, a8, a9, a10, a11, a12, by rw [a5]; exact h3⟩, a1, ?_⟩
      rw [a2, h5, List.flatMap_cons, List.append_assoc]
/-- the table that rising seats are -/
def fillT : Nat → Nat → List Seat → List Seat
  | 0, _, _ => []
  | k + 1, i, [] => noSeat :: fillT k (i + 1) []
  | k + 1, i, s :: r => if s.client = (i : Int) + 1 then s :: fillT k (i + 1) r else noSeat :: fillT k (i + 1) (s :: r)
theorem rises_mono {i j : Nat} {s : Seat} {r : List Seat} (h : Rises i (s :: r)) (hj : (j : Int) < s.client) : Rises j (s :: r) := ⟨hj, h.2⟩
theorem right1_no (i : Nat) : Right1 i noSeat := ⟨.inl rfl, fun _ => rfl, by decide⟩
theorem fill_ok : ∀ (k i : Nat) (X : List Seat), k + i = 8 → Rises i X → (fillT k i X).length = k ∧ (fillT k i X).filter seated = X ∧ (∀ j s, (fillT k i X)[j]? = some s → Right1 (i + j) s ∧ i64r s.at_) ∧ sumR (fillT k i X) = sumR X
  | 0, i, [], _, _ => ⟨rfl, rfl, fun j s h => by simp [fillT] at h, rfl⟩
  | 0, i, s :: r, hk, h => by
    have h1 := h.1; have h2 := h.2.1
    omega
  | k + 1, i, [], hk, h => by
    obtain ⟨a1, a2, a3, a4⟩ := fill_ok k (i + 1) [] (by omega) trivial
    unfold fillT
    refine ⟨by rw [List.length_cons, a1], by rw [List.filter_cons, a2]; rfl, fun j s hj => ?_, by rw [sumR_cons, a4]; rfl⟩
    cases j with
    | zero =>
      simp at hj
      subst hj
      exact ⟨right1_no _, by decide, by decide⟩
    | succ j =>
      rw [List.getElem?_cons_succ] at hj
      have := a3 j s hj
      rw [show i + (j + 1) = i + 1 + j by omega]
      exact this
  | k + 1, i, s :: r, hk, h => by
    unfold fillT
    by_cases hc : s.client = (i : Int) + 1
    · rw [if_pos hc]
      obtain ⟨h1, h2, h3, h4, h5, h6, h7, h8⟩ := h
      have e : s.client.toNat = i + 1 := by omega
      rw [e] at h8
      obtain ⟨a1, a2, a3, a4⟩ := fill_ok k (i + 1) r (by omega) h8
      have hse : seated s = true := by unfold seated; simp; omega
      refine ⟨by rw [List.length_cons, a1], by rw [List.filter_cons, a2, hse]; rfl, fun j x hj => ?_, by rw [sumR_cons, sumR_cons, a4]⟩
      cases j with
      | zero =>
        simp at hj
        subst hj
        exact ⟨⟨.inr ⟨decide_eq_true ⟨h3, h4⟩, hc⟩, h7, h6⟩, h5⟩
      | succ j =>
        rw [List.getElem?_cons_succ] at hj
        have := a3 j x hj
        rw [show i + (j + 1) = i + 1 + j by omega]
        exact this
    · rw [if_neg hc]
      obtain ⟨a1, a2, a3, a4⟩ := fill_ok k (i + 1) (s :: r) (by omega) (rises_mono h (by have := h.1; omega))
      refine ⟨by rw [List.length_cons, a1], by rw [List.filter_cons, a2]; rfl, fun j x hj => ?_, by rw [sumR_cons, a4]; simp [noSeat, ByteArray.size]⟩
      cases j with
      | zero =>
        simp at hj
        subst hj
        exact ⟨right1_no _, by decide, by decide⟩
      | succ j =>
        rw [List.getElem?_cons_succ] at hj
        have := a3 j x hj
        rw [show i + (j + 1) = i + 1 + j by omega]
        exact this
/-- what the reference takes is a table's bytes -/
theorem rdT_inv {bs : List Nat} (hlt : ∀ x ∈ bs, x < 256) {rm : Nat} {X : List Seat} (h : rdT (bs, 0) = some (rm, X)) : ∃ T, Ok (rm : Int) T ∧ T.filter seated = X ∧ rm ≤ 8192 ∧ bs = encT (rm : Int) X := by
  have o0 : okS (bs, 0) := hlt
  unfold rdT at h
  split at h
  · cases h
  · rename_i h0
    have g1 : (sNum (sNum (bs, 0)).2).2.2 = 0 := by omega
    have g2 : (sNum (bs, 0)).1 ≤ 8192 := by omega
    have g3 : (sNum (sNum (bs, 0)).2).1 ≤ 8 := by omega
    cases hr : rdL (sNum (sNum (bs, 0)).2).1 0 [] (sNum (sNum (bs, 0)).2).2 with
    | none => rw [hr] at h; cases h
    | some q =>
      obtain ⟨X', t'⟩ := q
      rw [hr] at h
      unfold rdE at h
      simp only at h
      split at h
      · cases h
      · rename_i h1
        have h2 := Option.some.inj h
        obtain rfl := (Prod.mk.inj h2).1
        obtain rfl := (Prod.mk.inj h2).2
        have k1 : t'.1.length = 0 := by omega
        have k2 : t'.2 = 0 := by omega
        have k3 : sumR X' ≤ (sNum (bs, 0)).1 := by omega
        have o1 := Nd.sNum_ok o0
        have o2 := Nd.sNum_ok o1
        obtain ⟨Y, y1, y2, y3, -, y5⟩ := rdL_inv _ _ _ _ o2 hr k2
        rw [List.nil_append] at y1
        subst y1
        obtain ⟨b1, b2, -⟩ := Nd.sNum_inv o1 g1
        obtain ⟨-, c2, -⟩ := Nd.sNum_inv o0 b1
        obtain ⟨f1, f2, f3, f4⟩ := fill_ok 8 0 X' rfl y3
        refine ⟨fillT 8 0 X', ⟨⟨f1, fun i s hi => by have := (f3 i s hi).1; rwa [Nat.zero_add] at this⟩, fun s hs => ?_, by rw [f4]; omega⟩, f2, g2, ?_⟩
        · obtain ⟨i, hi⟩ := List.getElem?_of_mem hs
          exact (f3 i s hi).2
        · unfold encT
          rw [Int.toNat_natCast, y2]
          have e0 : t'.1 = [] := List.length_eq_zero_iff.1 k1
          rw [e0, List.append_nil] at y5
          simp only at c2
          rw [List.append_assoc, ← y5, ← b2]
          exact c2
theorem rises_of {T : List Seat} : ∀ (k i : Nat) (r : List Seat), k = r.length → (∀ j s, r[j]? = some s → Right1 (i + j) s ∧ i64r s.at_) → k + i = 8 → Rises i (r.filter seated)
  | 0, i, [], _, _, _ => trivial
  | k + 1, i, s :: r, hk, h, h8 => by
    have ih := rises_of (T := T) k (i + 1) r (by simpa using hk) (fun j x hx => by
      have := h (j + 1) x (by rw [List.getElem?_cons_succ]; exact hx)
      rw [show i + 1 + j = i + (j + 1) by omega]
      exact this) (by omega)
    obtain ⟨h1, h2⟩ := h 0 s rfl
    rw [List.filter_cons]
    rcases h1.who with rfl | ⟨h3, h4⟩
    · rw [seated_no rfl]
      simp only [Bool.false_eq_true, if_false]
      cases hf : r.filter seated with
      | nil => trivial
      | cons a q =>
        rw [hf] at ih
        exact rises_mono ih (by have := ih.1; omega)
    · have hn : 1 ≤ s.number ∧ s.number ≤ 1099511627776 := of_decide_eq_true h3
      have hse : seated s = true := by unfold seated; simp; omega
      rw [hse]
      simp only [if_true]
      refine ⟨by omega, by omega, hn.1, hn.2, h2, h1.short, h1.none_, ?_⟩
      rw [show s.client.toNat = i + 1 by omega]
      exact ih
theorem sumR_seated : ∀ {T : List Seat}, (∀ s ∈ T, s = noSeat ∨ seated s = true) → sumR (T.filter seated) = sumR T
  | [], _ => rfl
  | s :: r, h => by
    have ih := sumR_seated (T := r) (fun x hx => h x (by simp [hx]))
    rw [List.filter_cons]
    rcases h s (by simp) with rfl | h1
    · rw [seated_no rfl, sumR_cons, ← ih]
      simp [noSeat, ByteArray.size]
    · rw [h1]
      simp only [if_true]
      rw [sumR_cons, sumR_cons, ih]
/-- a table's bytes are taken by the reference -/
theorem rdT_enc {rm : Nat} (h9 : rm ≤ 8192) {T : List Seat} (hk : Ok (rm : Int) T) : rdT (encT (rm : Int) (T.filter seated), 0) = some (rm, T.filter seated) := by
  have e : encT (rm : Int) (T.filter seated) = Nd.Wire.num rm ++ (Nd.Wire.num (T.filter seated).length ++ ((T.filter seated).flatMap encS ++ [])) := by
    simp [encT]
  have h8 := filter_le8 hk.right
  have hr : Rises 0 (T.filter seated) := rises_of (T := T) 8 0 T hk.right.len.symm (fun j s hj => ⟨by rw [Nat.zero_add]; exact hk.right.at_ j s hj, hk.at_ s (List.mem_of_getElem? hj)⟩) rfl
  have h1 := rdL_enc (T.filter seated) [] 0 [] hr
  have hs : sumR (T.filter seated) = sumR T := sumR_seated (fun s hs => by
    obtain ⟨i, hi⟩ := List.getElem?_of_mem hs
    rcases (hk.right.at_ i s hi).who with h | ⟨h, -⟩
    · exact .inl h
    · have hn : 1 ≤ s.number ∧ s.number ≤ 1099511627776 := of_decide_eq_true h
      exact .inr (by unfold seated; simp; omega))
  have hsum := hk.sum
  rw [e]
  unfold rdT
  simp only [Nd.sNum_num rm _ (by omega), Nd.sNum_num (T.filter seated).length _ (by omega)]
  rw [if_neg (by omega), h1]
  unfold rdE
  simp only [List.nil_append, List.length_nil]
  rw [if_neg (by omega)]
end Go.Proofs.Ytiijlnlkhpneaaa.Se
