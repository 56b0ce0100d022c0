/-
  The reference of layer 7: lists of paths; the walks of Names and place. A row of paths of the call's own; one more path behind it. The walks of Check and Split, of the reference's Check. Paths and their texts: what is shown is parsed as it was.
-/
import Derived.Laws.CopyOwn
import Derived.Deep.RegionLaw
import Derived.Deep.DrawnRows
import Derived.Laws.Tables
import Derived.Test.YtglfeocfhlmloaaGreatY00
import Derived.Test.YtglfeocfhlmloaaGreatY01
import Derived.Test.YtglfeocfhlmloaaGreatY02
import Derived.Test.YtglfeocfhlmloaaGreatY03
import Derived.Test.YtglfeocfhlmloaaGreatY04
import Derived.Test.YtglfeocfhlmloaaGreatY05
import Derived.Test.YtglfeocfhlmloaaGreatY06
import Derived.Test.YtglfeocfhlmloaaGreatY07
import Derived.Test.YtglfeocfhlmloaaGreatY08
import Derived.Test.YtglfeocfhlmloaaGreatY09
import Derived.Test.YtglfeocfhlmloaaGreatY11
import Derived.Test.YtglfeocfhlmloaaGreatY12
import Derived.Test.YtglfeocfhlmloaaGreatY13
import Derived.Test.YtglfeocfhlmloaaGreatY14
import Derived.Test.YtglfeocfhlmloaaGreatY15
import Derived.Test.YtglfeocfhlmloaaGreatY16
import Derived.Test.YtglfeocfhlmloaaGreatY17
import Derived.Test.YtglfeocfhlmloaaGreatY18
namespace Go.Proofs.YtglfeocfhlmloaaGreat.Rf
open Go.RowKit
open Vp (Str B bl Val cmpL parseS showS)
theorem hid_in {p : Prop} (h : p) : Hid p := h
theorem B_bl (s : ByteArray) : B (bl s) = s := by simp [B, bl]
/-- the names of a text; none of what is no path -/
def nmsOf (s : ByteArray) : List Str := (parseS (bl s)).1
def errOf (s : ByteArray) : Int := (parseS (bl s)).2
theorem rparse_n (s : ByteArray) (hs : s.size ≤ 9223372036854775807) (w : World) : Calls Tryz.prog 46 #[.string s] w fun e w' => ∃ v, e = .returned (.tuple #[v, .int .i64 (errOf s)]) ∧ Vp.Nms w' w.heap.size v (nmsOf s) ∧ Below w.heap.size w w' := by
  have h := Vp.rparse_any (bl s) (by rw [Vp.bl_length]; exact hs) w
  rw [B_bl] at h
  exact h
theorem names_any (s : ByteArray) (hs : s.size ≤ 9223372036854775807) (w : World) : Calls Tryz.prog 45 #[.string s] w fun e w' => (∃ v, e = .returned v ∧ Vp.Nms w' w.heap.size v (nmsOf s)) ∧ Below w.heap.size w w' := by
  have HP := hid_in (rparse_n s hs w)
  clear hs
  go_enter Tryz.func45, Tryz.ntmps45
  go_wp2_with (first | (go_at_call 46; refine HP.out.mono ?_; rintro e w1 ⟨v1, rfl, h1, h2⟩; have HN := hid_in h1; have HB := hid_in h2; clear h1 h2))
  go_ret
  exact ⟨⟨_, rfl, HN.out⟩, HB.out⟩
end Go.Proofs.YtglfeocfhlmloaaGreat.Rf
namespace Go.Proofs.YtglfeocfhlmloaaGreat.Rf
open Go.RowKit
open Vp (Str B bl Val cmpL parseS showS sv)
/-- names in a row of their own -/
def Nm (w : World) (v : Value) (xs : List Str) : Prop := w.ownsRow 0 9 1 v xs.length (xs.map sv)
theorem own0 {w : World} {base n size : Nat} {e : TypeId} {v : Value} {xs : List Value} (h : w.ownsRow base e size v n xs) : w.ownsRow 0 e size v n xs := by
  refine ⟨h.1, ?_⟩
  rcases h.2 with h | ⟨g, cap, cur, h1, _, h3⟩
  · exact .inl h
  · exact .inr ⟨g, cap, cur, h1, Nat.zero_le _, h3⟩
theorem Nm.of {w : World} {base : Nat} {v : Value} {xs : List Str} (h : Vp.Nms w base v xs) : Nm w v xs := own0 h
theorem Nm.val {w : World} {v : Value} {xs : List Str} (h : Nm w v xs) : Val w v xs := Vp.Nms.val (base := 0) h
theorem Nm.below {w w' : World} {v : Value} {xs : List Str} (h : Nm w v xs) (hb : Below w.heap.size w w') : Nm w' v xs := Nd.own_belowK h hb
theorem Nm.form {w : World} {v : Value} {xs : List Str} (h : Nm w v xs) : ∃ p c, v = .slice p xs.length c := Vp.Nms.shape (base := 0) h
end Go.Proofs.YtglfeocfhlmloaaGreat.Rf
namespace Go.Proofs.YtglfeocfhlmloaaGreat.Vp
open Go.RowKit
/-- whether names are a path's -/
def checkS (xs : List Str) : Int := if xs.all isNameS = false then 41 else if 8 < xs.length then 42 else 0
theorem lens_mem {xs : List Str} {x : Str} (h : x ∈ xs) : x.length ≤ Lib.lens xs := by
  induction xs with
  | nil => cases h
  | cons y r ih =>
    simp only [Lib.lens, List.map_cons, List.sum_cons] at ih ⊢
    rcases List.mem_cons.1 h with rfl | h
    · omega
    · have := ih h; omega
theorem allS_snoc {p : Str → Bool} {l : List Str} {i : Nat} {c : Str} (hc : l[i]? = some c) (h : (l.take i).all p = true) (hp : p c = true) : (l.take (i + 1)).all p = true := by
  rw [List.take_add_one, hc]; simp [List.all_append, h, hp]
theorem allS_no {p : Str → Bool} {l : List Str} {i : Nat} {c : Str} (hc : l[i]? = some c) (hp : p c = false) : l.all p = false := by
  rw [List.all_eq_false]
  exact ⟨c, List.mem_of_getElem? hc, by simp [hp]⟩
set_option maxHeartbeats 400000 in
set_option maxRecDepth 100000 in
theorem check_v {xs : List Str} {u : Value} {w : World} (hx : Val w u xs) (hl : Lib.lens xs + xs.length ≤ 140737488355328) : Calls Tryz.prog 78 #[u] w fun e w' => e = .returned (.int .i64 (checkS xs)) ∧ w' = w := by
  obtain ⟨p, cap, b, o, rfl, hle, hbig, hp, hc⟩ := val_at hx
  obtain ⟨R, hR⟩ : ∃ R, Hid (R = checkS xs) := ⟨_, rfl⟩
  rw [← hR.out]
  have HC := hid_in hc
  have HP := hid_in hp
  have HL := hid_in hl
  have hb1 : xs.length ≤ 9223372036854775807 := by omega
  generalize hn : xs.length = n at *
  have Hn := hid_in hn
  clear hn hc hp hx hl
  go_enter Tryz.func78, Tryz.ntmps78
  go_wp2_with fail
  go_loopw [7] (fun vi w' => w' = w ∧ ∃ i : Nat, i ≤ n ∧ vi = .int .i64 (i : Int) ∧ Hid ((xs.take i).all isNameS = true)) (fun vi _ => n - (intOf vi).toNat)
  case atStart => exact ⟨rfl, 0, by omega, rfl, rfl⟩
  case round =>
    obtain ⟨hw, i, hi, rfl, hall⟩ := hrel
    obtain rfl := hw.symm
    by_cases hlt : i < n
    · obtain ⟨x, hxi⟩ : ∃ d, xs[i]? = some d := ⟨_, List.getElem?_eq_getElem (by rw [Hn.out]; exact hlt)⟩
      have cx := HC.out i x hxi
      obtain rfl := HP.out (by rintro rfl; simp at hxi)
      have HN := hid_in (isName_any x (by have := lens_mem (List.mem_of_getElem? hxi); have := HL.out; omega))
      have HX := hid_in hxi
      clear hxi
      cases hnm : isNameS x
      · rw [hnm] at HN
        have HNM := hid_in hnm
        clear hnm
        go_wp2_with (go_at_call 97; refine (HN.out _).mono ?_; rintro e w' ⟨rfl, hw⟩; obtain rfl := hw.symm)
        go_ret
        refine ⟨congrArg (fun z => Ending.returned (Value.int .i64 z)) (Eq.trans ?_ hR.out.symm), rfl⟩
        unfold checkS
        rw [if_pos (allS_no HX.out HNM.out)]
      · rw [hnm] at HN
        have hsn : Hid ((xs.take (i + 1)).all isNameS = true) := allS_snoc HX.out hall.out hnm
        clear hnm
        go_wp2_with (go_at_call 97; refine (HN.out _).mono ?_; rintro e w' ⟨rfl, hw⟩; obtain rfl := hw.symm)
        go_roundw
        case rel =>
          go_light
          exact ⟨trivial, i + 1, by omega, by go_num, hsn⟩
        case measure => simp [intOf]; omega
    · have hin : i = n := by omega
      subst hin
      have HA : Hid (R = if 8 < i then 42 else 0) := by
        show _ = _
        rw [hR.out]
        have := hall.out
        rw [List.take_of_length_le (by rw [Hn.out]; omega)] at this
        unfold checkS
        rw [if_neg (by rw [this]; simp), Hn.out]
      clear hR
      by_cases h8 : 8 < i
      · have HA2 := hid_in (HA.out.trans (if_pos h8))
        go_wp2_with fail
        go_ret
        refine ⟨congrArg (fun z => Ending.returned (Value.int .i64 z)) (Eq.trans ?_ HA2.out.symm), rfl⟩
        rfl
      · have HA2 := hid_in (HA.out.trans (if_neg h8))
        go_wp2_with fail
        go_ret
        refine ⟨congrArg (fun z => Ending.returned (Value.int .i64 z)) (Eq.trans ?_ HA2.out.symm), rfl⟩
        rfl
set_option maxHeartbeats 400000 in
set_option maxRecDepth 100000 in
theorem rcheck_v {xs : List Str} {u : Value} {w : World} (hx : Val w u xs) (hl : Lib.lens xs + xs.length ≤ 140737488355328) : Calls Tryz.prog 68 #[u] w fun e w' => e = .returned (.int .i64 (checkS xs)) ∧ w' = w := by
  obtain ⟨p, cap, b, o, rfl, hle, hbig, hp, hc⟩ := val_at hx
  obtain ⟨R, hR⟩ : ∃ R, Hid (R = checkS xs) := ⟨_, rfl⟩
  rw [← hR.out]
  have HC := hid_in hc
  have HP := hid_in hp
  have HL := hid_in hl
  have hb1 : xs.length ≤ 9223372036854775807 := by omega
  generalize hn : xs.length = n at *
  have Hn := hid_in hn
  clear hn hc hp hx hl
  go_enter Tryz.func68, Tryz.ntmps68
  go_wp2_with fail
  go_loopw [3] (fun vi w' => w' = w ∧ ∃ i : Nat, i ≤ n ∧ vi = .int .i64 (i : Int) ∧ Hid ((xs.take i).all isNameS = true)) (fun vi _ => n - (intOf vi).toNat)
  case atStart => exact ⟨rfl, 0, by omega, rfl, rfl⟩
  case round =>
    obtain ⟨hw, i, hi, rfl, hall⟩ := hrel
    obtain rfl := hw.symm
    by_cases hlt : i < n
    · obtain ⟨x, hxi⟩ : ∃ d, xs[i]? = some d := ⟨_, List.getElem?_eq_getElem (by rw [Hn.out]; exact hlt)⟩
      have cx := HC.out i x hxi
      obtain rfl := HP.out (by rintro rfl; simp at hxi)
      have HN := hid_in (rname_any x (by have := lens_mem (List.mem_of_getElem? hxi); have := HL.out; omega))
      have HX := hid_in hxi
      clear hxi
      cases hnm : isNameS x
      · rw [hnm] at HN
        have HNM := hid_in hnm
        clear hnm
        go_wp2_with (go_at_call 82; refine (HN.out _).mono ?_; rintro e w' ⟨rfl, hw⟩; obtain rfl := hw.symm)
        go_ret
        refine ⟨congrArg (fun z => Ending.returned (Value.int .i64 z)) (Eq.trans ?_ hR.out.symm), rfl⟩
        unfold checkS
        rw [if_pos (allS_no HX.out HNM.out)]
      · rw [hnm] at HN
        have hsn : Hid ((xs.take (i + 1)).all isNameS = true) := allS_snoc HX.out hall.out hnm
        clear hnm
        go_wp2_with (go_at_call 82; refine (HN.out _).mono ?_; rintro e w' ⟨rfl, hw⟩; obtain rfl := hw.symm)
        go_roundw
        case rel =>
          go_light
          exact ⟨trivial, i + 1, by omega, by go_num, hsn⟩
        case measure => simp [intOf]; omega
    · have hin : i = n := by omega
      subst hin
      have HA : Hid (R = if 8 < i then 42 else 0) := by
        show _ = _
        rw [hR.out]
        have := hall.out
        rw [List.take_of_length_le (by rw [Hn.out]; omega)] at this
        unfold checkS
        rw [if_neg (by rw [this]; simp), Hn.out]
      clear hR
      by_cases h8 : 8 < i
      · have HA2 := hid_in (HA.out.trans (if_pos h8))
        go_wp2_with fail
        go_ret
        refine ⟨congrArg (fun z => Ending.returned (Value.int .i64 z)) (Eq.trans ?_ HA2.out.symm), rfl⟩
        rfl
      · have HA2 := hid_in (HA.out.trans (if_neg h8))
        go_wp2_with fail
        go_ret
        refine ⟨congrArg (fun z => Ending.returned (Value.int .i64 z)) (Eq.trans ?_ HA2.out.symm), rfl⟩
        rfl
end Go.Proofs.YtglfeocfhlmloaaGreat.Vp
namespace Go.Proofs.YtglfeocfhlmloaaGreat.Vp
/-- a path's names -/
def IsPath (xs : List Str) : Prop := ∀ x ∈ xs, isNameS x = true
theorem name_facts {x : Str} (h : isNameS x = true) : x ≠ [] ∧ x ≠ [46] ∧ x ≠ [46, 46] ∧ x.length ≤ 16 ∧ x.all plain = true := by
  unfold isNameS at h
  simp only [Bool.and_eq_true, Bool.not_eq_true', beq_eq_false_iff_ne, decide_eq_true_eq] at h
  exact ⟨h.1.1.1.1, h.1.1.1.2, h.1.1.2, h.1.2, h.2⟩
theorem name_of {x : Str} (h0 : x ≠ []) (h1 : x ≠ [46]) (h2 : x ≠ [46, 46]) (h3 : x.length ≤ 16) (h4 : x.all plain = true) : isNameS x = true := by
  unfold isNameS
  rw [beq_eq_false_iff_ne.2 h0, beq_eq_false_iff_ne.2 h1, beq_eq_false_iff_ne.2 h2, decide_eq_true h3, h4]; rfl
theorem plain_ne {c : UInt8} (h : plain c = true) : c ≠ 47 := by
  rintro rfl
  exact absurd h (by decide)
theorem name_no {x : Str} (h : isNameS x = true) : ∀ c ∈ x, c ≠ 47 := fun c hc => plain_ne (List.all_eq_true.1 (name_facts h).2.2.2.2 c hc)
theorem step_name (xs : List Str) {x : Str} (h : isNameS x = true) : stepS xs x = xs ++ [x] := by
  obtain ⟨h0, h1, h2, _⟩ := name_facts h
  unfold stepS
  rw [if_neg (by rintro (e | e); exact h0 e; exact h1 e), if_neg h2]
theorem fold_names (acc : List Str) {xs : List Str} (h : IsPath xs) : xs.foldl stepS acc = acc ++ xs := by
  induction xs generalizing acc with
  | nil => simp
  | cons x r ih =>
    rw [List.foldl_cons, step_name acc (h x (by simp)), ih _ (fun y hy => h y (by simp [hy]))]
    simp
theorem names_self {xs : List Str} (h : IsPath xs) : namesS xs = xs := by
  have := fold_names [] h
  simpa [namesS] using this
theorem long_none {xs : List Str} (h : IsPath xs) : xs.any long = false := by
  rw [List.any_eq_false]
  intro x hx
  have := (name_facts (h x hx)).2.2.2.1
  simp [long]; omega
theorem ok_name {x : Str} (h : isNameS x = true) : x.all okByte = true := by
  rw [List.all_eq_true]
  intro c hc
  unfold okByte
  rw [List.all_eq_true.1 (name_facts h).2.2.2.2 c hc]; rfl
theorem pieces_tail {r : List Str} (h : IsPath r) (x : Str) (hx : ∀ c ∈ x, c ≠ 47) : piecesS (x ++ Lib.joinTail [47] r) = x :: r := by
  induction r generalizing x with
  | nil => simp [Lib.joinTail, pieces_plain x hx]
  | cons y r ih =>
    have e : Lib.joinTail [47] (y :: r) = 47 :: (y ++ Lib.joinTail [47] r) := by simp [Lib.joinTail]
    rw [e, pieces_stroke _ _ hx, ih (fun z hz => h z (by simp [hz])) y (name_no (h y (by simp)))]
theorem show_ok {xs : List Str} (h : IsPath xs) : (showS xs).all okByte = true := by
  rw [← showR_eq]
  unfold showR
  split
  · decide
  · rw [List.all_flatten]
    rw [List.all_map, List.all_eq_true]
    intro x hx
    simp only [Function.comp, List.all_cons, ok_name (h x hx), Bool.and_true]
    decide
theorem show_len (xs : List Str) : (showS xs).length ≤ Lib.lens xs + xs.length + 1 := by
  unfold showS
  have := join_le xs
  simp; omega
theorem text_of {l : Str} (h : (47 :: l).all okByte = true) : isTextS (47 :: l) = true := by
  have e : isTextS (47 :: l) = (((47 : UInt8) == 47) && (47 :: l).all okByte) := rfl
  rw [e, h]; rfl
/-- what a text means, by its pieces -/
theorem parse_of {l : Str} {ps xs : List Str} (hl : (47 :: l).length ≤ 256) (hok : (47 :: l).all okByte = true) (hp : piecesS l = ps) (hlong : ps.any long = false) (hn : namesS ps = xs) : parseS (47 :: l) = if 8 < xs.length then ([], 42) else (xs, 0) := by
  unfold parseS
  rw [if_neg (by omega), if_neg (by rw [text_of hok]; simp)]
  simp only [List.drop_succ_cons, List.drop_zero]
  rw [hp, if_neg (by rw [hlong]; simp), hn]
theorem parse_show {xs : List Str} (h : IsPath xs) (hl : (showS xs).length ≤ 256) : parseS (showS xs) = if 8 < xs.length then ([], 42) else (xs, 0) := by
  have hok := show_ok h
  cases xs with
  | nil => decide +kernel
  | cons x r =>
    have hp : piecesS (Lib.join (x :: r) [47]) = x :: r := by
      rw [Lib.join_cons]; exact pieces_tail (fun z hz => h z (by simp [hz])) x (name_no (h x (by simp)))
    exact parse_of hl hok hp (long_none h) (names_self h)
theorem pieces_mem {x : Str} {q : UInt8 → Bool} (h : x.all q = true) : ∀ p ∈ piecesS x, p.all (fun c => q c && !(c == 47)) = true := by
  induction x with
  | nil => intro p hp; simp [piecesS] at hp; subst hp; rfl
  | cons c r ih =>
    rw [List.all_cons, Bool.and_eq_true] at h
    intro p hp
    unfold piecesS at hp
    by_cases hc : c = 47
    · rw [if_pos hc] at hp
      rcases List.mem_cons.1 hp with rfl | hp
      · rfl
      · exact ih h.2 p hp
    · rw [if_neg hc] at hp
      cases hq : piecesS r with
      | nil =>
        rw [hq] at hp
        simp at hp; subst hp
        simp [h.1, hc]
      | cons p0 ps =>
        rw [hq] at hp
        rcases List.mem_cons.1 hp with rfl | hp
        · rw [List.all_cons, ih h.2 p0 (by rw [hq]; simp), h.1]; simp [hc]
        · exact ih h.2 p (by rw [hq]; simp [hp])
theorem step_path {xs : List Str} {p : Str} (h : IsPath xs) (hp : p.all plain = true) (hl : p.length ≤ 16) : IsPath (stepS xs p) := by
  unfold stepS
  split
  · exact h
  · rename_i h1
    split
    · intro x hx; exact h x (List.dropLast_subset xs hx)
    · rename_i h2
      intro x hx
      rcases List.mem_append.1 hx with hx | hx
      · exact h x hx
      · simp at hx; subst hx
        exact name_of (fun e => h1 (.inl e)) (fun e => h1 (.inr e)) h2 hl hp
theorem names_path {ps : List Str} (h1 : ∀ p ∈ ps, p.all plain = true) (h2 : ps.any long = false) : IsPath (namesS ps) := by
  have : ∀ (qs acc : List Str), (∀ p ∈ qs, p.all plain = true) → qs.any long = false → IsPath acc → IsPath (qs.foldl stepS acc) := by
    intro qs
    induction qs with
    | nil => intro acc _ _ h; exact h
    | cons q r ih =>
      intro acc g1 g2 h
      rw [List.any_cons, Bool.or_eq_false_iff] at g2
      refine ih _ (fun p hp => g1 p (by simp [hp])) g2.2 (step_path h (g1 q (by simp)) ?_)
      have := g2.1
      simp [long] at this
      exact this
  exact this ps [] h1 h2 (fun x hx => by cases hx)
/-- what Parse answers is a path. -/
theorem parse_path_ok (s : Str) : IsPath (parseS s).1 ∧ (parseS s).1.length ≤ 8 := by
  have hnil : IsPath [] := fun x hx => by cases hx
  unfold parseS
  split
  · exact ⟨hnil, by simp⟩
  · split
    · exact ⟨hnil, by simp⟩
    · rename_i ht
      split
      · exact ⟨hnil, by simp⟩
      · rename_i hlong
        split
        · exact ⟨hnil, by simp⟩
        · rename_i h8
          refine ⟨names_path ?_ (by simpa using hlong), by simp only; omega⟩
          cases s with
          | nil => exact absurd rfl ht
          | cons c r =>
            have e : isTextS (c :: r) = ((c == 47) && (c :: r).all okByte) := rfl
            rw [e] at ht
            have hall : r.all okByte = true := by
              cases hq : r.all okByte
              · rw [List.all_cons, hq] at ht; simp at ht
              · rfl
            intro p hp
            have := pieces_mem hall p (by simpa using hp)
            rw [List.all_eq_true] at this ⊢
            intro d hd
            have hd2 := this d hd
            unfold okByte at hd2
            simp at hd2
            rcases hd2 with ⟨h1 | h1, h2⟩
            · exact h1
            · exact absurd h1 h2
end Go.Proofs.YtglfeocfhlmloaaGreat.Vp
