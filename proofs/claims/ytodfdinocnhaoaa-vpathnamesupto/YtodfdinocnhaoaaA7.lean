/-
  Two lists of names held against each other: the walks of Texts, Within, Compare, the program's and the reference's.
-/
import Derived.Test.YtodfdinocnhaoaaA6
namespace Go.Proofs.Ytodfdinocnhaoaa
open Go.RowKit

theorem Rd.at_ {w : World} {p : Option Addr} {xs : List Str} {cap : Nat} (h : Rd w p xs cap) : ∃ b o, (xs ≠ [] → p = some ⟨b, o, none⟩) ∧ ∀ (j : Nat) x m, xs[j]? = some x → (w.drewN m).cell? ⟨b, o + j, none⟩ = some (.string (B x)) := by
  obtain ⟨b, o, h1, h2⟩ := h.cells
  refine ⟨b, o, fun hne => (h1 hne).1, fun j x m hx => ?_⟩
  have := h2 j x hx
  rw [show (w.drewN m).cell? ⟨b, o + j, none⟩ = w.cell? ⟨b, o + j, none⟩ by simp [World.cell?]]
  exact this
theorem take_snoc {xs : List Str} {i : Nat} {x : Str} (h : xs[i]? = some x) : xs.take (i + 1) = xs.take i ++ [x] := by
  rw [List.take_add_one, h]; rfl

theorem drew_ex {w wr : World} (h : ∃ m, wr = w.drewN m) : ∃ m, wr.drew = w.drewN m := by
  obtain ⟨m, rfl⟩ := h
  exact ⟨m + 1, rfl⟩
/-- whether a path is another one, or below it -/
def withinS (xs ys : List Str) : Bool := decide (ys.length ≤ xs.length ∧ xs.take ys.length = ys)

set_option maxHeartbeats 400000 in
set_option maxRecDepth 100000 in
theorem texts_any (xs ys : List Str) (p q : Option Addr) (c1 c2 : Nat) (w : World) (hx : Rd w p xs c1) (hy : Rd w q ys c2) :
    Calls Try.prog 13 #[.slice p xs.length c1, .slice q ys.length c2] w fun e w' => e = .returned (.bool (decide (xs = ys))) ∧ ∃ m, w' = w.drewN m := by
  have hb1 : xs.length ≤ 9223372036854775807 := Nat.le_trans hx.le hx.big
  have hb2 : ys.length ≤ 9223372036854775807 := Nat.le_trans hy.le hy.big
  obtain ⟨R, hR⟩ : ∃ R, Hid (R = decide (xs = ys)) := ⟨_, rfl⟩
  rw [← hR.out]
  obtain ⟨bx, ox, px, hcx⟩ := hx.at_
  obtain ⟨b2, oy, py, hcy⟩ := hy.at_
  by_cases hl : xs.length = ys.length
  · generalize hn : xs.length = n at *
    generalize hm : ys.length = k at *
    have Hn := hid_in hn
    have Hm := hid_in hm
    have Hl := hid_in hl
    have HCX := hid_in hcx
    have HCY := hid_in hcy
    have HPX := hid_in px
    have HPY := hid_in py
    obtain rfl := hl.symm
    have hne : ((k : Int) != (k : Int)) = false := by simp
    clear hn hm hcx hcy px py hx hy
    go_enter Try.func13, Try.ntmps13
    go_wp2_with fail
    go_loopw [5] (fun vi w' => Hid (∃ m, w' = w.drewN m) ∧ ∃ i : Nat, i ≤ k ∧ vi = .int .i64 (i : Int) ∧ Hid (xs.take i = ys.take i)) (fun vi _ => k - (intOf vi).toNat)
    case atStart => exact ⟨⟨0, rfl⟩, 0, by omega, rfl, rfl⟩
    case round =>
      obtain ⟨hm, i, hi, rfl, heq⟩ := hrel
      by_cases hlt : i < k
      · obtain ⟨x, hxi⟩ : ∃ d, xs[i]? = some d := ⟨_, List.getElem?_eq_getElem (by rw [Hn.out]; have := Hl.out; omega)⟩
        obtain ⟨y, hyi⟩ : ∃ d, ys[i]? = some d := ⟨_, List.getElem?_eq_getElem (by rw [Hm.out]; exact hlt)⟩
        have cx : wr.cell? ⟨bx, ox + i, none⟩ = some (.string (B x)) := by obtain ⟨m, hw⟩ := hm.out; rw [hw]; exact HCX.out i x m hxi
        have cy : wr.cell? ⟨b2, oy + i, none⟩ = some (.string (B y)) := by obtain ⟨m, hw⟩ := hm.out; rw [hw]; exact HCY.out i y m hyi
        obtain rfl := HPX.out (by rintro rfl; simp at hxi)
        obtain rfl := HPY.out (by rintro rfl; simp at hyi)
        have tx := toL x
        have ty := toL y
        generalize B x = sx at cx tx
        generalize B y = sy at cy ty
        have HX := hid_in hxi
        have HY := hid_in hyi
        clear hxi hyi
        go_wp2_with fail
        go_region
        go_wp2
        · have hne : x ≠ y := by have h : (!x == y) = true := by assumption
                                 simpa using h
          go_ret
          refine ⟨congrArg (fun z => Ending.returned (Value.bool z)) (Eq.trans ?_ hR.out.symm), drew_ex hm.out⟩
          symm
          refine decide_eq_false ?_
          rintro rfl
          have := HX.out.symm.trans HY.out
          exact hne (by simpa using this)
        · have he : x = y := by have h : (!x == y) = false := by assumption
                                simpa using h
          have hsn : Hid (xs.take (i + 1) = ys.take (i + 1)) := by
            show _ = _
            rw [take_snoc HX.out, take_snoc HY.out, heq.out, he]
          first
            | exact ⟨⟨drew_ex hm.out, i + 1, by omega, by go_num, hsn⟩, by simp [intOf]; omega⟩
            | (go_roundw
               case rel =>
                 go_light
                 exact ⟨drew_ex hm.out, i + 1, by omega, by go_num, hsn⟩
               case measure => simp [intOf]; omega)
      · have hin : i = k := by omega
        subst hin
        go_wp2_with fail
        go_ret
        refine ⟨congrArg (fun z => Ending.returned (Value.bool z)) (Eq.trans ?_ hR.out.symm), hm.out⟩
        symm
        refine decide_eq_true ?_
        have := heq.out
        rw [List.take_of_length_le (by have := Hn.out; omega), List.take_of_length_le (by have := Hm.out; omega)] at this
        exact this
  · have HL := hid_in hl
    have hne : ((xs.length : Int) != (ys.length : Int)) = true := by simp; omega
    have HN : Hid (false = R) := by show _ = _; rw [hR.out]; symm; refine decide_eq_false ?_; rintro rfl; exact hl rfl
    clear hl hx hy hcx hcy px py
    generalize xs.length = n at *
    generalize ys.length = k at *
    go_enter Try.func13, Try.ntmps13
    go_wp2_with fail
    go_ret
    refine ⟨congrArg (fun z => Ending.returned (Value.bool z)) (Eq.trans ?_ HN.out), 0, rfl⟩
    rfl

set_option maxHeartbeats 400000 in
set_option maxRecDepth 100000 in
theorem rwithin_any (xs ys : List Str) (p q : Option Addr) (c1 c2 : Nat) (w : World) (hx : Rd w p xs c1) (hy : Rd w q ys c2) :
    Calls Try.prog 21 #[.slice p xs.length c1, .slice q ys.length c2] w fun e w' => e = .returned (.bool (withinS xs ys)) ∧ ∃ m, w' = w.drewN m := by
  have hb1 : xs.length ≤ 9223372036854775807 := Nat.le_trans hx.le hx.big
  have hb2 : ys.length ≤ 9223372036854775807 := Nat.le_trans hy.le hy.big
  obtain ⟨R, hR⟩ : ∃ R, Hid (R = withinS xs ys) := ⟨_, rfl⟩
  rw [← hR.out]
  obtain ⟨bx, ox, px, hcx⟩ := hx.at_
  obtain ⟨b2, oy, py, hcy⟩ := hy.at_
  by_cases hl : ys.length ≤ xs.length
  · generalize hn : xs.length = n at *
    generalize hm : ys.length = k at *
    have Hn := hid_in hn
    have Hm := hid_in hm
    have Hl := hid_in hl
    have HCX := hid_in hcx
    have HCY := hid_in hcy
    have HPX := hid_in px
    have HPY := hid_in py
    have hd : ¬ (n < k) := by omega
    clear hn hm hcx hcy px py hx hy
    go_enter Try.func21, Try.ntmps21
    go_wp2_with fail
    go_loopw [5] (fun vi w' => Hid (∃ m, w' = w.drewN m) ∧ ∃ i : Nat, i ≤ k ∧ vi = .int .i64 (i : Int) ∧ Hid (xs.take i = ys.take i)) (fun vi _ => k - (intOf vi).toNat)
    case atStart => exact ⟨⟨0, rfl⟩, 0, by omega, rfl, rfl⟩
    case round =>
      obtain ⟨hm, i, hi, rfl, heq⟩ := hrel
      by_cases hlt : i < k
      · obtain ⟨x, hxi⟩ : ∃ d, xs[i]? = some d := ⟨_, List.getElem?_eq_getElem (by rw [Hn.out]; have := Hl.out; omega)⟩
        obtain ⟨y, hyi⟩ : ∃ d, ys[i]? = some d := ⟨_, List.getElem?_eq_getElem (by rw [Hm.out]; exact hlt)⟩
        have cx : wr.cell? ⟨bx, ox + i, none⟩ = some (.string (B x)) := by obtain ⟨m, hw⟩ := hm.out; rw [hw]; exact HCX.out i x m hxi
        have cy : wr.cell? ⟨b2, oy + i, none⟩ = some (.string (B y)) := by obtain ⟨m, hw⟩ := hm.out; rw [hw]; exact HCY.out i y m hyi
        obtain rfl := HPX.out (by rintro rfl; simp at hxi)
        obtain rfl := HPY.out (by rintro rfl; simp at hyi)
        have tx := toL x
        have ty := toL y
        generalize B x = sx at cx tx
        generalize B y = sy at cy ty
        have HX := hid_in hxi
        have HY := hid_in hyi
        clear hxi hyi
        go_wp2_with fail
        go_region
        go_wp2
        · have hne : x ≠ y := by have h : (!x == y) = true := by assumption
                                 simpa using h
          go_ret
          refine ⟨congrArg (fun z => Ending.returned (Value.bool z)) (Eq.trans ?_ hR.out.symm), drew_ex hm.out⟩
          symm
          refine decide_eq_false ?_
          rintro ⟨_, he⟩
          have h1 : (xs.take ys.length)[i]? = ys[i]? := by rw [he]
          rw [List.getElem?_take, if_pos (by rw [Hm.out]; exact hlt)] at h1
          have := HX.out.symm.trans (h1.trans HY.out)
          exact hne (by simpa using this)
        · have he : x = y := by have h : (!x == y) = false := by assumption
                                simpa using h
          have hsn : Hid (xs.take (i + 1) = ys.take (i + 1)) := by
            show _ = _
            rw [take_snoc HX.out, take_snoc HY.out, heq.out, he]
          first
            | exact ⟨⟨drew_ex hm.out, i + 1, by omega, by go_num, hsn⟩, by simp [intOf]; omega⟩
            | (go_roundw
               case rel =>
                 go_light
                 exact ⟨drew_ex hm.out, i + 1, by omega, by go_num, hsn⟩
               case measure => simp [intOf]; omega)
      · have hin : i = k := by omega
        subst hin
        go_wp2_with fail
        go_ret
        refine ⟨congrArg (fun z => Ending.returned (Value.bool z)) (Eq.trans ?_ hR.out.symm), hm.out⟩
        symm
        refine decide_eq_true ?_
        have := heq.out
        refine ⟨by rw [Hn.out, Hm.out]; exact Hl.out, ?_⟩
        rw [Hm.out, this, List.take_of_length_le (by have := Hm.out; omega)]
  · have HL := hid_in hl
    have hlt : xs.length < ys.length := by omega
    have HN : Hid (false = R) := by show _ = _; rw [hR.out]; symm; refine decide_eq_false ?_; rintro ⟨h, _⟩; exact hl h
    clear hl hx hy hcx hcy px py
    generalize xs.length = n at *
    generalize ys.length = k at *
    go_enter Try.func21, Try.ntmps21
    go_wp2_with fail
    go_ret
    refine ⟨congrArg (fun z => Ending.returned (Value.bool z)) (Eq.trans ?_ HN.out), 0, rfl⟩
    rfl

end Go.Proofs.Ytodfdinocnhaoaa
