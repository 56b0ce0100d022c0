/-
  The walks of the program's Within and Compare, of the reference's Compare. The contracts again, over values that read as names.
-/
import Derived.Test.YtngehkmdanhgpaaGreatQ00
import Derived.Test.YtngehkmdanhgpaaGreatQ01
import Derived.Test.YtngehkmdanhgpaaGreatQ02
namespace Go.Proofs.YtngehkmdanhgpaaGreat.Vp
open Go.RowKit
theorem map_B_inj {xs ys : List Str} : xs.map B = ys.map B ↔ xs = ys := by
  constructor
  · intro h
    have := congrArg (List.map bl) h
    simpa [List.map_map, Function.comp_def, bl_B] using this
  · rintro rfl; rfl
theorem equal_any (xs ys : List Str) (p q : Option Addr) (c1 c2 : Nat) (w : World) (hx : Rd w p xs c1) (hy : Rd w q ys c2) :
    Calls Tryz.prog 103 #[.slice p xs.length c1, .slice q ys.length c2] w fun e w' => e = .returned (.bool (decide (xs = ys))) ∧ ∃ m, w' = w.drewN m := by
  by_cases hl : xs.length = ys.length
  · by_cases h0 : xs = []
    · subst h0
      have hy0 : ys = [] := List.eq_nil_of_length_eq_zero hl.symm
      subst hy0
      exact (Tryz.slices_Equal_string_empty p q c1 0 c2 w (by omega)).mono fun e w' ⟨he, hw⟩ => ⟨by rw [he]; rfl, 0, hw⟩
    · have h1 : ys ≠ [] := by rintro rfl; exact h0 (List.eq_nil_of_length_eq_zero hl)
      obtain ⟨b1, o1, hp1, hc1⟩ := hx.cells
      obtain ⟨b2, o2, hp2, hc2⟩ := hy.cells
      obtain ⟨rfl, _⟩ := hp1 h0
      obtain ⟨rfl, _⟩ := hp2 h1
      have get : ∀ (zs : List Str) (j : Nat), j < (zs.map B).length → ∃ z, zs[j]? = some z ∧ (zs.map B).getD j ByteArray.empty = B z := by
        intro zs j hj
        have hj2 : j < zs.length := by simpa using hj
        refine ⟨zs[j], List.getElem?_eq_getElem hj2, ?_⟩
        simp [List.getD_eq_getElem?_getD, hj2]
      refine (Tryz.slices_Equal_string b1 o1 xs.length c1 b2 o2 ys.length c2 (xs.map B) (ys.map B) w (by simp) (by simp) (Nat.le_trans hx.le hx.big) (Nat.le_trans hy.le hy.big)
        (fun j hj => by obtain ⟨z, h1, h2⟩ := get xs j hj; rw [h2]; exact hc1 j z h1) (fun j hj => by obtain ⟨z, h1, h2⟩ := get ys j hj; rw [h2]; exact hc2 j z h1)).mono fun e w' ⟨he, hw⟩ => ⟨?_, hw⟩
      rw [he, List.take_of_length_le (by simp), List.take_of_length_le (by simp)]
      simp only [map_B_inj]
  · exact (Tryz.slices_Equal_string_lens p q xs.length c1 ys.length c2 w hl).mono fun e w' ⟨he, hw⟩ => ⟨by rw [he, decide_eq_false (by rintro rfl; exact hl rfl)], 0, hw⟩
set_option maxHeartbeats 400000 in
set_option maxRecDepth 100000 in
theorem within_any (xs ys : List Str) (p q : Option Addr) (c1 c2 : Nat) (w : World) (hx : Rd w p xs c1) (hy : Rd w q ys c2) :
    Calls Tryz.prog 78 #[.slice p xs.length c1, .slice q ys.length c2] w fun e w' => e = .returned (.bool (withinS xs ys)) ∧ ∃ m, w' = w.drewN m := by
  have hb1 : xs.length ≤ 9223372036854775807 := Nat.le_trans hx.le hx.big
  have hb2 : ys.length ≤ 9223372036854775807 := Nat.le_trans hy.le hy.big
  by_cases hl : ys.length ≤ xs.length
  · have HE := hid_in (equal_any (xs.take ys.length) ys p q c1 c2 w (hx.take _ hl) hy)
    have hW : withinS xs ys = decide (xs.take ys.length = ys) := by unfold withinS; simp [hl]
    rw [hW]
    rw [List.length_take, Nat.min_eq_left hl] at HE
    have hc := hx.le
    have hcb := hx.big
    have hnil := hx.nil
    clear hW hx hy
    generalize decide (xs.take ys.length = ys) = R at HE ⊢
    generalize hn : xs.length = n at *
    generalize ys.length = k at *
    have hgeq : (k : Int) ≤ n := by omega
    have hkc : (k : Int) ≤ c1 := by omega
    cases p with
    | none =>
      obtain ⟨h1, h2⟩ := hnil rfl
      subst h1 h2
      simp at hn
      subst hn
      obtain rfl : k = 0 := by omega
      go_enter Tryz.func78, Tryz.ntmps78
      go_wp2_with (go_at_call 103; refine HE.out.mono ?_; rintro e w' ⟨rfl, hw⟩; have HW := hid_in hw; clear hw)
      go_ret
      exact ⟨rfl, HW.out⟩
    | some a =>
      clear hnil hn
      go_enter Tryz.func78, Tryz.ntmps78
      go_wp2_with (go_at_call 103; refine HE.out.mono ?_; rintro e w' ⟨rfl, hw⟩; have HW := hid_in hw; clear hw)
      go_ret
      exact ⟨rfl, HW.out⟩
  · have hW : withinS xs ys = false := by unfold withinS; exact decide_eq_false (fun h => hl h.1)
    rw [hW]
    clear hx hy hW
    generalize xs.length = n at *
    generalize ys.length = k at *
    have hlt : n < k := by omega
    go_enter Tryz.func78, Tryz.ntmps78
    go_wp2_with fail
    go_ret
    exact ⟨rfl, 0, rfl⟩
/-- at the first place at which they differ; if there is none, the shorter one comes first -/
def lexC {α : Type} (c : α → α → Int) : List α → List α → Int
  | [], [] => 0
  | [], _ :: _ => -1
  | _ :: _, [] => 1
  | x :: xs, y :: ys => if c x y = 0 then lexC c xs ys else c x y
structure IsCmp {α : Type} (c : α → α → Int) : Prop where
  three : ∀ x y, c x y = -1 ∨ c x y = 0 ∨ c x y = 1
  zero : ∀ x y, c x y = 0 ↔ x = y
  turn : ∀ x y, c y x = - c x y
  trans : ∀ x y z, c x y < 0 → c y z < 0 → c x z < 0
theorem lexC_is {α : Type} {c : α → α → Int} (h : IsCmp c) : IsCmp (lexC c) := by
  refine ⟨?_, ?_, ?_, ?_⟩
  · intro x
    induction x with
    | nil => intro y; cases y <;> simp [lexC]
    | cons a x ih =>
      intro y
      cases y with
      | nil => simp [lexC]
      | cons b y =>
        unfold lexC
        split
        · exact ih y
        · exact h.three a b
  · intro x
    induction x with
    | nil => intro y; cases y <;> simp [lexC]
    | cons a x ih =>
      intro y
      cases y with
      | nil => simp [lexC]
      | cons b y =>
        unfold lexC
        split
        · rename_i h0
          rw [ih y, (h.zero a b).1 h0]; simp
        · rename_i h0
          constructor
          · intro e; exact absurd e h0
          · intro e; simp at e; exact absurd ((h.zero a b).2 e.1) h0
  · intro x
    induction x with
    | nil => intro y; cases y <;> simp [lexC]
    | cons a x ih =>
      intro y
      cases y with
      | nil => simp [lexC]
      | cons b y =>
        have ht := h.turn a b
        unfold lexC
        by_cases h0 : c a b = 0
        · rw [if_pos h0, if_pos (by rw [ht, h0]; rfl)]; exact ih y
        · rw [if_neg h0, if_neg (by rw [ht]; omega)]; exact ht
  · intro x
    induction x with
    | nil =>
      intro y z h1 h2
      cases z with
      | nil => cases y <;> simp [lexC] at h1 h2
      | cons e z => simp [lexC]
    | cons a x ih =>
      intro y z h1 h2
      cases y with
      | nil => simp [lexC] at h1
      | cons b y =>
        cases z with
        | nil => simp [lexC] at h2
        | cons e z =>
          unfold lexC at h1 h2 ⊢
          by_cases h3 : c a b = 0
          · have hab := (h.zero a b).1 h3
            subst hab
            rw [if_pos h3] at h1
            by_cases h4 : c a e = 0
            · rw [if_pos h4] at h2 ⊢; exact ih y z h1 h2
            · rw [if_neg h4] at h2 ⊢; exact h2
          · rw [if_neg h3] at h1
            by_cases h4 : c b e = 0
            · have hbe := (h.zero b e).1 h4
              subst hbe
              rw [if_neg h3]; exact h1
            · rw [if_neg h4] at h2
              have := h.trans a b e h1 h2
              rw [if_neg (by omega)]; exact this
theorem lexC_pre {α : Type} {c : α → α → Int} (h : IsCmp c) (zs xs ys : List α) : lexC c (zs ++ xs) (zs ++ ys) = lexC c xs ys := by
  induction zs with
  | nil => rfl
  | cons z zs ih => simp only [List.cons_append, lexC]; rw [if_pos ((h.zero z z).2 rfl)]; exact ih
def byteC (a b : UInt8) : Int := if a < b then -1 else if a = b then 0 else 1
theorem byteC_is : IsCmp byteC := by
  refine ⟨?_, ?_, ?_, ?_⟩
  · intro x y; unfold byteC
    by_cases h : x < y
    · simp [h]
    · by_cases h2 : x = y <;> simp [h, h2]
  · intro x y; unfold byteC
    split
    · rename_i h; constructor
      · intro e; cases e
      · rintro rfl; exact absurd h (by simp)
    · split <;> simp_all
  · intro x y; unfold byteC
    by_cases h1 : x < y
    · have h2 : ¬ y < x := by rw [UInt8.lt_iff_toNat_lt] at *; omega
      have h3 : ¬ y = x := by rintro rfl; exact h2 h1
      simp [h1, h2, h3]
    · by_cases h2 : y < x
      · have h3 : ¬ x = y := by rintro rfl; exact h1 h2
        simp [h1, h2, h3]
      · have h3 : x = y := by apply UInt8.toNat.inj; rw [UInt8.lt_iff_toNat_lt] at *; omega
        simp [h3]
  · intro x y z h1 h2
    unfold byteC at *
    have h3 : x < y := by
      by_cases h : x < y
      · exact h
      · rw [if_neg h] at h1; split at h1 <;> omega
    have h4 : y < z := by
      by_cases h : y < z
      · exact h
      · rw [if_neg h] at h2; split at h2 <;> omega
    rw [if_pos (by rw [UInt8.lt_iff_toNat_lt] at *; omega)]; omega
/-- which text comes first, byte by byte -/
def cmpS (x y : Str) : Int := lexC byteC x y
/-- which path comes first, name by name -/
def cmpL (xs ys : List Str) : Int := lexC cmpS xs ys
theorem cmpS_is : IsCmp cmpS := lexC_is byteC_is
theorem cmpL_is : IsCmp cmpL := lexC_is cmpS_is
theorem less_cmp (x y : Str) : Op.bytesLess x y = decide (cmpS x y = -1) := by
  induction x generalizing y with
  | nil => cases y <;> simp [Op.bytesLess, cmpS, lexC]
  | cons a x ih =>
    cases y with
    | nil => simp [Op.bytesLess, cmpS, lexC]
    | cons b y =>
      unfold Op.bytesLess
      rw [ih y]
      have e0 : cmpS (a :: x) (b :: y) = if byteC a b = 0 then cmpS x y else byteC a b := rfl
      rw [e0]
      by_cases h1 : a < b
      · have hb : byteC a b = -1 := by unfold byteC; rw [if_pos h1]
        simp [h1, hb]
      · by_cases h2 : a = b
        · have hb : byteC a b = 0 := by unfold byteC; rw [if_neg h1, if_pos h2]
          subst h2
          rw [hb, if_pos rfl]
          simp
        · have hb : byteC a b = 1 := by unfold byteC; rw [if_neg h1, if_neg h2]
          simp [h1, h2, hb]
set_option maxHeartbeats 400000 in
set_option maxRecDepth 100000 in
theorem cmp_any (x y : Str) (w : World) : Calls Tryz.prog 133 #[.string (B x), .string (B y)] w fun e w' => e = .returned (.int .i64 (cmpS x y)) ∧ w' = w := by
  have hx := toL x
  have hy := toL y
  have HL := hid_in (less_cmp x y)
  have H3 := hid_in (cmpS_is.three x y)
  have HZ := hid_in (cmpS_is.zero x y)
  generalize B x = s at hx ⊢
  generalize B y = t at hy ⊢
  generalize cmpS x y = c at HL H3 HZ ⊢
  go_enter Tryz.func133, Tryz.ntmps133
  go_wp2
  · have h : Op.bytesLess x y = true := by assumption
    rw [HL.out, decide_eq_true_iff] at h
    go_ret
    refine ⟨congrArg (fun z => Ending.returned (Value.int .i64 z)) ?_, rfl⟩
    exact h.symm
  · have h : Op.bytesLess x y = false := by assumption
    have h2 : (!x == y) = true := by assumption
    rw [HL.out, decide_eq_false_iff_not] at h
    have h3 : c ≠ 0 := fun e => by rw [HZ.out] at e; subst e; simp at h2
    go_ret
    refine ⟨congrArg (fun z => Ending.returned (Value.int .i64 z)) ?_, rfl⟩
    show (1 : Int) = c
    have := H3.out
    omega
  · have h2 : (!x == y) = false := by assumption
    have h3 : c = 0 := by rw [HZ.out]; simpa using h2
    go_ret
    refine ⟨congrArg (fun z => Ending.returned (Value.int .i64 z)) ?_, rfl⟩
    exact h3.symm
theorem take_drop_eq {xs ys : List Str} {i : Nat} (h : xs.take i = ys.take i) : cmpL xs ys = cmpL (xs.drop i) (ys.drop i) := by
  conv => lhs; rw [← List.take_append_drop i xs, ← List.take_append_drop i ys, h]
  exact lexC_pre cmpS_is _ _ _
theorem drop_at {xs : List Str} {i : Nat} {x : Str} (h : xs[i]? = some x) : xs.drop i = x :: xs.drop (i + 1) := by
  obtain ⟨hi, rfl⟩ := List.getElem?_eq_some_iff.1 h
  exact List.drop_eq_getElem_cons hi
theorem cmpL_at {xs ys : List Str} {i : Nat} {x y : Str} (h : xs.take i = ys.take i) (hx : xs[i]? = some x) (hy : ys[i]? = some y) (hne : cmpS x y ≠ 0) : cmpL xs ys = cmpS x y := by
  rw [take_drop_eq h, drop_at hx, drop_at hy]
  unfold cmpL lexC
  rw [if_neg hne]
theorem cmpL_more {xs ys : List Str} {i : Nat} {x : Str} (h : xs.take i = ys.take i) (hx : xs[i]? = some x) (hy : ys.length ≤ i) : cmpL xs ys = 1 := by
  rw [take_drop_eq h, drop_at hx, List.drop_of_length_le hy]; rfl
theorem cmpL_less {xs ys : List Str} {i : Nat} {y : Str} (h : xs.take i = ys.take i) (hx : xs.length ≤ i) (hy : ys[i]? = some y) : cmpL xs ys = -1 := by
  rw [take_drop_eq h, drop_at hy, List.drop_of_length_le hx]; rfl
theorem cmpL_same {xs ys : List Str} {i : Nat} (h : xs.take i = ys.take i) (hx : xs.length ≤ i) (hy : ys.length ≤ i) : cmpL xs ys = 0 := by
  rw [take_drop_eq h, List.drop_of_length_le hx, List.drop_of_length_le hy]; rfl
set_option maxHeartbeats 400000 in
set_option maxRecDepth 100000 in
theorem lcompare_any (xs ys : List Str) (p q : Option Addr) (c1 c2 : Nat) (w : World) (hx : Rd w p xs c1) (hy : Rd w q ys c2) :
    Calls Tryz.prog 114 #[.slice p xs.length c1, .slice q ys.length c2] w fun e w' => e = .returned (.int .i64 (cmpL xs ys)) ∧ w' = w := by
  have hb1 : xs.length ≤ 9223372036854775807 := Nat.le_trans hx.le hx.big
  have hb2 : ys.length ≤ 9223372036854775807 := Nat.le_trans hy.le hy.big
  obtain ⟨R, hR⟩ : ∃ R, Hid (R = cmpL xs ys) := ⟨_, rfl⟩
  rw [← hR.out]
  obtain ⟨bx, ox, px, hcx⟩ := hx.at_
  obtain ⟨b2, oy, py, hcy⟩ := hy.at_
  generalize hn : xs.length = n at *
  generalize hm : ys.length = k at *
  have Hn := hid_in hn
  have Hm := hid_in hm
  have HCX := hid_in hcx
  have HCY := hid_in hcy
  have HPX := hid_in px
  have HPY := hid_in py
  clear hn hm hcx hcy px py hx hy
  go_enter Tryz.func114, Tryz.ntmps114
  go_wp2_with fail
  go_loopw [11] (fun vi w' => w' = w ∧ ∃ i : Nat, i ≤ n ∧ vi = .int .i64 (i : Int) ∧ Hid (xs.take i = ys.take i ∧ i ≤ k)) (fun vi _ => n - (intOf vi).toNat)
  case atStart => exact ⟨rfl, 0, by omega, rfl, rfl, by omega⟩
  case round =>
    obtain ⟨rfl, i, hi, rfl, heq⟩ := hrel
    by_cases hlt : i < n
    · obtain ⟨x, hxi⟩ : ∃ d, xs[i]? = some d := ⟨_, List.getElem?_eq_getElem (by rw [Hn.out]; exact hlt)⟩
      have cx : wr.cell? ⟨bx, ox + i, none⟩ = some (.string (B x)) := HCX.out i x 0 hxi
      obtain rfl := HPX.out (by rintro rfl; simp at hxi)
      have HX := hid_in hxi
      clear hxi
      by_cases hk : i < k
      · obtain ⟨y, hyi⟩ : ∃ d, ys[i]? = some d := ⟨_, List.getElem?_eq_getElem (by rw [Hm.out]; exact hk)⟩
        have cy : wr.cell? ⟨b2, oy + i, none⟩ = some (.string (B y)) := HCY.out i y 0 hyi
        obtain rfl := HPY.out (by rintro rfl; simp at hyi)
        have HY := hid_in hyi
        have HC := hid_in (cmp_any x y)
        have HZ := hid_in (cmpS_is.zero x y)
        obtain ⟨c, hc⟩ : ∃ c, Hid (c = cmpS x y) := ⟨_, rfl⟩
        rw [← hc.out] at HC HZ
        clear hyi
        by_cases hc0 : c = 0
        · have hxy := hid_in (HZ.out.1 hc0)
          subst hc0
          clear HZ hc
          go_wp2_with (go_at_call 133; refine (HC.out _).mono ?_; rintro e w' ⟨rfl, hw⟩; obtain rfl := hw.symm)
          have hsn : Hid (xs.take (i + 1) = ys.take (i + 1) ∧ i + 1 ≤ k) := by
            refine ⟨?_, by omega⟩
            rw [take_snoc HX.out, take_snoc HY.out, heq.out.1, hxy.out]
          go_roundw
          case rel =>
            go_light
            exact ⟨trivial, i + 1, by omega, by go_num, hsn⟩
          case measure => simp [intOf]; omega
        · have hc1 : (c != 0) = true := by simpa using hc0
          have HC0 := hid_in hc0
          clear HZ hc0
          go_wp2_with (go_at_call 133; refine (HC.out _).mono ?_; rintro e w' ⟨rfl, hw⟩; obtain rfl := hw.symm)
          go_ret
          refine ⟨congrArg (fun z => Ending.returned (Value.int .i64 z)) (Eq.trans ?_ hR.out.symm), rfl⟩
          rw [cmpL_at heq.out.1 HX.out HY.out (by rw [← hc.out]; exact HC0.out)]
          exact hc.out
      · have hki : k ≤ i := by omega
        go_wp2_with fail
        go_ret
        refine ⟨congrArg (fun z => Ending.returned (Value.int .i64 z)) (Eq.trans ?_ hR.out.symm), rfl⟩
        rw [cmpL_more heq.out.1 HX.out (by rw [Hm.out]; exact hki)]
    · have hin : i = n := by omega
      subst hin
      by_cases hk : i < k
      · obtain ⟨y, hyi⟩ : ∃ d, ys[i]? = some d := ⟨_, List.getElem?_eq_getElem (by rw [Hm.out]; omega)⟩
        have HY := hid_in hyi
        clear hyi
        go_wp2_with fail
        go_ret
        refine ⟨congrArg (fun z => Ending.returned (Value.int .i64 z)) (Eq.trans ?_ hR.out.symm), rfl⟩
        rw [cmpL_less heq.out.1 (by rw [Hn.out]; omega) HY.out]
      · go_wp2_with fail
        go_ret
        refine ⟨congrArg (fun z => Ending.returned (Value.int .i64 z)) (Eq.trans ?_ hR.out.symm), rfl⟩
        rw [cmpL_same heq.out.1 (by rw [Hn.out]; omega) (by rw [Hm.out]; omega)]
set_option maxHeartbeats 400000 in
set_option maxRecDepth 100000 in
theorem compare_any (xs ys : List Str) (p q : Option Addr) (c1 c2 : Nat) (w : World) (hx : Rd w p xs c1) (hy : Rd w q ys c2) :
    Calls Tryz.prog 81 #[.slice p xs.length c1, .slice q ys.length c2] w fun e w' => e = .returned (.int .i64 (cmpL xs ys)) ∧ w' = w := by
  have HC := hid_in (lcompare_any xs ys p q c1 c2 w hx hy)
  clear hx hy
  go_enter Tryz.func81, Tryz.ntmps81
  go_wp2_with (go_at_call 114; refine HC.out.mono ?_; rintro e w' ⟨rfl, hw⟩; obtain rfl := hw.symm)
  go_ret
  exact ⟨rfl, rfl⟩
set_option maxHeartbeats 400000 in
set_option maxRecDepth 100000 in
theorem rcompare_any (xs ys : List Str) (p q : Option Addr) (c1 c2 : Nat) (w : World) (hx : Rd w p xs c1) (hy : Rd w q ys c2) :
    Calls Tryz.prog 21 #[.slice p xs.length c1, .slice q ys.length c2] w fun e w' => e = .returned (.int .i64 (cmpL xs ys)) ∧ ∃ m, w' = w.drewN m := by
  have hb1 : xs.length ≤ 9223372036854775807 := Nat.le_trans hx.le hx.big
  have hb2 : ys.length ≤ 9223372036854775807 := Nat.le_trans hy.le hy.big
  obtain ⟨R, hR⟩ : ∃ R, Hid (R = cmpL xs ys) := ⟨_, rfl⟩
  rw [← hR.out]
  obtain ⟨bx, ox, px, hcx⟩ := hx.at_
  obtain ⟨b2, oy, py, hcy⟩ := hy.at_
  generalize hn : xs.length = n at *
  generalize hm : ys.length = k at *
  have Hn := hid_in hn
  have Hm := hid_in hm
  have HCX := hid_in hcx
  have HCY := hid_in hcy
  have HPX := hid_in px
  have HPY := hid_in py
  clear hn hm hcx hcy px py hx hy
  go_enter Tryz.func21, Tryz.ntmps21
  go_wp2_with fail
  go_loopw [5] (fun vi w' => Hid (∃ m, w' = w.drewN m) ∧ ∃ i : Nat, i ≤ n ∧ i ≤ k ∧ vi = .int .i64 (i : Int) ∧ Hid (xs.take i = ys.take i)) (fun vi _ => n - (intOf vi).toNat)
  case atStart => exact ⟨⟨0, rfl⟩, 0, by omega, by omega, rfl, rfl⟩
  case round =>
    obtain ⟨hm, i, hi, hik, rfl, heq⟩ := hrel
    by_cases hlt : i < n ∧ i < k
    · obtain ⟨hin, hk⟩ := hlt
      obtain ⟨x, hxi⟩ : ∃ d, xs[i]? = some d := ⟨_, List.getElem?_eq_getElem (by rw [Hn.out]; exact hin)⟩
      obtain ⟨y, hyi⟩ : ∃ d, ys[i]? = some d := ⟨_, List.getElem?_eq_getElem (by rw [Hm.out]; exact hk)⟩
      have cx : wr.cell? ⟨bx, ox + i, none⟩ = some (.string (B x)) := by obtain ⟨m, hw⟩ := hm.out; rw [hw]; exact HCX.out i x m hxi
      have cy : wr.cell? ⟨b2, oy + i, none⟩ = some (.string (B y)) := by obtain ⟨m, hw⟩ := hm.out; rw [hw]; exact HCY.out i y m hyi
      obtain rfl := HPX.out (by rintro rfl; simp at hxi)
      obtain rfl := HPY.out (by rintro rfl; simp at hyi)
      have HX := hid_in hxi
      have HY := hid_in hyi
      have HL := hid_in (less_cmp x y)
      have H3 := hid_in (cmpS_is.three x y)
      have HZ := hid_in (cmpS_is.zero x y)
      have HAT := hid_in (cmpL_at heq.out hxi hyi)
      have tx := toL x
      have ty := toL y
      generalize B x = sx at cx tx
      generalize B y = sy at cy ty
      generalize cmpS x y = c at HL H3 HZ HAT
      clear hxi hyi
      cases hl : Op.bytesLess x y
      · have hl2 := hid_in (HL.out.symm.trans hl)
        cases he : (x == y)
        · have he2 := hid_in he
          go_wp2_with fail
          go_region
          go_wp2_with fail
          go_region
          go_wp2
          go_ret
          refine ⟨congrArg (fun z => Ending.returned (Value.int .i64 z)) (Eq.trans ?_ hR.out.symm), drew_ex (drew_ex hm.out)⟩
          have h1 : c ≠ -1 := by simpa using hl2.out
          have h0 : c ≠ 0 := fun e => by rw [HZ.out] at e; subst e; simpa using he2.out
          rw [HAT.out h0]
          show (1 : Int) = c
          have := H3.out
          omega
        · have hxy := hid_in (beq_iff_eq.1 he)
          have hsn : Hid (xs.take (i + 1) = ys.take (i + 1)) := by
            show _ = _
            rw [take_snoc HX.out, take_snoc HY.out, heq.out, hxy.out]
          go_wp2_with fail
          go_region
          go_wp2_with fail
          go_region
          go_wp2
          exact ⟨⟨drew_ex (drew_ex hm.out), i + 1, by omega, by omega, by go_num, hsn⟩, by simp [intOf]; omega⟩
      · have hl2 := hid_in (HL.out.symm.trans hl)
        go_wp2_with fail
        go_region
        go_wp2
        go_ret
        refine ⟨congrArg (fun z => Ending.returned (Value.int .i64 z)) (Eq.trans ?_ hR.out.symm), drew_ex hm.out⟩
        have h1 : c = -1 := by simpa using hl2.out
        rw [HAT.out (by omega)]
        exact h1.symm
    · by_cases h1 : i < n
      · have h2 : k = i := by omega
        subst h2
        obtain ⟨x, hxi⟩ : ∃ d, xs[k]? = some d := ⟨_, List.getElem?_eq_getElem (by rw [Hn.out]; exact h1)⟩
        have HX := hid_in hxi
        clear hxi hlt
        have h3 : ¬ n < k := by omega
        go_wp2_with fail
        go_ret
        refine ⟨congrArg (fun z => Ending.returned (Value.int .i64 z)) (Eq.trans ?_ hR.out.symm), hm.out⟩
        rw [cmpL_more heq.out HX.out (by rw [Hm.out]; omega)]
      · have h2 : n = i := by omega
        subst h2
        clear hlt
        by_cases h3 : n < k
        · obtain ⟨y, hyi⟩ : ∃ d, ys[n]? = some d := ⟨_, List.getElem?_eq_getElem (by rw [Hm.out]; omega)⟩
          have HY := hid_in hyi
          clear hyi
          go_wp2_with fail
          go_ret
          refine ⟨congrArg (fun z => Ending.returned (Value.int .i64 z)) (Eq.trans ?_ hR.out.symm), hm.out⟩
          rw [cmpL_less heq.out (by rw [Hn.out]; omega) HY.out]
        · have h4 : k = n := by omega
          subst h4
          go_wp2_with fail
          go_ret
          refine ⟨congrArg (fun z => Ending.returned (Value.int .i64 z)) (Eq.trans ?_ hR.out.symm), hm.out⟩
          rw [cmpL_same heq.out (by rw [Hn.out]; omega) (by rw [Hm.out]; omega)]
end Go.Proofs.YtngehkmdanhgpaaGreat.Vp
namespace Go.Proofs.YtngehkmdanhgpaaGreat.Vp
open Go.RowKit
/-- the value reads as these names -/
def Val (w : World) (v : Value) (xs : List Str) : Prop := ∃ p cap, v = .slice p xs.length cap ∧ Rd w p xs cap
theorem Rd.val {w : World} {p : Option Addr} {xs : List Str} {cap : Nat} (h : Rd w p xs cap) : Val w (.slice p xs.length cap) xs := ⟨p, cap, rfl, h⟩
theorem Nms.val {W : World} {base : Nat} {v : Value} {xs : List Str} (h : Nms W base v xs) : Val W v xs := h.rd
theorem Rd.drew {w w' : World} {p : Option Addr} {xs : List Str} {cap : Nat} (h : Rd w p xs cap) (hd : ∃ m, w' = w.drewN m) : Rd w' p xs cap := by
  obtain ⟨m, rfl⟩ := hd
  exact h.below (below_drewN (Below.refl _ _) m)
theorem Rd.none (w : World) : Rd w none [] 0 := ⟨by simp, by omega, fun _ => ⟨rfl, rfl⟩, 0, 0, fun h => absurd rfl h, fun j x hx => by simp at hx⟩
theorem Val.none (w : World) : Val w (.slice none 0 0) [] := ⟨_, _, rfl, Rd.none w⟩
theorem Val.below {w w' : World} {v : Value} {xs : List Str} (h : Val w v xs) (hb : Below w.heap.size w w') : Val w' v xs := by
  obtain ⟨p, cap, rfl, hr⟩ := h; exact ⟨p, cap, rfl, hr.below hb⟩
theorem Val.drew {w w' : World} {v : Value} {xs : List Str} (h : Val w v xs) (hd : ∃ m, w' = w.drewN m) : Val w' v xs := by
  obtain ⟨p, cap, rfl, hr⟩ := h; exact ⟨p, cap, rfl, hr.drew hd⟩
theorem within_v {xs ys : List Str} {u v : Value} {w : World} (hx : Val w u xs) (hy : Val w v ys) : Calls Tryz.prog 78 #[u, v] w fun e w' => e = .returned (.bool (withinS xs ys)) ∧ ∃ m, w' = w.drewN m := by
  obtain ⟨p, c, rfl, h1⟩ := hx; obtain ⟨q, d, rfl, h2⟩ := hy; exact within_any xs ys p q c d w h1 h2
theorem rwithin_v {xs ys : List Str} {u v : Value} {w : World} (hx : Val w u xs) (hy : Val w v ys) : Calls Tryz.prog 58 #[u, v] w fun e w' => e = .returned (.bool (withinS xs ys)) ∧ ∃ m, w' = w.drewN m := by
  obtain ⟨p, c, rfl, h1⟩ := hx; obtain ⟨q, d, rfl, h2⟩ := hy; exact rwithin_any xs ys p q c d w h1 h2
theorem compare_v {xs ys : List Str} {u v : Value} {w : World} (hx : Val w u xs) (hy : Val w v ys) : Calls Tryz.prog 81 #[u, v] w fun e w' => e = .returned (.int .i64 (cmpL xs ys)) ∧ w' = w := by
  obtain ⟨p, c, rfl, h1⟩ := hx; obtain ⟨q, d, rfl, h2⟩ := hy; exact compare_any xs ys p q c d w h1 h2
theorem rcompare_v {xs ys : List Str} {u v : Value} {w : World} (hx : Val w u xs) (hy : Val w v ys) : Calls Tryz.prog 21 #[u, v] w fun e w' => e = .returned (.int .i64 (cmpL xs ys)) ∧ ∃ m, w' = w.drewN m := by
  obtain ⟨p, c, rfl, h1⟩ := hx; obtain ⟨q, d, rfl, h2⟩ := hy; exact rcompare_any xs ys p q c d w h1 h2
theorem show_v {xs : List Str} {u : Value} {w : World} (hx : Val w u xs) (hl : Lib.lens xs + xs.length ≤ 140737488355328) : Calls Tryz.prog 51 #[u] w fun e w' => e = .returned (.string (B (showS xs))) ∧ Below w.heap.size w w' := by
  obtain ⟨p, c, rfl, h1⟩ := hx; exact show_any xs p c w h1 (by omega) (by have := join_le xs; omega)
end Go.Proofs.YtngehkmdanhgpaaGreat.Vp
