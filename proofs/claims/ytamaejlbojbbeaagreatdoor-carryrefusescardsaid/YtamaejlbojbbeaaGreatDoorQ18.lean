/-
  The walks of the program's Within and Compare, of the reference's Compare. The contracts again, over values that read as names. Paths of a tree in memory, and what becomes of them. kindOf; plain facts on walks. addDir: the walk. addDir: the paths that are left, one taken; items.
-/
import Derived.Deep.CutRange
import Derived.Deep.LoopGhost
import Derived.Test.YtamaejlbojbbeaaGreatDoorQ00
import Derived.Test.YtamaejlbojbbeaaGreatDoorQ01
import Derived.Test.YtamaejlbojbbeaaGreatDoorQ02
import Derived.Test.YtamaejlbojbbeaaGreatDoorQ03
import Derived.Test.YtamaejlbojbbeaaGreatDoorQ04
import Derived.Test.YtamaejlbojbbeaaGreatDoorQ05
import Derived.Test.YtamaejlbojbbeaaGreatDoorQ06
import Derived.Test.YtamaejlbojbbeaaGreatDoorQ07
import Derived.Test.YtamaejlbojbbeaaGreatDoorQ08
import Derived.Test.YtamaejlbojbbeaaGreatDoorQ09
import Derived.Test.YtamaejlbojbbeaaGreatDoorQ10
import Derived.Test.YtamaejlbojbbeaaGreatDoorQ11
import Derived.Test.YtamaejlbojbbeaaGreatDoorQ12
import Derived.Test.YtamaejlbojbbeaaGreatDoorQ13
import Derived.Test.YtamaejlbojbbeaaGreatDoorQ14
import Derived.Test.YtamaejlbojbbeaaGreatDoorQ15
import Derived.Test.YtamaejlbojbbeaaGreatDoorQ16
import Derived.Test.YtamaejlbojbbeaaGreatDoorQ17
namespace Go.Proofs.YtamaejlbojbbeaaGreatDoor.Vp
open Go.RowKit
theorem map_B_inj {xs ys : List Str} : xs.map B = ys.map B ↔ xs = ys := by
  constructor
  · intro h
    have := congrArg (List.map bl) h
    simpa [List.map_map, Function.comp_def, bl_B] using this
  · rintro rfl; rfl
theorem equal_any (xs ys : List Str) (p q : Option Addr) (c1 c2 : Nat) (w : World) (hx : Rd w p xs c1) (hy : Rd w q ys c2) :
    Calls Tryz.prog 155 #[.slice p xs.length c1, .slice q ys.length c2] w fun e w' => e = .returned (.bool (decide (xs = ys))) ∧ ∃ m, w' = w.drewN m := by
  by_cases hl : xs.length = ys.length
  · by_cases h0 : xs = []
    · subst h0
      have hy0 : ys = [] := List.eq_nil_of_length_eq_zero hl.symm
      subst hy0
      exact (Tryz.slices_Equal_string_empty p q c1 0 c2 w (by omega)).mono fun e w' ⟨he, hw⟩ => ⟨by rw [he]; rfl, 0, hw⟩
    · have h1 : ys ≠ [] := by rintro rfl; exact h0 (List.eq_nil_of_length_eq_zero hl)
      obtain ⟨b1, o1, hp1, hc1⟩ := hx.cells
      obtain ⟨b2, o2, hp2, hc2⟩ := hy.cells
      obtain ⟨rfl, _⟩ := hp1 h0
      obtain ⟨rfl, _⟩ := hp2 h1
      have get : ∀ (zs : List Str) (j : Nat), j < (zs.map B).length → ∃ z, zs[j]? = some z ∧ (zs.map B).getD j ByteArray.empty = B z := by
        intro zs j hj
        have hj2 : j < zs.length := by simpa using hj
        refine ⟨zs[j], List.getElem?_eq_getElem hj2, ?_⟩
        simp [List.getD_eq_getElem?_getD, hj2]
      refine (Tryz.slices_Equal_string b1 o1 xs.length c1 b2 o2 ys.length c2 (xs.map B) (ys.map B) w (by simp) (by simp) (Nat.le_trans hx.le hx.big) (Nat.le_trans hy.le hy.big)
        (fun j hj => by obtain ⟨z, h1, h2⟩ := get xs j hj; rw [h2]; exact hc1 j z h1) (fun j hj => by obtain ⟨z, h1, h2⟩ := get ys j hj; rw [h2]; exact hc2 j z h1)).mono fun e w' ⟨he, hw⟩ => ⟨?_, hw⟩
      rw [he, List.take_of_length_le (by simp), List.take_of_length_le (by simp)]
      simp only [map_B_inj]
  · exact (Tryz.slices_Equal_string_lens p q xs.length c1 ys.length c2 w hl).mono fun e w' ⟨he, hw⟩ => ⟨by rw [he, decide_eq_false (by rintro rfl; exact hl rfl)], 0, hw⟩
set_option maxHeartbeats 400000 in
set_option maxRecDepth 100000 in
theorem within_any (xs ys : List Str) (p q : Option Addr) (c1 c2 : Nat) (w : World) (hx : Rd w p xs c1) (hy : Rd w q ys c2) :
    Calls Tryz.prog 96 #[.slice p xs.length c1, .slice q ys.length c2] w fun e w' => e = .returned (.bool (withinS xs ys)) ∧ ∃ m, w' = w.drewN m := by
  have hb1 : xs.length ≤ 9223372036854775807 := Nat.le_trans hx.le hx.big
  have hb2 : ys.length ≤ 9223372036854775807 := Nat.le_trans hy.le hy.big
  by_cases hl : ys.length ≤ xs.length
  · have HE := hid_in (equal_any (xs.take ys.length) ys p q c1 c2 w (hx.take _ hl) hy)
    have hW : withinS xs ys = decide (xs.take ys.length = ys) := by unfold withinS; simp [hl]
    rw [hW]
    rw [List.length_take, Nat.min_eq_left hl] at HE
    have hc := hx.le
    have hcb := hx.big
    have hnil := hx.nil
    clear hW hx hy
    generalize decide (xs.take ys.length = ys) = R at HE ⊢
    generalize hn : xs.length = n at *
    generalize ys.length = k at *
    have hgeq : (k : Int) ≤ n := by omega
    have hkc : (k : Int) ≤ c1 := by omega
    cases p with
    | none =>
      obtain ⟨h1, h2⟩ := hnil rfl
      subst h1 h2
      simp at hn
      subst hn
      obtain rfl : k = 0 := by omega
      go_enter Tryz.func96, Tryz.ntmps96
      go_wp2_with (go_at_call 155; refine HE.out.mono ?_; rintro e w' ⟨rfl, hw⟩; have HW := hid_in hw; clear hw)
      go_ret
      exact ⟨rfl, HW.out⟩
    | some a =>
      clear hnil hn
      go_enter Tryz.func96, Tryz.ntmps96
      go_wp2_with (go_at_call 155; refine HE.out.mono ?_; rintro e w' ⟨rfl, hw⟩; have HW := hid_in hw; clear hw)
      go_ret
      exact ⟨rfl, HW.out⟩
  · have hW : withinS xs ys = false := by unfold withinS; exact decide_eq_false (fun h => hl h.1)
    rw [hW]
    clear hx hy hW
    generalize xs.length = n at *
    generalize ys.length = k at *
    have hlt : n < k := by omega
    go_enter Tryz.func96, Tryz.ntmps96
    go_wp2_with fail
    go_ret
    exact ⟨rfl, 0, rfl⟩
/-- at the first place at which they differ; if there is none, the shorter one comes first -/
def lexC {α : Type} (c : α → α → Int) : List α → List α → Int
  | [], [] => 0
  | [], _ :: _ => -1
  | _ :: _, [] => 1
  | x :: xs, y :: ys => if c x y = 0 then lexC c xs ys else c x y
structure IsCmp {α : Type} (c : α → α → Int) : Prop where
  three : ∀ x y, c x y = -1 ∨ c x y = 0 ∨ c x y = 1
  zero : ∀ x y, c x y = 0 ↔ x = y
  turn : ∀ x y, c y x = - c x y
  trans : ∀ x y z, c x y < 0 → c y z < 0 → c x z < 0
theorem lexC_is {α : Type} {c : α → α → Int} (h : IsCmp c) : IsCmp (lexC c) := by
  refine ⟨?_, ?_, ?_, ?_⟩
  · intro x
    induction x with
    | nil => intro y; cases y <;> simp [lexC]
    | cons a x ih =>
      intro y
      cases y with
      | nil => simp [lexC]
      | cons b y =>
        unfold lexC
        split
        · exact ih y
        · exact h.three a b
  · intro x
    induction x with
    | nil => intro y; cases y <;> simp [lexC]
    | cons a x ih =>
      intro y
      cases y with
      | nil => simp [lexC]
      | cons b y =>
        unfold lexC
        split
        · rename_i h0
          rw [ih y, (h.zero a b).1 h0]; simp
        · rename_i h0
          constructor
          · intro e; exact absurd e h0
          · intro e; simp at e; exact absurd ((h.zero a b).2 e.1) h0
  · intro x
    induction x with
    | nil => intro y; cases y <;> simp [lexC]
    | cons a x ih =>
      intro y
      cases y with
      | nil => simp [lexC]
      | cons b y =>
        have ht := h.turn a b
        unfold lexC
        by_cases h0 : c a b = 0
        · rw [if_pos h0, if_pos (by rw [ht, h0]; rfl)]; exact ih y
        · rw [if_neg h0, if_neg (by rw [ht]; omega)]; exact ht
  · intro x
    induction x with
    | nil =>
      intro y z h1 h2
      cases z with
      | nil => cases y <;> simp [lexC] at h1 h2
      | cons e z => simp [lexC]
    | cons a x ih =>
      intro y z h1 h2
      cases y with
      | nil => simp [lexC] at h1
      | cons b y =>
        cases z with
        | nil => simp [lexC] at h2
        | cons e z =>
          unfold lexC at h1 h2 ⊢
          by_cases h3 : c a b = 0
          · have hab := (h.zero a b).1 h3
            subst hab
            rw [if_pos h3] at h1
            by_cases h4 : c a e = 0
            · rw [if_pos h4] at h2 ⊢; exact ih y z h1 h2
            · rw [if_neg h4] at h2 ⊢; exact h2
          · rw [if_neg h3] at h1
            by_cases h4 : c b e = 0
            · have hbe := (h.zero b e).1 h4
              subst hbe
              rw [if_neg h3]; exact h1
            · rw [if_neg h4] at h2
              have := h.trans a b e h1 h2
              rw [if_neg (by omega)]; exact this
theorem lexC_pre {α : Type} {c : α → α → Int} (h : IsCmp c) (zs xs ys : List α) : lexC c (zs ++ xs) (zs ++ ys) = lexC c xs ys := by
  induction zs with
  | nil => rfl
  | cons z zs ih => simp only [List.cons_append, lexC]; rw [if_pos ((h.zero z z).2 rfl)]; exact ih
def byteC (a b : UInt8) : Int := if a < b then -1 else if a = b then 0 else 1
theorem byteC_is : IsCmp byteC := by
  refine ⟨?_, ?_, ?_, ?_⟩
  · intro x y; unfold byteC
    by_cases h : x < y
    · simp [h]
    · by_cases h2 : x = y <;> simp [h, h2]
  · intro x y; unfold byteC
    split
    · rename_i h; constructor
      · intro e; cases e
      · rintro rfl; exact absurd h (by simp)
    · split <;> simp_all
  · intro x y; unfold byteC
    by_cases h1 : x < y
    · have h2 : ¬ y < x := by rw [UInt8.lt_iff_toNat_lt] at *; omega
      have h3 : ¬ y = x := by rintro rfl; exact h2 h1
      simp [h1, h2, h3]
    · by_cases h2 : y < x
      · have h3 : ¬ x = y := by rintro rfl; exact h1 h2
        simp [h1, h2, h3]
      · have h3 : x = y := by apply UInt8.toNat.inj; rw [UInt8.lt_iff_toNat_lt] at *; omega
        simp [h3]
  · intro x y z h1 h2
    unfold byteC at *
    have h3 : x < y := by
      by_cases h : x < y
      · exact h
      · rw [if_neg h] at h1; split at h1 <;> omega
    have h4 : y < z := by
      by_cases h : y < z
      · exact h
      · rw [if_neg h] at h2; split at h2 <;> omega
    rw [if_pos (by rw [UInt8.lt_iff_toNat_lt] at *; omega)]; omega
/-- which text comes first, byte by byte -/
def cmpS (x y : Str) : Int := lexC byteC x y
/-- which path comes first, name by name -/
def cmpL (xs ys : List Str) : Int := lexC cmpS xs ys
theorem cmpS_is : IsCmp cmpS := lexC_is byteC_is
theorem cmpL_is : IsCmp cmpL := lexC_is cmpS_is
theorem less_cmp (x y : Str) : Op.bytesLess x y = decide (cmpS x y = -1) := by
  induction x generalizing y with
  | nil => cases y <;> simp [Op.bytesLess, cmpS, lexC]
  | cons a x ih =>
    cases y with
    | nil => simp [Op.bytesLess, cmpS, lexC]
    | cons b y =>
      unfold Op.bytesLess
      rw [ih y]
      have e0 : cmpS (a :: x) (b :: y) = if byteC a b = 0 then cmpS x y else byteC a b := rfl
      rw [e0]
      by_cases h1 : a < b
      · have hb : byteC a b = -1 := by unfold byteC; rw [if_pos h1]
        simp [h1, hb]
      · by_cases h2 : a = b
        · have hb : byteC a b = 0 := by unfold byteC; rw [if_neg h1, if_pos h2]
          subst h2
          rw [hb, if_pos rfl]
          simp
        · have hb : byteC a b = 1 := by unfold byteC; rw [if_neg h1, if_neg h2]
          simp [h1, h2, hb]
set_option maxHeartbeats 400000 in
set_option maxRecDepth 100000 in
theorem cmp_any (x y : Str) (w : World) : Calls Tryz.prog 189 #[.string (B x), .string (B y)] w fun e w' => e = .returned (.int .i64 (cmpS x y)) ∧ w' = w := by
  have hx := toL x
  have hy := toL y
  have HL := hid_in (less_cmp x y)
  have H3 := hid_in (cmpS_is.three x y)
  have HZ := hid_in (cmpS_is.zero x y)
  generalize B x = s at hx ⊢
  generalize B y = t at hy ⊢
  generalize cmpS x y = c at HL H3 HZ ⊢
  go_enter Tryz.func189, Tryz.ntmps189
  go_wp2
  · have h : Op.bytesLess x y = true := by assumption
    rw [HL.out, decide_eq_true_iff] at h
    go_ret
    refine ⟨congrArg (fun z => Ending.returned (Value.int .i64 z)) ?_, rfl⟩
    exact h.symm
  · have h : Op.bytesLess x y = false := by assumption
    have h2 : (!x == y) = true := by assumption
    rw [HL.out, decide_eq_false_iff_not] at h
    have h3 : c ≠ 0 := fun e => by rw [HZ.out] at e; subst e; simp at h2
    go_ret
    refine ⟨congrArg (fun z => Ending.returned (Value.int .i64 z)) ?_, rfl⟩
    show (1 : Int) = c
    have := H3.out
    omega
  · have h2 : (!x == y) = false := by assumption
    have h3 : c = 0 := by rw [HZ.out]; simpa using h2
    go_ret
    refine ⟨congrArg (fun z => Ending.returned (Value.int .i64 z)) ?_, rfl⟩
    exact h3.symm
theorem take_drop_eq {xs ys : List Str} {i : Nat} (h : xs.take i = ys.take i) : cmpL xs ys = cmpL (xs.drop i) (ys.drop i) := by
  conv => lhs; rw [← List.take_append_drop i xs, ← List.take_append_drop i ys, h]
  exact lexC_pre cmpS_is _ _ _
theorem drop_at {xs : List Str} {i : Nat} {x : Str} (h : xs[i]? = some x) : xs.drop i = x :: xs.drop (i + 1) := by
  obtain ⟨hi, rfl⟩ := List.getElem?_eq_some_iff.1 h
  exact List.drop_eq_getElem_cons hi
theorem cmpL_at {xs ys : List Str} {i : Nat} {x y : Str} (h : xs.take i = ys.take i) (hx : xs[i]? = some x) (hy : ys[i]? = some y) (hne : cmpS x y ≠ 0) : cmpL xs ys = cmpS x y := by
  rw [take_drop_eq h, drop_at hx, drop_at hy]
  unfold cmpL lexC
  rw [if_neg hne]
theorem cmpL_more {xs ys : List Str} {i : Nat} {x : Str} (h : xs.take i = ys.take i) (hx : xs[i]? = some x) (hy : ys.length ≤ i) : cmpL xs ys = 1 := by
  rw [take_drop_eq h, drop_at hx, List.drop_of_length_le hy]; rfl
theorem cmpL_less {xs ys : List Str} {i : Nat} {y : Str} (h : xs.take i = ys.take i) (hx : xs.length ≤ i) (hy : ys[i]? = some y) : cmpL xs ys = -1 := by
  rw [take_drop_eq h, drop_at hy, List.drop_of_length_le hx]; rfl
theorem cmpL_same {xs ys : List Str} {i : Nat} (h : xs.take i = ys.take i) (hx : xs.length ≤ i) (hy : ys.length ≤ i) : cmpL xs ys = 0 := by
  rw [take_drop_eq h, List.drop_of_length_le hx, List.drop_of_length_le hy]; rfl
set_option maxHeartbeats 400000 in
set_option maxRecDepth 100000 in
theorem lcompare_any (xs ys : List Str) (p q : Option Addr) (c1 c2 : Nat) (w : World) (hx : Rd w p xs c1) (hy : Rd w q ys c2) :
    Calls Tryz.prog 154 #[.slice p xs.length c1, .slice q ys.length c2] w fun e w' => e = .returned (.int .i64 (cmpL xs ys)) ∧ w' = w := by
  have hb1 : xs.length ≤ 9223372036854775807 := Nat.le_trans hx.le hx.big
  have hb2 : ys.length ≤ 9223372036854775807 := Nat.le_trans hy.le hy.big
  obtain ⟨R, hR⟩ : ∃ R, Hid (R = cmpL xs ys) := ⟨_, rfl⟩
  rw [← hR.out]
  obtain ⟨bx, ox, px, hcx⟩ := hx.at_
  obtain ⟨b2, oy, py, hcy⟩ := hy.at_
  generalize hn : xs.length = n at *
  generalize hm : ys.length = k at *
  have Hn := hid_in hn
  have Hm := hid_in hm
  have HCX := hid_in hcx
  have HCY := hid_in hcy
  have HPX := hid_in px
  have HPY := hid_in py
  clear hn hm hcx hcy px py hx hy
  go_enter Tryz.func154, Tryz.ntmps154
  go_wp2_with fail
  go_loopw [11] (fun vi w' => w' = w ∧ ∃ i : Nat, i ≤ n ∧ vi = .int .i64 (i : Int) ∧ Hid (xs.take i = ys.take i ∧ i ≤ k)) (fun vi _ => n - (intOf vi).toNat)
  case atStart => exact ⟨rfl, 0, by omega, rfl, rfl, by omega⟩
  case round =>
    obtain ⟨rfl, i, hi, rfl, heq⟩ := hrel
    by_cases hlt : i < n
    · obtain ⟨x, hxi⟩ : ∃ d, xs[i]? = some d := ⟨_, List.getElem?_eq_getElem (by rw [Hn.out]; exact hlt)⟩
      have cx : wr.cell? ⟨bx, ox + i, none⟩ = some (.string (B x)) := HCX.out i x 0 hxi
      obtain rfl := HPX.out (by rintro rfl; simp at hxi)
      have HX := hid_in hxi
      clear hxi
      by_cases hk : i < k
      · obtain ⟨y, hyi⟩ : ∃ d, ys[i]? = some d := ⟨_, List.getElem?_eq_getElem (by rw [Hm.out]; exact hk)⟩
        have cy : wr.cell? ⟨b2, oy + i, none⟩ = some (.string (B y)) := HCY.out i y 0 hyi
        obtain rfl := HPY.out (by rintro rfl; simp at hyi)
        have HY := hid_in hyi
        have HC := hid_in (cmp_any x y)
        have HZ := hid_in (cmpS_is.zero x y)
        obtain ⟨c, hc⟩ : ∃ c, Hid (c = cmpS x y) := ⟨_, rfl⟩
        rw [← hc.out] at HC HZ
        clear hyi
        by_cases hc0 : c = 0
        · have hxy := hid_in (HZ.out.1 hc0)
          subst hc0
          clear HZ hc
          go_wp2_with (go_at_call 189; refine (HC.out _).mono ?_; rintro e w' ⟨rfl, hw⟩; obtain rfl := hw.symm)
          have hsn : Hid (xs.take (i + 1) = ys.take (i + 1) ∧ i + 1 ≤ k) := by
            refine ⟨?_, by omega⟩
            rw [take_snoc HX.out, take_snoc HY.out, heq.out.1, hxy.out]
          go_roundw
          case rel =>
            go_light
            exact ⟨trivial, i + 1, by omega, by go_num, hsn⟩
          case measure => simp [intOf]; omega
        · have hc1 : (c != 0) = true := by simpa using hc0
          have HC0 := hid_in hc0
          clear HZ hc0
          go_wp2_with (go_at_call 189; refine (HC.out _).mono ?_; rintro e w' ⟨rfl, hw⟩; obtain rfl := hw.symm)
          go_ret
          refine ⟨congrArg (fun z => Ending.returned (Value.int .i64 z)) (Eq.trans ?_ hR.out.symm), rfl⟩
          rw [cmpL_at heq.out.1 HX.out HY.out (by rw [← hc.out]; exact HC0.out)]
          exact hc.out
      · have hki : k ≤ i := by omega
        go_wp2_with fail
        go_ret
        refine ⟨congrArg (fun z => Ending.returned (Value.int .i64 z)) (Eq.trans ?_ hR.out.symm), rfl⟩
        rw [cmpL_more heq.out.1 HX.out (by rw [Hm.out]; exact hki)]
    · have hin : i = n := by omega
      subst hin
      by_cases hk : i < k
      · obtain ⟨y, hyi⟩ : ∃ d, ys[i]? = some d := ⟨_, List.getElem?_eq_getElem (by rw [Hm.out]; omega)⟩
        have HY := hid_in hyi
        clear hyi
        go_wp2_with fail
        go_ret
        refine ⟨congrArg (fun z => Ending.returned (Value.int .i64 z)) (Eq.trans ?_ hR.out.symm), rfl⟩
        rw [cmpL_less heq.out.1 (by rw [Hn.out]; omega) HY.out]
      · go_wp2_with fail
        go_ret
        refine ⟨congrArg (fun z => Ending.returned (Value.int .i64 z)) (Eq.trans ?_ hR.out.symm), rfl⟩
        rw [cmpL_same heq.out.1 (by rw [Hn.out]; omega) (by rw [Hm.out]; omega)]
set_option maxHeartbeats 400000 in
set_option maxRecDepth 100000 in
theorem compare_any (xs ys : List Str) (p q : Option Addr) (c1 c2 : Nat) (w : World) (hx : Rd w p xs c1) (hy : Rd w q ys c2) :
    Calls Tryz.prog 94 #[.slice p xs.length c1, .slice q ys.length c2] w fun e w' => e = .returned (.int .i64 (cmpL xs ys)) ∧ w' = w := by
  have HC := hid_in (lcompare_any xs ys p q c1 c2 w hx hy)
  clear hx hy
  go_enter Tryz.func94, Tryz.ntmps94
  go_wp2_with (go_at_call 154; refine HC.out.mono ?_; rintro e w' ⟨rfl, hw⟩; obtain rfl := hw.symm)
  go_ret
  exact ⟨rfl, rfl⟩
end Go.Proofs.YtamaejlbojbbeaaGreatDoor.Vp
namespace Go.Proofs.YtamaejlbojbbeaaGreatDoor.Vp
open Go.RowKit
/-- the value reads as these names -/
def Val (w : World) (v : Value) (xs : List Str) : Prop := ∃ p cap, v = .slice p xs.length cap ∧ Rd w p xs cap
theorem Rd.val {w : World} {p : Option Addr} {xs : List Str} {cap : Nat} (h : Rd w p xs cap) : Val w (.slice p xs.length cap) xs := ⟨p, cap, rfl, h⟩
theorem Nms.val {W : World} {base : Nat} {v : Value} {xs : List Str} (h : Nms W base v xs) : Val W v xs := h.rd
theorem Rd.drew {w w' : World} {p : Option Addr} {xs : List Str} {cap : Nat} (h : Rd w p xs cap) (hd : ∃ m, w' = w.drewN m) : Rd w' p xs cap := by
  obtain ⟨m, rfl⟩ := hd
  exact h.below (below_drewN (Below.refl _ _) m)
theorem Rd.none (w : World) : Rd w none [] 0 := ⟨by simp, by omega, fun _ => ⟨rfl, rfl⟩, 0, 0, fun h => absurd rfl h, fun j x hx => by simp at hx⟩
theorem Val.none (w : World) : Val w (.slice none 0 0) [] := ⟨_, _, rfl, Rd.none w⟩
theorem Val.below {w w' : World} {v : Value} {xs : List Str} (h : Val w v xs) (hb : Below w.heap.size w w') : Val w' v xs := by
  obtain ⟨p, cap, rfl, hr⟩ := h; exact ⟨p, cap, rfl, hr.below hb⟩
theorem Val.drew {w w' : World} {v : Value} {xs : List Str} (h : Val w v xs) (hd : ∃ m, w' = w.drewN m) : Val w' v xs := by
  obtain ⟨p, cap, rfl, hr⟩ := h; exact ⟨p, cap, rfl, hr.drew hd⟩
theorem within_v {xs ys : List Str} {u v : Value} {w : World} (hx : Val w u xs) (hy : Val w v ys) : Calls Tryz.prog 96 #[u, v] w fun e w' => e = .returned (.bool (withinS xs ys)) ∧ ∃ m, w' = w.drewN m := by
  obtain ⟨p, c, rfl, h1⟩ := hx; obtain ⟨q, d, rfl, h2⟩ := hy; exact within_any xs ys p q c d w h1 h2
theorem compare_v {xs ys : List Str} {u v : Value} {w : World} (hx : Val w u xs) (hy : Val w v ys) : Calls Tryz.prog 94 #[u, v] w fun e w' => e = .returned (.int .i64 (cmpL xs ys)) ∧ w' = w := by
  obtain ⟨p, c, rfl, h1⟩ := hx; obtain ⟨q, d, rfl, h2⟩ := hy; exact compare_any xs ys p q c d w h1 h2
theorem show_v {xs : List Str} {u : Value} {w : World} (hx : Val w u xs) (hl : Lib.lens xs + xs.length ≤ 140737488355328) : Calls Tryz.prog 82 #[u] w fun e w' => e = .returned (.string (B (showS xs))) ∧ Below w.heap.size w w' := by
  obtain ⟨p, c, rfl, h1⟩ := hx; exact show_any xs p c w h1 (by omega) (by have := join_le xs; omega)
end Go.Proofs.YtamaejlbojbbeaaGreatDoor.Vp
namespace Go.Proofs.YtamaejlbojbbeaaGreatDoor.Tr
open Go.RowKit
open Sb (hid_in Row Sl T5 BL u8v Tab wp_world grownBy_setCell below_of_grown info39 one_u8 splice_all)
/-- a path in memory: the value of its names, its names, its text, whether it is a directory, its data -/
structure Spot where
  v : Value
  names : List Vp.Str
  path : ByteArray
  dir : Bool
  data : ByteArray
def Spot.cells (s : Spot) : List Value := [s.v, .string s.path, .bool s.dir, .string s.data]
/-- names in memory -/
def Nm (w : World) (v : Value) (xs : List Vp.Str) : Prop := w.ownsRow 0 9 1 v xs.length (xs.map Vp.sv)
theorem Nm.val {w : World} {v : Value} {xs : List Vp.Str} (h : Nm w v xs) : Vp.Val w v xs := Vp.Nms.val h
/-- names stay where their block stays -/
theorem Nm.kept {w w' : World} {v : Value} {xs : List Vp.Str} (h : Nm w v xs) (hk : ∀ (b : Nat) (cs : Array Value) (fr : Nat × Nat), w.heap[b]? = some (.cells cs 9 fr) → w'.heap[b]? = some (.cells cs 9 fr)) : Nm w' v xs := by
  refine ⟨h.1, ?_⟩
  rcases h.2 with h | ⟨g', cap, cur, h1, h2, h3, h4⟩
  · exact .inl h
  · exact .inr ⟨g', cap, cur, h1, h2, hk _ _ _ h3, h4⟩
theorem Nm.nil (w : World) : Nm w (.slice none 0 0) [] := World.ownsRow_nil _ _ _ _
/-- a value that reads as paths -/
def Sps (w : World) (sv : Value) (sp : List Spot) : Prop := ∃ p cap b o, sv = .slice p sp.length cap ∧ sp.length ≤ cap ∧ cap ≤ 9223372036854775807 ∧ (sp ≠ [] → p = some ⟨b, o, none⟩ ∧ ∃ cs fr, w.heap[b]? = some (.cells cs 93 fr)) ∧ (∀ (i : Nat) s, sp[i]? = some s → w.rangeAt b (o + i * 4) s.cells) ∧ ∀ s ∈ sp, Nm w s.v s.names
theorem range_block {w w' : World} {b o : Nat} {cs : List Value} (h : w.rangeAt b o cs) (hb : w'.heap[b]? = w.heap[b]?) : w'.rangeAt b o cs := fun j v hv => by
  have e := h j v hv
  unfold World.cell? at *
  simp only [hb]
  exact e
/-- paths stay where rows of paths and of names stay -/
theorem Sps.kept {w w' : World} {sv : Value} {sp : List Spot} (h : Sps w sv sp) (hk : ∀ (b : Nat) (cs : Array Value) (t : TypeId) (fr : Nat × Nat), w.heap[b]? = some (.cells cs t fr) → t = 9 ∨ t = 93 → w'.heap[b]? = some (.cells cs t fr)) : Sps w' sv sp := by
  obtain ⟨p, cap, b, o, h1, h2, h3, h4, h5, h6⟩ := h
  refine ⟨p, cap, b, o, h1, h2, h3, fun hn => ⟨(h4 hn).1, ?_⟩, fun i s hi => ?_, fun s hs => Nm.kept (h6 s hs) (fun b cs fr hb => hk b cs 9 fr hb (.inl rfl))⟩
  · obtain ⟨_, cs, fr, e⟩ := h4 hn
    exact ⟨cs, fr, hk _ _ _ _ e (.inr rfl)⟩
  · obtain ⟨_, cs, fr, e⟩ := h4 (by rintro rfl; simp at hi)
    exact range_block (h5 i s hi) (by rw [hk _ _ _ _ e (.inr rfl), e])
theorem Sps.below {w w' : World} {sv : Value} {sp : List Spot} (h : Sps w sv sp) (hb : Below w.heap.size w w') : Sps w' sv sp := h.kept (fun b _cs _t _fr e _ => (hb.block b (Array.getElem?_eq_some_iff.1 e).1).trans e)
theorem Sps.fr {S : Nat → Prop} {base g : Nat} {L : List (List Nat)} {w w' : World} {sv : Value} {sp : List Spot} (h : Sps w sv sp) (f : Fr S g w w') (hB : Bt w base g L) (hS : ∀ k, S k → ∀ (cs : Array Value) (t : TypeId) (fr : Nat × Nat), w.heap[k]? = some (.cells cs t fr) → t ≠ 9 ∧ t ≠ 93) : Sps w' sv sp := h.kept (fun b cs t fr e ht => f.typed hB e (by rcases ht with rfl | rfl <;> decide) (by rcases ht with rfl | rfl <;> decide) (fun hs => by rcases ht with rfl | rfl; exact (hS b hs _ _ _ e).1 rfl; exact (hS b hs _ _ _ e).2 rfl))
theorem Nm.fr {S : Nat → Prop} {base g : Nat} {L : List (List Nat)} {w w' : World} {v : Value} {xs : List Vp.Str} (h : Nm w v xs) (f : Fr S g w w') (hB : Bt w base g L) (hS : ∀ k, S k → ∀ (cs : Array Value) (t : TypeId) (fr : Nat × Nat), w.heap[k]? = some (.cells cs t fr) → t ≠ 9 ∧ t ≠ 93) : Nm w' v xs := Nm.kept h (fun b cs fr e => f.typed hB e (by decide) (by decide) (fun hs => (hS b hs _ _ _ e).1 rfl))
theorem Sps.tail {w : World} {p : Option Addr} {n cap : Nat} {s : Spot} {sp : List Spot} (h : Sps w (.slice p n cap) (s :: sp)) : n = sp.length + 1 ∧ ∃ b o, p = some ⟨b, o, none⟩ ∧ w.rangeAt b o s.cells ∧ Nm w s.v s.names ∧ n ≤ cap ∧ cap ≤ 9223372036854775807 ∧ Sps w (.slice (some ⟨b, o + 4, none⟩) sp.length (cap - 1)) sp ∧ (sp = [] → ∀ q, Sps w (.slice q 0 (cap - 1)) []) := by
  obtain ⟨p', cap', b, o, h1, h2, h3, h4, h5, h6⟩ := h
  simp only [Value.slice.injEq] at h1
  obtain ⟨rfl, rfl, rfl⟩ := h1
  obtain ⟨hp, hty⟩ := h4 (by simp)
  simp only [List.length_cons] at h2
  refine ⟨rfl, b, o, hp, by simpa using h5 0 s rfl, h6 s (by simp), h2, h3, ⟨_, _, b, o + 4, rfl, by omega, by omega, fun _ => ⟨rfl, hty⟩, fun i t hi => ?_, fun t ht => h6 t (by simp [ht])⟩, fun _ q => ⟨q, _, b, o, rfl, by simp, by omega, fun h => absurd rfl h, fun i t hi => by simp at hi, fun t ht => by simp at ht⟩⟩
  have := h5 (i + 1) t (by simpa using hi)
  rwa [show o + (i + 1) * 4 = o + 4 + i * 4 by omega] at this
/-- the blobs of a directory's paths, its digest, and the paths that are left -/
def fileBs (d : ByteArray) : List (List Nat) := (List.range (pcs d.size)).map (pieceB (Nd.bytesS d)) ++ [encB (fileN (Nd.bytesS d) (List.range (pcs d.size)))]
def fileD (d : ByteArray) : List Nat := Sb.Sha.sum (encB (fileN (Nd.bytesS d) (List.range (pcs d.size))))
def dirN (items : List Nd.It) : Nd.Nd := ⟨3, ⟨#[]⟩, 0, [], items⟩
def walkT : Nat → List Vp.Str → List Spot → List Nd.It → List (List Nat) × List Nat × List Spot
  | 0, _, sp, _ => ([], [], sp)
  | _ + 1, _, [], items => ([encB (dirN items)], Sb.Sha.sum (encB (dirN items)), [])
  | k + 1, dir, s :: sp, items =>
    if Vp.withinS s.names dir = true then
      if s.dir = true then
        let r1 := walkT k s.names sp []
        let r2 := walkT k dir r1.2.2 (items ++ [⟨Vp.B (s.names.getD dir.length []), 3, r1.2.1⟩])
        (r1.1 ++ r2.1, r2.2)
      else
        let r2 := walkT k dir sp (items ++ [⟨Vp.B (s.names.getD dir.length []), 2, fileD s.data⟩])
        (fileBs s.data ++ r2.1, r2.2)
    else ([encB (dirN items)], Sb.Sha.sum (encB (dirN items)), s :: sp)
theorem walkT_rest : ∀ (k : Nat) (dir : List Vp.Str) (sp : List Spot) (items : List Nd.It), (walkT k dir sp items).2.2 <:+ sp
  | 0, _, sp, _ => List.suffix_refl sp
  | _ + 1, _, [], _ => List.suffix_refl _
  | k + 1, dir, s :: sp, items => by
    unfold walkT
    split
    · split
      · exact ((walkT_rest k dir _ _).trans (walkT_rest k s.names sp [])).trans (List.suffix_cons s sp)
      · exact (walkT_rest k dir sp _).trans (List.suffix_cons s sp)
    · exact List.suffix_refl _
end Go.Proofs.YtamaejlbojbbeaaGreatDoor.Tr
namespace Go.Proofs.YtamaejlbojbbeaaGreatDoor.Tr
open Go.RowKit
open Sb (hid_in Row Sl T5 BL u8v Tab wp_world grownBy_setCell below_of_grown info39 one_u8 splice_all)
theorem kindOf_any (p x : ByteArray) (d : Bool) (w : World) : Calls Tryz.prog 86 #[.agg #[.string p, .bool d, .string x]] w fun e w' => e = .returned (.int .i64 (if d then 3 else 2)) ∧ w' = w.alloc (.cells #[.string p, .bool d, .string x] 81) := by
  cases d
  · go_enter Tryz.func86, Tryz.ntmps86
    go_wp2
    go_ret
    exact ⟨rfl, rfl⟩
  · go_enter Tryz.func86, Tryz.ntmps86
    go_wp2
    go_ret
    exact ⟨rfl, rfl⟩
theorem fileBs_len (d : ByteArray) (h : d.size ≤ 1024) : (fileBs d).length ≤ 17 := by
  unfold fileBs pcs
  simp
  omega
theorem walkT_len : ∀ (k : Nat) (dir : List Vp.Str) (sp : List Spot) (items : List Nd.It), (∀ s ∈ sp, s.data.size ≤ 1024) → (walkT k dir sp items).1.length + 18 * (walkT k dir sp items).2.2.length ≤ 18 * sp.length + 1
  | 0, _, sp, _, _ => by simp [walkT]
  | _ + 1, _, [], _, _ => by simp [walkT]
  | k + 1, dir, s :: sp, items, h => by
    have hs : ∀ t ∈ sp, t.data.size ≤ 1024 := fun t ht => h t (by simp [ht])
    unfold walkT
    split
    · split
      · have h1 := walkT_len k s.names sp [] hs
        have h2 := walkT_len k dir (walkT k s.names sp []).2.2 (items ++ [⟨Vp.B (s.names.getD dir.length []), 3, (walkT k s.names sp []).2.1⟩]) (fun t ht => hs t ((walkT_rest k s.names sp []).subset ht))
        simp only [List.length_append, List.length_cons]
        omega
      · have h1 := walkT_len k dir sp (items ++ [⟨Vp.B (s.names.getD dir.length []), 2, fileD s.data⟩]) hs
        have h2 := fileBs_len s.data (h s (by simp))
        simp only [List.length_append, List.length_cons]
        omega
    · simp only [List.length_cons, List.length_nil]
      omega
/-- what addDir finds -/
structure AD (w : World) (base g sb ab cb : Nat) (L : List (List Nat)) (dirv : Value) (dir : List Vp.Str) (sv : Value) (sp : List Spot) : Prop where
  bt : Bt w base g L
  tab : Tab w
  base0 : 0 < base
  basew : base ≤ w.heap.size
  spb : Boxed w sb 86 sv
  sps : Sps w sv sp
  fnb : Boxed w ab 175 (.func (.func 95) #[] #[.pointer (some ⟨sb, 0, none⟩), .pointer (some ⟨ab, 0, none⟩), .pointer (some ⟨cb, 0, none⟩)])
  bb : Boxed w cb 174 (.pointer (some ⟨g, 0, none⟩))
  dirn : Nm w dirv dir
  nodup : (sp.map Spot.names).Nodup
  notin : dir ∉ sp.map Spot.names
  data : ∀ s ∈ sp, s.data.size ≤ 1024
  short : ∀ s ∈ sp, ∀ x ∈ s.names, (Vp.B x).size ≤ 9223372036854775807
  len : L.length + 18 * sp.length + 1 ≤ 1000000
  sbl : base ≤ sb
/-- what it leaves -/
def ADp (w : World) (base g sb : Nat) (L : List (List Nat)) (r : List (List Nat) × List Nat × List Spot) (e : Ending) (w' : World) : Prop :=
  e = .returned (.agg (r.2.1.map u8v).toArray) ∧ Bt w' base g (L ++ r.1) ∧ (∃ sv', Boxed w' sb 86 sv' ∧ Sps w' sv' r.2.2) ∧ Fr (· = sb) g w w'
theorem withinS_lt {xs ys : List Vp.Str} (h : Vp.withinS xs ys = true) (hn : ys ≠ xs) : ys.length < xs.length := by
  unfold Vp.withinS at h
  have h := of_decide_eq_true h
  rcases Nat.lt_or_ge ys.length xs.length with h1 | h1
  · exact h1
  · have : xs.take ys.length = xs := List.take_of_length_le h1
    rw [this] at h
    exact absurd h.2.symm hn
end Go.Proofs.YtamaejlbojbbeaaGreatDoor.Tr
namespace Go.Proofs.YtamaejlbojbbeaaGreatDoor.Tr
open Go.RowKit
open Sb (hid_in Row Sl T5 BL u8v Tab wp_world grownBy_setCell below_of_grown info39 one_u8 splice_all)
/-- between two rounds of addDir -/
structure AI (w : World) (base g sb ab cb : Nat) (L : List (List Nat)) (dirv : Value) (dir : List Vp.Str) (sp : List Spot) (k : Nat) (Z : List Value) (rest : List Spot) (items : List Nd.It) (Lc : List (List Nat)) (kk : Nat) (W : World) : Prop where
  eqn : walkT k dir sp [] = (Lc ++ (walkT kk dir rest items).1, (walkT kk dir rest items).2)
  fuel : rest.length < kk
  fuelk : kk ≤ k
  suff : rest <:+ sp
  lenc : Lc.length + 18 * rest.length ≤ 18 * sp.length
  res : Row W w.heap.size Z 30
  nd : ∃ v, Row W (w.heap.size + 1) [.int .i64 3, .string ⟨#[]⟩, .int .i64 0, .slice none 0 0, v] 108 ∧ W.ownsRow (w.heap.size + 2) 114 34 v items.length (items.map Nd.It.cells).flatten
  iok : ∀ x ∈ items, x.ok ∧ x.name.size ≤ 9223372036854775807
  ilen : items.length + rest.length ≤ sp.length
  ad : ∃ sv, AD W base g sb ab cb (L ++ Lc) dirv dir sv rest
  fr : Fr (· = sb) g w W
  gw : g < w.heap.size
theorem boxed_below {W W' : World} {b : Nat} {t : TypeId} {v : Value} (h : Boxed W b t v) (hb : Below W.heap.size W W') : Boxed W' b t v := (hb.block b h.lt).trans h
theorem AD.below {W W' : World} {base g sb ab cb : Nat} {L : List (List Nat)} {dirv : Value} {dir : List Vp.Str} {sv : Value} {sp : List Spot} (h : AD W base g sb ab cb L dirv dir sv sp) (hb : Below W.heap.size W W') : AD W' base g sb ab cb L dirv dir sv sp :=
  ⟨h.bt.below hb, h.tab.below hb h.tab.pos, h.base0, Nat.le_trans h.basew hb.size, boxed_below h.spb hb, h.sps.below hb, boxed_below h.fnb hb, boxed_below h.bb hb, Nm.kept h.dirn (fun b _cs _fr e => (hb.block b (Array.getElem?_eq_some_iff.1 e).1).trans e), h.nodup, h.notin, h.data, h.short, h.len, h.sbl⟩
theorem AI.below {w : World} {base g sb ab cb : Nat} {L : List (List Nat)} {dirv : Value} {dir : List Vp.Str} {sp : List Spot} {k : Nat} {Z : List Value} {rest : List Spot} {items : List Nd.It} {Lc : List (List Nat)} {kk : Nat} {W W' : World} (h : AI w base g sb ab cb L dirv dir sp k Z rest items Lc kk W) (hb : Below W.heap.size W W') : AI w base g sb ab cb L dirv dir sp k Z rest items Lc kk W' := by
  obtain ⟨v, hr, ho⟩ := h.nd
  obtain ⟨sv, had⟩ := h.ad
  exact ⟨h.eqn, h.fuel, h.fuelk, h.suff, h.lenc, h.res.below hb h.res.lt, ⟨v, hr.below hb hr.lt, own_grown ho (grown_of_below hb) (fun k e => by cases e)⟩, h.iok, h.ilen, ⟨sv, had.below hb⟩, h.fr.trans (Fr.of_below hb had.bt.lt), h.gw⟩
theorem dirN_is {W : World} {B : Nat} {items : List Nd.It} {v : Value} (hown : W.ownsRow B 114 34 v items.length (items.map Nd.It.cells).flatten) (hok : ∀ x ∈ items, x.ok) :
    Nd.IsN W (.agg #[.int .i64 3, .string ⟨#[]⟩, .int .i64 0, .slice none 0 0, v]) (dirN items) := by
  refine ⟨⟨_, _, rfl, Nd.Els.nil W 32, ?_⟩, ⟨fun x hx => (by cases hx), fun x hx => hok x hx, Nd.i64_3, Nd.i64_0⟩⟩
  refine Nd.own_els (by simpa [dirN] using hown) (fun us hus => ?_)
  obtain ⟨x, hx, rfl⟩ := List.mem_map.1 hus
  have := (hok x hx).sum.1
  simp [Nd.It.cells, this]
/-- the last call of addDir -/
theorem AI.add {w : World} {base g sb ab cb : Nat} {L : List (List Nat)} {dirv : Value} {dir : List Vp.Str} {sp : List Spot} {k : Nat} {Z : List Value} {rest : List Spot} {items : List Nd.It} {Lc : List (List Nat)} {kk : Nat} {W : World} (h : AI w base g sb ab cb L dirv dir sp k Z rest items Lc kk W) (hend : walkT kk dir rest items = ([encB (dirN items)], Sb.Sha.sum (encB (dirN items)), rest)) :
    ∃ q c V, Hid (V = (walkT k dir sp []).2.1.map u8v) ∧ Row W (w.heap.size + 1) [.int .i64 3, .string ⟨#[]⟩, .int .i64 0, .slice none 0 0, .slice q items.length c] 108 ∧
      Calls Tryz.prog 97 #[.pointer (some ⟨g, 0, none⟩), .agg #[.int .i64 3, .string ⟨#[]⟩, .int .i64 0, .slice none 0 0, .slice q items.length c]] W fun e w' => e = .returned (.agg V.toArray) ∧ Row w' w.heap.size Z 30 ∧ ∀ w'', Row w'' w.heap.size V 30 → w'.grownBy w'' (some w.heap.size) → ADp w base g sb L (walkT k dir sp []) (.returned (.agg V.toArray)) w'' := by
  obtain ⟨v, hr, ho⟩ := h.nd
  obtain ⟨sv, had⟩ := h.ad
  obtain ⟨q, c, rfl⟩ := own_shape ho
  have e1 : (walkT k dir sp []).2.1 = Sb.Sha.sum (encB (dirN items)) := by rw [h.eqn, hend]
  refine ⟨q, c, _, hid_in rfl, hr, ?_⟩
  have hl : (L ++ Lc).length ≤ 100000000 := by have := had.len; simp at this ⊢; omega
  refine (add_any W base g (L ++ Lc) _ (dirN items) had.bt had.tab (dirN_is ho (fun x hx => (h.iok x hx).1)) ⟨(by show (ByteArray.mk #[]).size ≤ _; decide), fun x hx => (h.iok x hx).2⟩ hl ((walkT k dir sp []).2.1.map u8v) (hid_in (by rw [e1])) had.basew had.base0).mono ?_
  rintro e w' ⟨rfl, hbt, hfr⟩
  have hgw := h.gw
  have hz : Row w' w.heap.size Z 30 := hfr.row had.bt h.res (by decide) (by decide) (fun e => e)
  refine ⟨rfl, hz, fun w'' hr2 hg2 => ⟨rfl, ?_, ?_, ?_⟩⟩
  · rw [h.eqn, hend]
    simp only
    rw [← List.append_assoc]
    exact hbt.other hg2 (fun k e => by
      obtain rfl := Option.some.inj e
      exact ⟨(by omega), not51 hz (by decide), not5_97 hz (by decide)⟩)
  · rw [h.eqn, hend]
    have hsb' := hfr.typed had.bt had.spb (by decide) (by decide) (fun e => e)
    have hsp' := had.sps.fr hfr had.bt (fun k e => e.elim)
    exact ⟨sv, kept_typed hsb' hg2 (fun k e => by obtain rfl := Option.some.inj e; exact typed_ne hsb' hz (by decide)), hsp'.kept (fun b cs t fr e ht => kept_typed e hg2 (fun k e2 => by
      obtain rfl := Option.some.inj e2
      exact typed_ne e hz (by rcases ht with rfl | rfl <;> decide)))⟩
  · exact (h.fr.trans (hfr.mono (fun _ e => e.elim))).of_new hg2 (Nat.le_refl _) hgw
end Go.Proofs.YtamaejlbojbbeaaGreatDoor.Tr
namespace Go.Proofs.YtamaejlbojbbeaaGreatDoor.Tr
open Go.RowKit
open Sb (hid_in Row Sl T5 BL u8v Tab wp_world grownBy_setCell below_of_grown info39 one_u8 splice_all)
theorem boxed_set {W : World} {b : Nat} {t : TypeId} {v u : Value} (h : Boxed W b t v) : Boxed (W.setCell ⟨b, 0, none⟩ u) b t u := h.set u
/-- one path is taken -/
theorem AD.pop {W : World} {base g sb ab cb : Nat} {L : List (List Nat)} {dirv : Value} {dir : List Vp.Str} {sv : Value} {s : Spot} {tl : List Spot} (h : AD W base g sb ab cb L dirv dir sv (s :: tl)) {u : Value} (hu : Sps W u tl) : AD (W.setCell ⟨sb, 0, none⟩ u) base g sb ab cb L dirv dir u tl := by
  have hg := grownBy_setCell W ⟨sb, 0, none⟩ u
  have key : ∀ {b : Nat} {cs : Array Value} {t : TypeId} {fr : Nat × Nat}, W.heap[b]? = some (.cells cs t fr) → t ≠ 86 → (W.setCell ⟨sb, 0, none⟩ u).heap[b]? = some (.cells cs t fr) := fun e ht => kept_typed e hg (fun k e2 => by
    obtain rfl := Option.some.inj e2
    exact typed_ne e h.spb ht)
  refine ⟨h.bt.other hg (fun k e => ?_), h.tab.grown hg (fun e => ?_), h.base0, Nat.le_trans h.basew hg.size, boxed_set h.spb, hu.kept (fun b cs t fr e ht => key e (by rcases ht with rfl | rfl <;> decide)), key h.fnb (by decide), key h.bb (by decide), Nm.kept h.dirn (fun b cs fr e => key e (by decide)), (List.nodup_cons.1 h.nodup).2, fun hm => h.notin (by simp at hm ⊢; exact .inr hm), fun t ht => h.data t (by simp [ht]), fun t ht => h.short t (by simp [ht]), by have := h.len; simp at this ⊢; omega, h.sbl⟩
  · obtain rfl := Option.some.inj e
    exact ⟨by
      rintro rfl
      obtain ⟨v', cs, hr', _⟩ := h.bt.ex
      exact typed_ne h.spb hr' (by decide) rfl, not51 (vs := [sv]) h.spb (by decide), not5_97 (vs := [sv]) h.spb (by decide)⟩
  · have h1 := h.sbl
    have h2 := h.base0
    have := Option.some.inj e
    simp only at this
    omega
theorem build_item2 (nm : ByteArray) (kd : Int) (w : World) : (Instr.build 114 #[(0, .string nm), (1, .int .i64 kd)]).run Tryz.prog w = .ok (.agg (Nd.It.cells ⟨nm, kd, List.replicate 32 0⟩).toArray) w := by kernel_rfl
theorem wp_store_row {op : Oper} {a : Act} {w : World} {K : Act → World → Prop} {Q : Exit → Act → World → Prop} (t : TypeId) (k : Nat) (x y : Operand) (ho : op.op = .store t x y) (hd : op.dst = none) (b : Nat) (C V : List Value) (hr : Row w b C t) (hi : (Tryz.prog.info? t).map (·.size) = some k) (hC : C.length = k) (hV : V.length = k) (h1 : ∀ v ∈ V, v.oneCell' = true)
    (hx : a.eval x = .pointer (some ⟨b, 0, none⟩)) (hy : a.eval y = .agg V.toArray) (h : ∀ w', Row w' b V t → w.grownBy w' (some b) → K a w') : op.wp Tryz.prog a w K Q := by
  refine wp_store_mid t x y ho b 0 V.toArray hx hy (Sb.there_of_row hr 0 _ (by simp; omega)) (by rw [hi]; simp [hV]) (all_oneCell_toArray h1) ?_
  rw [hd]
  have h2 := Sb.Row.setCells V _ _ 0 hr (by omega)
  rw [splice_all _ _ (by omega)] at h2
  exact h _ h2 (Sb.grownBy_setCells _ _ _)
theorem Nm.get {w : World} {q : Option Addr} {n c i : Nat} {xs : List Vp.Str} {x : Vp.Str} (h : Nm w (.slice q n c) xs) (hx : xs[i]? = some x) : ∃ gn, q = some ⟨gn, 0, none⟩ ∧ n = xs.length ∧ n ≤ c ∧ w.cell? ⟨gn, i, none⟩ = some (.string (Vp.B x)) ∧ ∃ cs fr, w.heap[gn]? = some (.cells cs 9 fr) := by
  have hl : i < xs.length := (List.getElem?_eq_some_iff.1 hx).1
  rcases h.2 with ⟨h1, h0⟩ | ⟨g', cap, cur, h1, hb, hg, hn, hm, hs, ht⟩
  · omega
  · simp only [Value.slice.injEq] at h1
    obtain ⟨rfl, rfl, rfl⟩ := h1
    refine ⟨g', rfl, rfl, hn, ?_, _, _, hg⟩
    rw [cell_of_row _ _ _ _ _ _ hg, ← Array.getElem?_toList]
    have e : (xs.map Vp.sv)[i]? = some (.string (Vp.B x)) := by rw [List.getElem?_map, hx]; rfl
    rw [← ht, List.getElem?_take, if_pos (by omega)] at e
    exact e
/-- what the reads of a round want -/
def SD (ib : Nat) (cs : List Value) (gn i : Nat) (nm : ByteArray) (W : World) : Prop := Row W ib cs 93 ∧ W.cell? ⟨gn, i, none⟩ = some (.string nm)
theorem SD.below {ib : Nat} {cs : List Value} {gn i : Nat} {nm : ByteArray} {W W' : World} (h : SD ib cs gn i nm W) (hb : Below W.heap.size W W') : SD ib cs gn i nm W' := ⟨h.1.below hb h.1.lt, (hb.cell (World.block_lt_of_cell? W _ h.2)).trans h.2⟩
end Go.Proofs.YtamaejlbojbbeaaGreatDoor.Tr
