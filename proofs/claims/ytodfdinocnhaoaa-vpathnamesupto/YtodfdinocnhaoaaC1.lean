/-
  The walks of Check and Split, of the reference's Check.
-/
import Derived.Test.YtodfdinocnhaoaaR1
namespace Go.Proofs.Ytodfdinocnhaoaa
open Go.RowKit

/-- whether names are a path's -/
def checkS (xs : List Str) : Int := if xs.all isNameS = false then 41 else if 8 < xs.length then 42 else 0

theorem lens_mem {xs : List Str} {x : Str} (h : x ∈ xs) : x.length ≤ Lib.lens xs := by
  induction xs with
  | nil => cases h
  | cons y r ih =>
    simp only [Lib.lens, List.map_cons, List.sum_cons] at ih ⊢
    rcases List.mem_cons.1 h with rfl | h
    · omega
    · have := ih h; omega
theorem allS_snoc {p : Str → Bool} {l : List Str} {i : Nat} {c : Str} (hc : l[i]? = some c) (h : (l.take i).all p = true) (hp : p c = true) : (l.take (i + 1)).all p = true := by
  rw [List.take_add_one, hc]; simp [List.all_append, h, hp]
theorem allS_no {p : Str → Bool} {l : List Str} {i : Nat} {c : Str} (hc : l[i]? = some c) (hp : p c = false) : l.all p = false := by
  rw [List.all_eq_false]
  exact ⟨c, List.mem_of_getElem? hc, by simp [hp]⟩

set_option maxHeartbeats 400000 in
set_option maxRecDepth 100000 in
theorem check_v {xs : List Str} {u : Value} {w : World} (hx : Val w u xs) (hl : Lib.lens xs + xs.length ≤ 140737488355328) : Calls Try.prog 16 #[u] w fun e w' => e = .returned (.int .i64 (checkS xs)) ∧ w' = w := by
  obtain ⟨p, cap, b, o, rfl, hle, hbig, hp, hc⟩ := val_at hx
  obtain ⟨R, hR⟩ : ∃ R, Hid (R = checkS xs) := ⟨_, rfl⟩
  rw [← hR.out]
  have HC := hid_in hc
  have HP := hid_in hp
  have HL := hid_in hl
  have hb1 : xs.length ≤ 9223372036854775807 := by omega
  generalize hn : xs.length = n at *
  have Hn := hid_in hn
  clear hn hc hp hx hl
  go_enter Try.func16, Try.ntmps16
  go_wp2_with fail
  go_loopw [7] (fun vi w' => w' = w ∧ ∃ i : Nat, i ≤ n ∧ vi = .int .i64 (i : Int) ∧ Hid ((xs.take i).all isNameS = true)) (fun vi _ => n - (intOf vi).toNat)
  case atStart => exact ⟨rfl, 0, by omega, rfl, rfl⟩
  case round =>
    obtain ⟨hw, i, hi, rfl, hall⟩ := hrel
    obtain rfl := hw.symm
    by_cases hlt : i < n
    · obtain ⟨x, hxi⟩ : ∃ d, xs[i]? = some d := ⟨_, List.getElem?_eq_getElem (by rw [Hn.out]; exact hlt)⟩
      have cx := HC.out i x hxi
      obtain rfl := HP.out (by rintro rfl; simp at hxi)
      have HN := hid_in (isName_any x (by have := lens_mem (List.mem_of_getElem? hxi); have := HL.out; omega))
      have HX := hid_in hxi
      clear hxi
      cases hnm : isNameS x
      · rw [hnm] at HN
        have HNM := hid_in hnm
        clear hnm
        go_wp2_with (go_at_call 28; refine (HN.out _).mono ?_; rintro e w' ⟨rfl, hw⟩; obtain rfl := hw.symm)
        go_ret
        refine ⟨congrArg (fun z => Ending.returned (Value.int .i64 z)) (Eq.trans ?_ hR.out.symm), rfl⟩
        unfold checkS
        rw [if_pos (allS_no HX.out HNM.out)]
      · rw [hnm] at HN
        have hsn : Hid ((xs.take (i + 1)).all isNameS = true) := allS_snoc HX.out hall.out hnm
        clear hnm
        go_wp2_with (go_at_call 28; refine (HN.out _).mono ?_; rintro e w' ⟨rfl, hw⟩; obtain rfl := hw.symm)
        go_roundw
        case rel =>
          go_light
          exact ⟨trivial, i + 1, by omega, by go_num, hsn⟩
        case measure => simp [intOf]; omega
    · have hin : i = n := by omega
      subst hin
      have HA : Hid (R = if 8 < i then 42 else 0) := by
        show _ = _
        rw [hR.out]
        have := hall.out
        rw [List.take_of_length_le (by rw [Hn.out]; omega)] at this
        unfold checkS
        rw [if_neg (by rw [this]; simp), Hn.out]
      clear hR
      by_cases h8 : 8 < i
      · have HA2 := hid_in (HA.out.trans (if_pos h8))
        go_wp2_with fail
        go_ret
        refine ⟨congrArg (fun z => Ending.returned (Value.int .i64 z)) (Eq.trans ?_ HA2.out.symm), rfl⟩
        rfl
      · have HA2 := hid_in (HA.out.trans (if_neg h8))
        go_wp2_with fail
        go_ret
        refine ⟨congrArg (fun z => Ending.returned (Value.int .i64 z)) (Eq.trans ?_ HA2.out.symm), rfl⟩
        rfl

set_option maxHeartbeats 400000 in
set_option maxRecDepth 100000 in
theorem rcheck_v {xs : List Str} {u : Value} {w : World} (hx : Val w u xs) (hl : Lib.lens xs + xs.length ≤ 140737488355328) : Calls Try.prog 15 #[u] w fun e w' => e = .returned (.int .i64 (checkS xs)) ∧ w' = w := by
  obtain ⟨p, cap, b, o, rfl, hle, hbig, hp, hc⟩ := val_at hx
  obtain ⟨R, hR⟩ : ∃ R, Hid (R = checkS xs) := ⟨_, rfl⟩
  rw [← hR.out]
  have HC := hid_in hc
  have HP := hid_in hp
  have HL := hid_in hl
  have hb1 : xs.length ≤ 9223372036854775807 := by omega
  generalize hn : xs.length = n at *
  have Hn := hid_in hn
  clear hn hc hp hx hl
  go_enter Try.func15, Try.ntmps15
  go_wp2_with fail
  go_loopw [3] (fun vi w' => w' = w ∧ ∃ i : Nat, i ≤ n ∧ vi = .int .i64 (i : Int) ∧ Hid ((xs.take i).all isNameS = true)) (fun vi _ => n - (intOf vi).toNat)
  case atStart => exact ⟨rfl, 0, by omega, rfl, rfl⟩
  case round =>
    obtain ⟨hw, i, hi, rfl, hall⟩ := hrel
    obtain rfl := hw.symm
    by_cases hlt : i < n
    · obtain ⟨x, hxi⟩ : ∃ d, xs[i]? = some d := ⟨_, List.getElem?_eq_getElem (by rw [Hn.out]; exact hlt)⟩
      have cx := HC.out i x hxi
      obtain rfl := HP.out (by rintro rfl; simp at hxi)
      have HN := hid_in (rname_any x (by have := lens_mem (List.mem_of_getElem? hxi); have := HL.out; omega))
      have HX := hid_in hxi
      clear hxi
      cases hnm : isNameS x
      · rw [hnm] at HN
        have HNM := hid_in hnm
        clear hnm
        go_wp2_with (go_at_call 22; refine (HN.out _).mono ?_; rintro e w' ⟨rfl, hw⟩; obtain rfl := hw.symm)
        go_ret
        refine ⟨congrArg (fun z => Ending.returned (Value.int .i64 z)) (Eq.trans ?_ hR.out.symm), rfl⟩
        unfold checkS
        rw [if_pos (allS_no HX.out HNM.out)]
      · rw [hnm] at HN
        have hsn : Hid ((xs.take (i + 1)).all isNameS = true) := allS_snoc HX.out hall.out hnm
        clear hnm
        go_wp2_with (go_at_call 22; refine (HN.out _).mono ?_; rintro e w' ⟨rfl, hw⟩; obtain rfl := hw.symm)
        go_roundw
        case rel =>
          go_light
          exact ⟨trivial, i + 1, by omega, by go_num, hsn⟩
        case measure => simp [intOf]; omega
    · have hin : i = n := by omega
      subst hin
      have HA : Hid (R = if 8 < i then 42 else 0) := by
        show _ = _
        rw [hR.out]
        have := hall.out
        rw [List.take_of_length_le (by rw [Hn.out]; omega)] at this
        unfold checkS
        rw [if_neg (by rw [this]; simp), Hn.out]
      clear hR
      by_cases h8 : 8 < i
      · have HA2 := hid_in (HA.out.trans (if_pos h8))
        go_wp2_with fail
        go_ret
        refine ⟨congrArg (fun z => Ending.returned (Value.int .i64 z)) (Eq.trans ?_ HA2.out.symm), rfl⟩
        rfl
      · have HA2 := hid_in (HA.out.trans (if_neg h8))
        go_wp2_with fail
        go_ret
        refine ⟨congrArg (fun z => Ending.returned (Value.int .i64 z)) (Eq.trans ?_ HA2.out.symm), rfl⟩
        rfl

theorem clone_v {xs : List Str} {u : Value} {w : World} (hx : Val w u xs) (hl : xs.length ≤ 100000) : Calls Try.prog 27 #[u] w fun e w' => ∃ v', e = .returned v' ∧ Nms w' w.heap.size v' xs ∧ Below w.heap.size w w' := by
  obtain ⟨p, cap, rfl, hr⟩ := hx
  by_cases h0 : xs = []
  · subst h0
    cases p with
    | none => exact (Try.slices_Clone_string_nil 0 cap w).mono fun e w' ⟨he, hw⟩ => ⟨_, he, World.ownsRow_nil _ _ _ _, hw ▸ Below.refl _ _⟩
    | some a => exact (Try.slices_Clone_string_zero a cap w).mono fun e w' ⟨v', he, h1, _, h2⟩ => ⟨v', he, h1, h2⟩
  · obtain ⟨b, o, h1, h2⟩ := hr.cells
    obtain ⟨rfl, _⟩ := h1 h0
    refine (Try.slices_Clone_string b o xs.length cap (xs.map B) w (by simp) (by omega) (fun j hj => ?_)).mono fun e w' ⟨v', he, h3, _, h4⟩ => ⟨v', he, ?_, h4⟩
    · have hj2 : j < xs.length := by simpa using hj
      have := h2 j xs[j] (List.getElem?_eq_getElem hj2)
      simpa [List.getD_eq_getElem?_getD, hj2, sv] using this
    · unfold Nms
      rw [List.take_of_length_le (by simp), List.map_map] at h3
      exact h3

/-- the directory's path, the last name, the error -/
def splitS (xs : List Str) : List Str × Str × Int := if checkS xs ≠ 0 then ([], [], checkS xs) else if xs = [] then ([], [], 132) else (xs.dropLast, xs.getLastD [], 0)

set_option maxHeartbeats 1000000 in
set_option maxRecDepth 100000 in
theorem split_v {xs : List Str} {u : Value} {w : World} (hx : Val w u xs) (hl : Lib.lens xs + xs.length ≤ 140737488355328) (hl2 : xs.length ≤ 100000) : Calls Try.prog 14 #[u] w fun e w' => ∃ v, e = .returned (.tuple #[v, .string (B (splitS xs).2.1), .int .i64 (splitS xs).2.2]) ∧ Nms w' w.heap.size v (splitS xs).1 ∧ Below w.heap.size w w' := by
  have HC := hid_in (check_v hx hl)
  have HS : Hid (splitS xs = if checkS xs ≠ 0 then ([], [], checkS xs) else if xs = [] then ([], [], 132) else (xs.dropLast, xs.getLastD [], 0)) := rfl
  generalize splitS xs = R at HS ⊢
  generalize checkS xs = k at HC HS
  by_cases hk : k = 0
  · subst hk
    by_cases h0 : xs = []
    · have HR : R = ([], [], 132) := by rw [HS.out, if_neg (by simp), if_pos h0]
      subst HR h0
      obtain ⟨p, cap, rfl, hr⟩ := hx
      clear HS hr
      go_enter Try.func14, Try.ntmps14
      go_wp2_with (go_at_call 16; refine HC.out.mono ?_; rintro e w' ⟨rfl, hw⟩; obtain rfl := hw.symm)
      go_ret3
      exact ⟨_, rfl, World.ownsRow_nil _ _ _ _, Below.refl _ _⟩
    · have HR : R = (xs.dropLast, xs.getLastD [], 0) := by rw [HS.out, if_neg (by simp), if_neg h0]
      subst HR
      clear HS
      obtain ⟨p, cap, rfl, hr⟩ := hx
      obtain ⟨b, o, h1, h2⟩ := hr.cells
      obtain ⟨rfl, hb⟩ := h1 h0
      obtain ⟨k, hk⟩ : ∃ k, xs.length = k + 1 := ⟨xs.length - 1, by have := List.length_pos_iff.2 h0; omega⟩
      have hlast : xs[k]? = some (xs.getLastD []) := by
        rw [List.getLastD_eq_getLast?, List.getLast?_eq_getElem?, hk]
        have hlt : k < xs.length := by omega
        simp [List.getElem?_eq_getElem hlt]
      have hcl := h2 k _ hlast
      have hdl : xs.dropLast = xs.take k := by rw [List.dropLast_eq_take, hk]; rfl
      have hcd : Hid (∀ W, (∃ m, W = w.drewN m) → Calls Try.prog 27 #[.slice (some ⟨b, o, none⟩) k cap] W fun e w' => ∃ v', e = .returned v' ∧ Nms w' w.heap.size v' xs.dropLast ∧ Below w.heap.size w w') := by
        intro W hW
        have hv : Val W (.slice (some ⟨b, o, none⟩) k cap) xs.dropLast := by
          refine Val.drew ⟨_, _, ?_, by rw [hdl]; exact hr.take k (by omega)⟩ hW
          simp [hk]
        have hsz : W.heap.size = w.heap.size := by obtain ⟨m, rfl⟩ := hW; simp
        refine (clone_v hv (by simp; omega)).mono fun e w' ⟨v', he, h3, h4⟩ => ⟨v', he, ?_, ?_⟩
        · rw [hsz] at h3; exact h3
        · rw [hsz] at h4
          obtain ⟨m, rfl⟩ := hW
          exact (below_drewN (Below.refl _ _) m).trans h4
      have hcap : (k : Int) ≤ cap := by have := hr.le; omega
      have hcb := hr.big
      have HB := hid_in hb
      rw [hk] at HC hl2
      have hcl2 : w.cell? ⟨b, o + k, none⟩ = some (.string (B (xs.getLastD []))) := hcl
      clear hcl
      generalize B (xs.getLastD []) = sl at hcl2 ⊢
      have HCL := hid_in hcl2
      have hk0 : ((k : Int) + 1 == 0) = false := by rw [beq_eq_false_iff_ne]; omega
      clear hr h1 h2 hlast hdl hl h0 hb
      rw [hk]
      clear hk
      go_enter Try.func14, Try.ntmps14
      go_wp2_with (go_at_call 16; refine HC.out.mono ?_; rintro e w' ⟨rfl, hw⟩; obtain rfl := hw.symm)
      go_region_with (first | (go_at_call 27; refine (hcd.out _ ⟨1, rfl⟩).mono ?_; rintro e w2 ⟨v', rfl, hn, hbl⟩; have hc2 : w2.cell? ⟨b, o + k, none⟩ = some (.string sl) := (hbl.cell (p := ⟨b, o + k, none⟩) HB.out).trans HCL.out; have HN := hid_in hn; have HBL := hid_in hbl; clear hn hbl))
      all_goals
        go_wp2
        go_ret3
        exact ⟨v', rfl, HN.out, HBL.out⟩
  · have HR : R = ([], [], k) := by rw [HS.out, if_pos hk]
    subst HR
    have hk2 : (k != 0) = true := by simpa using hk
    clear HS hk
    go_enter Try.func14, Try.ntmps14
    go_wp2_with (go_at_call 16; refine HC.out.mono ?_; rintro e w' ⟨rfl, hw⟩; obtain rfl := hw.symm)
    go_ret3
    exact ⟨_, rfl, World.ownsRow_nil _ _ _ _, Below.refl _ _⟩
end Go.Proofs.Ytodfdinocnhaoaa
