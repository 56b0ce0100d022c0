/-
  A row of paths of the call's own; one more path behind it. The walks of Check and Split, of the reference's Check. Paths and their texts: what is shown is parsed as it was.
-/
import Derived.Lib.SlBytesConst
import Derived.Laws.CopyOwn
import Derived.Deep.RegionLaw
import Derived.Deep.DrawnRows
import Derived.Lib.AppendZeros
import Derived.Laws.Tables
import Derived.Test.YtngehkmdanhgpaaGreatQ00
import Derived.Test.YtngehkmdanhgpaaGreatQ01
import Derived.Test.YtngehkmdanhgpaaGreatQ02
import Derived.Test.YtngehkmdanhgpaaGreatQ03
import Derived.Test.YtngehkmdanhgpaaGreatQ04
import Derived.Test.YtngehkmdanhgpaaGreatQ05
import Derived.Test.YtngehkmdanhgpaaGreatQ06
import Derived.Test.YtngehkmdanhgpaaGreatQ07
import Derived.Test.YtngehkmdanhgpaaGreatQ08
import Derived.Test.YtngehkmdanhgpaaGreatQ09
namespace Go.Proofs.YtngehkmdanhgpaaGreat.Rf
open Go.RowKit
open Vp (Str B bl Val cmpL parseS showS sv)
/-- names in a row of their own -/
def Nm (w : World) (v : Value) (xs : List Str) : Prop := w.ownsRow 0 9 1 v xs.length (xs.map sv)
theorem own0 {w : World} {base n size : Nat} {e : TypeId} {v : Value} {xs : List Value} (h : w.ownsRow base e size v n xs) : w.ownsRow 0 e size v n xs := by
  refine ⟨h.1, ?_⟩
  rcases h.2 with h | ⟨g, cap, cur, h1, _, h3⟩
  · exact .inl h
  · exact .inr ⟨g, cap, cur, h1, Nat.zero_le _, h3⟩
theorem Nm.of {w : World} {base : Nat} {v : Value} {xs : List Str} (h : Vp.Nms w base v xs) : Nm w v xs := own0 h
theorem Nm.val {w : World} {v : Value} {xs : List Str} (h : Nm w v xs) : Val w v xs := Vp.Nms.val (base := 0) h
theorem Nm.below {w w' : World} {v : Value} {xs : List Str} (h : Nm w v xs) (hb : Below w.heap.size w w') : Nm w' v xs := Nd.own_belowK h hb
theorem Nm.form {w : World} {v : Value} {xs : List Str} (h : Nm w v xs) : ∃ p c, v = .slice p xs.length c := Vp.Nms.shape (base := 0) h
/-- what grows in a row of another type leaves names as they are -/
theorem Nm.grown {w w' : World} {v r : Value} {xs : List Str} {B n : Nat} {us : List Value} (h : Nm w v xs) (ho : w.ownsRow B 35 1 r n us) (hg : w.grownBy w' r.ownBlock) : Nm w' v xs := by
  obtain ⟨h1, h2 | ⟨g, cap, cur, rfl, hB, hh, rest⟩⟩ := h
  · exact ⟨h1, .inl h2⟩
  · refine ⟨h1, .inr ⟨g, cap, cur, rfl, hB, ?_, rest⟩⟩
    have hlt : g < w.heap.size := (Array.getElem?_eq_some_iff.1 hh).1
    rw [hg.block g hlt (fun e => ?_)]
    · exact hh
    · obtain ⟨_, ⟨rfl, _⟩ | ⟨g', cap', cur', rfl, _, hh', _⟩⟩ := ho
      · cases e
      · have e2 : g = g' := by simpa [Value.ownBlock] using e
        subst e2
        rw [hh] at hh'
        simp at hh'
/-- a row of paths of the call's own -/
def PO (w : World) (B : Nat) (v : Value) (ps : List (List Str)) : Prop := ∃ us : List Value, us.length = ps.length ∧ w.ownsRow B 35 1 v ps.length us ∧ ∀ (i : Nat) x, ps[i]? = some x → ∃ u, us[i]? = some u ∧ Nm w u x
theorem PO.nil (w : World) (B : Nat) : PO w B (.slice none 0 0) [] := ⟨[], rfl, World.ownsRow_nil _ _ _ _, fun i x h => by simp at h⟩
theorem PO.below {w w' : World} {B : Nat} {v : Value} {ps : List (List Str)} (h : PO w B v ps) (hb : Below w.heap.size w w') : PO w' B v ps := by
  obtain ⟨us, h1, h2, h3⟩ := h
  refine ⟨us, h1, Nd.own_belowK h2 hb, fun i x hx => ?_⟩
  obtain ⟨u, h4, h5⟩ := h3 i x hx
  exact ⟨u, h4, h5.below hb⟩
theorem PO.own {w : World} {B : Nat} {v : Value} {ps : List (List Str)} (h : PO w B v ps) (k : Nat) (hk : v.ownBlock = some k) : B ≤ k ∧ k < w.heap.size := by
  obtain ⟨us, _, h2, _⟩ := h
  exact Nd.own_geK h2 k hk
theorem PO.pths {w : World} {B : Nat} {v : Value} {ps : List (List Str)} (h : PO w B v ps) : Pths w v ps := by
  obtain ⟨us, h1, h2, h3⟩ := h
  obtain ⟨_, ⟨rfl, h0⟩ | ⟨g, cap, cur, rfl, hB, hh, hn, hm, hs, ht⟩⟩ := h2
  · obtain rfl := List.length_eq_zero_iff.1 h0
    exact ⟨none, 0, 0, 0, rfl, by simp, by omega, fun h => absurd rfl h, fun i x h => by simp at h⟩
  · have hlt : g < w.heap.size := (Array.getElem?_eq_some_iff.1 hh).1
    refine ⟨_, cap, g, 0, rfl, hn, by unfold maxLen at hm; omega, fun _ => ⟨rfl, hlt⟩, fun i x hx => ?_⟩
    obtain ⟨u, h4, h5⟩ := h3 i x hx
    have hi : i < ps.length := (List.getElem?_eq_some_iff.1 hx).1
    have ht2 : (cur.toList.take (ps.length * 1))[i]? = us[i]? := by rw [ht]
    rw [Nat.mul_one, List.getElem?_take, if_pos hi, h4, Array.getElem?_toList] at ht2
    exact ⟨u, by rw [Nat.zero_add, cell_of_row w g i _ _ (0, 0) hh, ht2], h5.val⟩
theorem info91h : ∃ i z, Hid (Tryz.prog.info? 35 = some i) ∧ Hid (i.size = 1) ∧ Hid (i.bytes = 24) ∧ Hid (i.zero = some z) ∧ Hid (z.cells.size = 1) := by
  have h : (Tryz.prog.info? 35).map (fun i => (i.size, i.bytes, i.zero.map (·.cells.size))) = some (1, 24, some 1) := by kernel_rfl
  cases hi : Tryz.prog.info? 35 with
  | none => rw [hi] at h; cases h
  | some i =>
    rw [hi] at h
    simp only [Option.map_some, Option.some.injEq, Prod.mk.injEq] at h
    obtain ⟨h1, h2, h3⟩ := h
    cases hz : i.zero with
    | none => rw [hz] at h3; cases h3
    | some z => rw [hz] at h3; exact ⟨i, z, rfl, h1, h2, hz, Option.some.inj h3⟩
/-- one more path behind a row of the call's own -/
theorem wpList_app178 {ops : Array Oper} {rest : List Oper} {o : Oper} {a : Act} {w : World} {Q : Exit → Act → World → Prop} (B : Nat) (hgd : o.guard = none) (s x : Operand) (ho : o.op = .call { callee := .builtin .append, args := #[s, x], argTypes := #[91, 91] })
    (v : Value) (ps : List (List Str)) (hs : a.eval s = v) (hown : PO w B v ps) (u : Value) (y : List Str) (hu : Nm w u y) (hx : a.eval x = .slice (some ⟨w.heap.size, 0, none⟩) 1 1) (hlen : ps.length + 1 ≤ 1000000) (hB : B ≤ w.heap.size)
    (h : ∀ v' w', PO w' B v' (ps ++ [y]) → (w.alloc (.cells #[u] 35)).grownBy w' v.ownBlock → wpList Tryz.prog ops Q rest (a.put o.dst v') w') : wpList Tryz.prog ops Q (o :: rest) a (w.alloc (.cells #[u] 35)) := by
  obtain ⟨us, h1, h2, h3⟩ := hown
  obtain ⟨i, z, hi, hz1, hz2, hz3, hz4⟩ := info91h
  have hba : Below w.heap.size w (w.alloc (.cells #[u] 35)) := (Below.refl _ _).alloc (Nat.le_refl _) _
  have ho2 := Nd.own_belowK h2 hba
  obtain ⟨pu, cu, hfu⟩ := hu.form
  refine wpList_append_own (w.alloc (.cells #[u] 35)) hgd s x 91 ho B 35 i z 1 24 Tryz.underlying91 hi.out hz3.out hz1.out hz2.out hz4.out (by decide) v ps.length us hs ho2 ⟨w.heap.size, 0, none⟩ 1 1 [u] hx rfl (World.news_of_block (heap_alloc_new w _)) (by intro k hk; simp at hk; subst hk; rw [hfu]; rfl) (by unfold maxLen; omega) (by omega) (Nat.le_trans hB hba.size) ?_
  intro v' w' h6 h7 _
  refine h v' w' ⟨us ++ [u], by simp [h1], ?_, fun j t hj => ?_⟩ h7
  · rw [List.length_append]
    exact h6
  · rcases Nat.lt_or_ge j ps.length with hl | hl
    · rw [List.getElem?_append_left hl] at hj
      obtain ⟨u', h8, h9⟩ := h3 j t hj
      exact ⟨u', by rw [List.getElem?_append_left (by omega)]; exact h8, (h9.below hba).grown ho2 h7⟩
    · rw [List.getElem?_append_right hl] at hj
      have h0 : j - ps.length = 0 := by
        have := (List.getElem?_eq_some_iff.1 hj).1
        simp at this; omega
      rw [h0] at hj
      simp only [List.getElem?_cons_zero, Option.some.injEq] at hj
      subst hj
      refine ⟨u, ?_, (hu.below hba).grown ho2 h7⟩
      rw [List.getElem?_append_right (by omega), h1, h0]
      rfl
end Go.Proofs.YtngehkmdanhgpaaGreat.Rf
namespace Go.Proofs.YtngehkmdanhgpaaGreat.Vp
open Go.RowKit
/-- whether names are a path's -/
def checkS (xs : List Str) : Int := if xs.all isNameS = false then 41 else if 8 < xs.length then 42 else 0
theorem lens_mem {xs : List Str} {x : Str} (h : x ∈ xs) : x.length ≤ Lib.lens xs := by
  induction xs with
  | nil => cases h
  | cons y r ih =>
    simp only [Lib.lens, List.map_cons, List.sum_cons] at ih ⊢
    rcases List.mem_cons.1 h with rfl | h
    · omega
    · have := ih h; omega
theorem allS_snoc {p : Str → Bool} {l : List Str} {i : Nat} {c : Str} (hc : l[i]? = some c) (h : (l.take i).all p = true) (hp : p c = true) : (l.take (i + 1)).all p = true := by
  rw [List.take_add_one, hc]; simp [List.all_append, h, hp]
theorem allS_no {p : Str → Bool} {l : List Str} {i : Nat} {c : Str} (hc : l[i]? = some c) (hp : p c = false) : l.all p = false := by
  rw [List.all_eq_false]
  exact ⟨c, List.mem_of_getElem? hc, by simp [hp]⟩
set_option maxHeartbeats 400000 in
set_option maxRecDepth 100000 in
theorem check_v {xs : List Str} {u : Value} {w : World} (hx : Val w u xs) (hl : Lib.lens xs + xs.length ≤ 140737488355328) : Calls Tryz.prog 121 #[u] w fun e w' => e = .returned (.int .i64 (checkS xs)) ∧ w' = w := by
  obtain ⟨p, cap, b, o, rfl, hle, hbig, hp, hc⟩ := val_at hx
  obtain ⟨R, hR⟩ : ∃ R, Hid (R = checkS xs) := ⟨_, rfl⟩
  rw [← hR.out]
  have HC := hid_in hc
  have HP := hid_in hp
  have HL := hid_in hl
  have hb1 : xs.length ≤ 9223372036854775807 := by omega
  generalize hn : xs.length = n at *
  have Hn := hid_in hn
  clear hn hc hp hx hl
  go_enter Tryz.func121, Tryz.ntmps121
  go_wp2_with fail
  go_loopw [7] (fun vi w' => w' = w ∧ ∃ i : Nat, i ≤ n ∧ vi = .int .i64 (i : Int) ∧ Hid ((xs.take i).all isNameS = true)) (fun vi _ => n - (intOf vi).toNat)
  case atStart => exact ⟨rfl, 0, by omega, rfl, rfl⟩
  case round =>
    obtain ⟨hw, i, hi, rfl, hall⟩ := hrel
    obtain rfl := hw.symm
    by_cases hlt : i < n
    · obtain ⟨x, hxi⟩ : ∃ d, xs[i]? = some d := ⟨_, List.getElem?_eq_getElem (by rw [Hn.out]; exact hlt)⟩
      have cx := HC.out i x hxi
      obtain rfl := HP.out (by rintro rfl; simp at hxi)
      have HN := hid_in (isName_any x (by have := lens_mem (List.mem_of_getElem? hxi); have := HL.out; omega))
      have HX := hid_in hxi
      clear hxi
      cases hnm : isNameS x
      · rw [hnm] at HN
        have HNM := hid_in hnm
        clear hnm
        go_wp2_with (go_at_call 137; refine (HN.out _).mono ?_; rintro e w' ⟨rfl, hw⟩; obtain rfl := hw.symm)
        go_ret
        refine ⟨congrArg (fun z => Ending.returned (Value.int .i64 z)) (Eq.trans ?_ hR.out.symm), rfl⟩
        unfold checkS
        rw [if_pos (allS_no HX.out HNM.out)]
      · rw [hnm] at HN
        have hsn : Hid ((xs.take (i + 1)).all isNameS = true) := allS_snoc HX.out hall.out hnm
        clear hnm
        go_wp2_with (go_at_call 137; refine (HN.out _).mono ?_; rintro e w' ⟨rfl, hw⟩; obtain rfl := hw.symm)
        go_roundw
        case rel =>
          go_light
          exact ⟨trivial, i + 1, by omega, by go_num, hsn⟩
        case measure => simp [intOf]; omega
    · have hin : i = n := by omega
      subst hin
      have HA : Hid (R = if 8 < i then 42 else 0) := by
        show _ = _
        rw [hR.out]
        have := hall.out
        rw [List.take_of_length_le (by rw [Hn.out]; omega)] at this
        unfold checkS
        rw [if_neg (by rw [this]; simp), Hn.out]
      clear hR
      by_cases h8 : 8 < i
      · have HA2 := hid_in (HA.out.trans (if_pos h8))
        go_wp2_with fail
        go_ret
        refine ⟨congrArg (fun z => Ending.returned (Value.int .i64 z)) (Eq.trans ?_ HA2.out.symm), rfl⟩
        rfl
      · have HA2 := hid_in (HA.out.trans (if_neg h8))
        go_wp2_with fail
        go_ret
        refine ⟨congrArg (fun z => Ending.returned (Value.int .i64 z)) (Eq.trans ?_ HA2.out.symm), rfl⟩
        rfl
theorem clone_v {xs : List Str} {u : Value} {w : World} (hx : Val w u xs) (hl : xs.length ≤ 100000) : Calls Tryz.prog 122 #[u] w fun e w' => ∃ v', e = .returned v' ∧ Nms w' w.heap.size v' xs ∧ Below w.heap.size w w' := by
  obtain ⟨p, cap, rfl, hr⟩ := hx
  by_cases h0 : xs = []
  · subst h0
    cases p with
    | none => exact (Tryz.slices_Clone_string_nil 0 cap w).mono fun e w' ⟨he, hw⟩ => ⟨_, he, World.ownsRow_nil _ _ _ _, hw ▸ Below.refl _ _⟩
    | some a => exact (Tryz.slices_Clone_string_zero a cap w).mono fun e w' ⟨v', he, h1, _, h2⟩ => ⟨v', he, h1, h2⟩
  · obtain ⟨b, o, h1, h2⟩ := hr.cells
    obtain ⟨rfl, _⟩ := h1 h0
    refine (Tryz.slices_Clone_string b o xs.length cap (xs.map B) w (by simp) (by omega) (fun j hj => ?_)).mono fun e w' ⟨v', he, h3, _, h4⟩ => ⟨v', he, ?_, h4⟩
    · have hj2 : j < xs.length := by simpa using hj
      have := h2 j xs[j] (List.getElem?_eq_getElem hj2)
      simpa [List.getD_eq_getElem?_getD, hj2, sv] using this
    · unfold Nms
      rw [List.take_of_length_le (by simp), List.map_map] at h3
      exact h3
/-- the directory's path, the last name, the error -/
def splitS (xs : List Str) : List Str × Str × Int := if checkS xs ≠ 0 then ([], [], checkS xs) else if xs = [] then ([], [], 132) else (xs.dropLast, xs.getLastD [], 0)
set_option maxHeartbeats 1000000 in
set_option maxRecDepth 100000 in
theorem split_v {xs : List Str} {u : Value} {w : World} (hx : Val w u xs) (hl : Lib.lens xs + xs.length ≤ 140737488355328) (hl2 : xs.length ≤ 100000) : Calls Tryz.prog 90 #[u] w fun e w' => ∃ v, e = .returned (.tuple #[v, .string (B (splitS xs).2.1), .int .i64 (splitS xs).2.2]) ∧ Nms w' w.heap.size v (splitS xs).1 ∧ Below w.heap.size w w' := by
  have HC := hid_in (check_v hx hl)
  have HS : Hid (splitS xs = if checkS xs ≠ 0 then ([], [], checkS xs) else if xs = [] then ([], [], 132) else (xs.dropLast, xs.getLastD [], 0)) := rfl
  generalize splitS xs = R at HS ⊢
  generalize checkS xs = k at HC HS
  by_cases hk : k = 0
  · subst hk
    by_cases h0 : xs = []
    · have HR : R = ([], [], 132) := by rw [HS.out, if_neg (by simp), if_pos h0]
      subst HR h0
      obtain ⟨p, cap, rfl, hr⟩ := hx
      clear HS hr
      go_enter Tryz.func90, Tryz.ntmps90
      go_wp2_with (go_at_call 121; refine HC.out.mono ?_; rintro e w' ⟨rfl, hw⟩; obtain rfl := hw.symm)
      go_ret3
      exact ⟨_, rfl, World.ownsRow_nil _ _ _ _, Below.refl _ _⟩
    · have HR : R = (xs.dropLast, xs.getLastD [], 0) := by rw [HS.out, if_neg (by simp), if_neg h0]
      subst HR
      clear HS
      obtain ⟨p, cap, rfl, hr⟩ := hx
      obtain ⟨b, o, h1, h2⟩ := hr.cells
      obtain ⟨rfl, hb⟩ := h1 h0
      obtain ⟨k, hk⟩ : ∃ k, xs.length = k + 1 := ⟨xs.length - 1, by have := List.length_pos_iff.2 h0; omega⟩
      have hlast : xs[k]? = some (xs.getLastD []) := by
        rw [List.getLastD_eq_getLast?, List.getLast?_eq_getElem?, hk]
        have hlt : k < xs.length := by omega
        simp [List.getElem?_eq_getElem hlt]
      have hcl := h2 k _ hlast
      have hdl : xs.dropLast = xs.take k := by rw [List.dropLast_eq_take, hk]; rfl
      have hcd : Hid (∀ W, (∃ m, W = w.drewN m) → Calls Tryz.prog 122 #[.slice (some ⟨b, o, none⟩) k cap] W fun e w' => ∃ v', e = .returned v' ∧ Nms w' w.heap.size v' xs.dropLast ∧ Below w.heap.size w w') := by
        intro W hW
        have hv : Val W (.slice (some ⟨b, o, none⟩) k cap) xs.dropLast := by
          refine Val.drew ⟨_, _, ?_, by rw [hdl]; exact hr.take k (by omega)⟩ hW
          simp [hk]
        have hsz : W.heap.size = w.heap.size := by obtain ⟨m, rfl⟩ := hW; simp
        refine (clone_v hv (by simp; omega)).mono fun e w' ⟨v', he, h3, h4⟩ => ⟨v', he, ?_, ?_⟩
        · rw [hsz] at h3; exact h3
        · rw [hsz] at h4
          obtain ⟨m, rfl⟩ := hW
          exact (below_drewN (Below.refl _ _) m).trans h4
      have hcap : (k : Int) ≤ cap := by have := hr.le; omega
      have hcb := hr.big
      have HB := hid_in hb
      rw [hk] at HC hl2
      have hcl2 : w.cell? ⟨b, o + k, none⟩ = some (.string (B (xs.getLastD []))) := hcl
      clear hcl
      generalize B (xs.getLastD []) = sl at hcl2 ⊢
      have HCL := hid_in hcl2
      have hk0 : ((k : Int) + 1 == 0) = false := by rw [beq_eq_false_iff_ne]; omega
      clear hr h1 h2 hlast hdl hl h0 hb
      rw [hk]
      clear hk
      go_enter Tryz.func90, Tryz.ntmps90
      go_wp2_with (go_at_call 121; refine HC.out.mono ?_; rintro e w' ⟨rfl, hw⟩; obtain rfl := hw.symm)
      go_region_with (first | (go_at_call 122; refine (hcd.out _ ⟨1, rfl⟩).mono ?_; rintro e w2 ⟨v', rfl, hn, hbl⟩; have hc2 : w2.cell? ⟨b, o + k, none⟩ = some (.string sl) := (hbl.cell (p := ⟨b, o + k, none⟩) HB.out).trans HCL.out; have HN := hid_in hn; have HBL := hid_in hbl; clear hn hbl))
      all_goals
        go_wp2
        go_ret3
        exact ⟨v', rfl, HN.out, HBL.out⟩
  · have HR : R = ([], [], k) := by rw [HS.out, if_pos hk]
    subst HR
    have hk2 : (k != 0) = true := by simpa using hk
    clear HS hk
    go_enter Tryz.func90, Tryz.ntmps90
    go_wp2_with (go_at_call 121; refine HC.out.mono ?_; rintro e w' ⟨rfl, hw⟩; obtain rfl := hw.symm)
    go_ret3
    exact ⟨_, rfl, World.ownsRow_nil _ _ _ _, Below.refl _ _⟩
end Go.Proofs.YtngehkmdanhgpaaGreat.Vp
namespace Go.Proofs.YtngehkmdanhgpaaGreat.Vp
/-- a path's names -/
def IsPath (xs : List Str) : Prop := ∀ x ∈ xs, isNameS x = true
theorem name_facts {x : Str} (h : isNameS x = true) : x ≠ [] ∧ x ≠ [46] ∧ x ≠ [46, 46] ∧ x.length ≤ 16 ∧ x.all plain = true := by
  unfold isNameS at h
  simp only [Bool.and_eq_true, Bool.not_eq_true', beq_eq_false_iff_ne, decide_eq_true_eq] at h
  exact ⟨h.1.1.1.1, h.1.1.1.2, h.1.1.2, h.1.2, h.2⟩
theorem name_of {x : Str} (h0 : x ≠ []) (h1 : x ≠ [46]) (h2 : x ≠ [46, 46]) (h3 : x.length ≤ 16) (h4 : x.all plain = true) : isNameS x = true := by
  unfold isNameS
  rw [beq_eq_false_iff_ne.2 h0, beq_eq_false_iff_ne.2 h1, beq_eq_false_iff_ne.2 h2, decide_eq_true h3, h4]; rfl
theorem plain_ne {c : UInt8} (h : plain c = true) : c ≠ 47 := by
  rintro rfl
  exact absurd h (by decide)
theorem name_no {x : Str} (h : isNameS x = true) : ∀ c ∈ x, c ≠ 47 := fun c hc => plain_ne (List.all_eq_true.1 (name_facts h).2.2.2.2 c hc)
theorem step_name (xs : List Str) {x : Str} (h : isNameS x = true) : stepS xs x = xs ++ [x] := by
  obtain ⟨h0, h1, h2, _⟩ := name_facts h
  unfold stepS
  rw [if_neg (by rintro (e | e); exact h0 e; exact h1 e), if_neg h2]
theorem fold_names (acc : List Str) {xs : List Str} (h : IsPath xs) : xs.foldl stepS acc = acc ++ xs := by
  induction xs generalizing acc with
  | nil => simp
  | cons x r ih =>
    rw [List.foldl_cons, step_name acc (h x (by simp)), ih _ (fun y hy => h y (by simp [hy]))]
    simp
theorem names_self {xs : List Str} (h : IsPath xs) : namesS xs = xs := by
  have := fold_names [] h
  simpa [namesS] using this
theorem long_none {xs : List Str} (h : IsPath xs) : xs.any long = false := by
  rw [List.any_eq_false]
  intro x hx
  have := (name_facts (h x hx)).2.2.2.1
  simp [long]; omega
theorem ok_name {x : Str} (h : isNameS x = true) : x.all okByte = true := by
  rw [List.all_eq_true]
  intro c hc
  unfold okByte
  rw [List.all_eq_true.1 (name_facts h).2.2.2.2 c hc]; rfl
theorem pieces_tail {r : List Str} (h : IsPath r) (x : Str) (hx : ∀ c ∈ x, c ≠ 47) : piecesS (x ++ Lib.joinTail [47] r) = x :: r := by
  induction r generalizing x with
  | nil => simp [Lib.joinTail, pieces_plain x hx]
  | cons y r ih =>
    have e : Lib.joinTail [47] (y :: r) = 47 :: (y ++ Lib.joinTail [47] r) := by simp [Lib.joinTail]
    rw [e, pieces_stroke _ _ hx, ih (fun z hz => h z (by simp [hz])) y (name_no (h y (by simp)))]
theorem show_ok {xs : List Str} (h : IsPath xs) : (showS xs).all okByte = true := by
  rw [← showR_eq]
  unfold showR
  split
  · decide
  · rw [List.all_flatten]
    rw [List.all_map, List.all_eq_true]
    intro x hx
    simp only [Function.comp, List.all_cons, ok_name (h x hx), Bool.and_true]
    decide
theorem show_len (xs : List Str) : (showS xs).length ≤ Lib.lens xs + xs.length + 1 := by
  unfold showS
  have := join_le xs
  simp; omega
theorem text_of {l : Str} (h : (47 :: l).all okByte = true) : isTextS (47 :: l) = true := by
  have e : isTextS (47 :: l) = (((47 : UInt8) == 47) && (47 :: l).all okByte) := rfl
  rw [e, h]; rfl
/-- what a text means, by its pieces -/
theorem parse_of {l : Str} {ps xs : List Str} (hl : (47 :: l).length ≤ 256) (hok : (47 :: l).all okByte = true) (hp : piecesS l = ps) (hlong : ps.any long = false) (hn : namesS ps = xs) : parseS (47 :: l) = if 8 < xs.length then ([], 42) else (xs, 0) := by
  unfold parseS
  rw [if_neg (by omega), if_neg (by rw [text_of hok]; simp)]
  simp only [List.drop_succ_cons, List.drop_zero]
  rw [hp, if_neg (by rw [hlong]; simp), hn]
theorem parse_show {xs : List Str} (h : IsPath xs) (hl : (showS xs).length ≤ 256) : parseS (showS xs) = if 8 < xs.length then ([], 42) else (xs, 0) := by
  have hok := show_ok h
  cases xs with
  | nil => decide +kernel
  | cons x r =>
    have hp : piecesS (Lib.join (x :: r) [47]) = x :: r := by
      rw [Lib.join_cons]; exact pieces_tail (fun z hz => h z (by simp [hz])) x (name_no (h x (by simp)))
    exact parse_of hl hok hp (long_none h) (names_self h)
theorem pieces_mem {x : Str} {q : UInt8 → Bool} (h : x.all q = true) : ∀ p ∈ piecesS x, p.all (fun c => q c && !(c == 47)) = true := by
  induction x with
  | nil => intro p hp; simp [piecesS] at hp; subst hp; rfl
  | cons c r ih =>
    rw [List.all_cons, Bool.and_eq_true] at h
    intro p hp
    unfold piecesS at hp
    by_cases hc : c = 47
    · rw [if_pos hc] at hp
      rcases List.mem_cons.1 hp with rfl | hp
      · rfl
      · exact ih h.2 p hp
    · rw [if_neg hc] at hp
      cases hq : piecesS r with
      | nil =>
        rw [hq] at hp
        simp at hp; subst hp
        simp [h.1, hc]
      | cons p0 ps =>
        rw [hq] at hp
        rcases List.mem_cons.1 hp with rfl | hp
        · rw [List.all_cons, ih h.2 p0 (by rw [hq]; simp), h.1]; simp [hc]
        · exact ih h.2 p (by rw [hq]; simp [hp])
theorem step_path {xs : List Str} {p : Str} (h : IsPath xs) (hp : p.all plain = true) (hl : p.length ≤ 16) : IsPath (stepS xs p) := by
  unfold stepS
  split
  · exact h
  · rename_i h1
    split
    · intro x hx; exact h x (List.dropLast_subset xs hx)
    · rename_i h2
      intro x hx
      rcases List.mem_append.1 hx with hx | hx
      · exact h x hx
      · simp at hx; subst hx
        exact name_of (fun e => h1 (.inl e)) (fun e => h1 (.inr e)) h2 hl hp
theorem names_path {ps : List Str} (h1 : ∀ p ∈ ps, p.all plain = true) (h2 : ps.any long = false) : IsPath (namesS ps) := by
  have : ∀ (qs acc : List Str), (∀ p ∈ qs, p.all plain = true) → qs.any long = false → IsPath acc → IsPath (qs.foldl stepS acc) := by
    intro qs
    induction qs with
    | nil => intro acc _ _ h; exact h
    | cons q r ih =>
      intro acc g1 g2 h
      rw [List.any_cons, Bool.or_eq_false_iff] at g2
      refine ih _ (fun p hp => g1 p (by simp [hp])) g2.2 (step_path h (g1 q (by simp)) ?_)
      have := g2.1
      simp [long] at this
      exact this
  exact this ps [] h1 h2 (fun x hx => by cases hx)
/-- what Parse answers is a path. -/
theorem parse_path_ok (s : Str) : IsPath (parseS s).1 ∧ (parseS s).1.length ≤ 8 := by
  have hnil : IsPath [] := fun x hx => by cases hx
  unfold parseS
  split
  · exact ⟨hnil, by simp⟩
  · split
    · exact ⟨hnil, by simp⟩
    · rename_i ht
      split
      · exact ⟨hnil, by simp⟩
      · rename_i hlong
        split
        · exact ⟨hnil, by simp⟩
        · rename_i h8
          refine ⟨names_path ?_ (by simpa using hlong), by simp only; omega⟩
          cases s with
          | nil => exact absurd rfl ht
          | cons c r =>
            have e : isTextS (c :: r) = ((c == 47) && (c :: r).all okByte) := rfl
            rw [e] at ht
            have hall : r.all okByte = true := by
              cases hq : r.all okByte
              · rw [List.all_cons, hq] at ht; simp at ht
              · rfl
            intro p hp
            have := pieces_mem hall p (by simpa using hp)
            rw [List.all_eq_true] at this ⊢
            intro d hd
            have hd2 := this d hd
            unfold okByte at hd2
            simp at hd2
            rcases hd2 with ⟨h1 | h1, h2⟩
            · exact h1
            · exact absurd h1 h2
end Go.Proofs.YtngehkmdanhgpaaGreat.Vp
