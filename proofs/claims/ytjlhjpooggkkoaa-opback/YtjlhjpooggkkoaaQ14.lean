/-
  The walk of the reference's Decode. Encode and Decode, each told in one form; the walk of the statement OpBytes.
-/
import Derived.Deep.RegionLaw
import Derived.Deep.DrawnRows
import Derived.Test.YtjlhjpooggkkoaaRows
import Derived.OwnWalk
import Derived.Deep.CutRange
import Derived.Laws.Tables
import Derived.Laws.CopyOwn
import Derived.Test.YtjlhjpooggkkoaaQ00
import Derived.Test.YtjlhjpooggkkoaaQ01
import Derived.Test.YtjlhjpooggkkoaaQ02
import Derived.Test.YtjlhjpooggkkoaaQ03
import Derived.Test.YtjlhjpooggkkoaaQ04
import Derived.Test.YtjlhjpooggkkoaaQ05
import Derived.Test.YtjlhjpooggkkoaaQ06
import Derived.Test.YtjlhjpooggkkoaaQ07
import Derived.Test.YtjlhjpooggkkoaaQ08
import Derived.Test.YtjlhjpooggkkoaaQ09
import Derived.Test.YtjlhjpooggkkoaaQ10
namespace Go.Proofs.Ytjlhjpooggkkoaa.Nd
open Go.RowKit
theorem three_rows6 (w : World) (v : Value) : ∃ W, Hid (((w.alloc (.cells #[.int .i64 0, .string ⟨#[]⟩, .string ⟨#[]⟩, .string ⟨#[]⟩, .int .i64 0, .int .i64 0] 23)).alloc (.cells #[v, .int .i64 0, .int .i64 0] 67)).alloc (.cells #[.int .i64 0, .string ⟨#[]⟩, .string ⟨#[]⟩, .string ⟨#[]⟩, .int .i64 0, .int .i64 0] 23) = W) ∧ Row W w.heap.size [.int .i64 0, .string ⟨#[]⟩, .string ⟨#[]⟩, .string ⟨#[]⟩, .int .i64 0, .int .i64 0] 23 ∧ Row W (w.heap.size + 1) [v, .int .i64 0, .int .i64 0] 67 ∧ Row W (w.heap.size + 1 + 1) [.int .i64 0, .string ⟨#[]⟩, .string ⟨#[]⟩, .string ⟨#[]⟩, .int .i64 0, .int .i64 0] 23 ∧ Below w.heap.size w W := by
  refine ⟨_, rfl, ?_, ?_, ?_, bel3 w _ _ _⟩
  · exact ((Row.new w [.int .i64 0, .string ⟨#[]⟩, .string ⟨#[]⟩, .string ⟨#[]⟩, .int .i64 0, .int .i64 0] 23).alloc _).alloc _
  · exact row_mid w _ _ [v, .int .i64 0, .int .i64 0] 67
  · exact Row.newAt _ _ [.int .i64 0, .string ⟨#[]⟩, .string ⟨#[]⟩, .string ⟨#[]⟩, .int .i64 0, .int .i64 0] 23 (by simp)
/-- under way in the reference: what is read so far lies at G -/
structure RV (w : World) (g G : Nat) (cs : List Value) (s : Sta) (W : World) : Prop where
  ri : RI w.heap.size W g s
  row : Row W G cs 23
  z : Row W w.heap.size [.int .i64 0, .string ⟨#[]⟩, .string ⟨#[]⟩, .string ⟨#[]⟩, .int .i64 0, .int .i64 0] 23
  below : Below w.heap.size w W
  gs : w.heap.size < g ∧ g < G
theorem RV.read {w : World} {g G : Nat} {cs : List Value} {s s' : Sta} {W W' : World} (h : RV w g G cs s W) (hi : RI w.heap.size W' g s') (hg : Grew W W' (· = g)) : RV w g G cs s' W' :=
  ⟨hi, h.row.grew hg (by have := h.gs; omega), h.z.grew hg (by have := h.gs; omega), hg.below h.below h.below.size (fun k hk => by have := h.gs; omega), h.gs⟩
theorem RV.put {w : World} {g G : Nat} {cs : List Value} {s : Sta} {W : World} (h : RV w g G cs s W) (i : Nat) (v : Value) : RV w g G (cs.set i v) s (W.setCell ⟨G, i, none⟩ v) := by
  have hg := grownBy_setCell W ⟨G, i, none⟩ v
  have hb : Below G W (W.setCell ⟨G, i, none⟩ v) := (Below.refl _ _).grown hg (Nat.le_of_lt h.row.lt) (fun k e => by cases e; exact Nat.le_refl _)
  have h1 := h.gs
  exact ⟨h.ri.belowM hb h1.2 (by omega), h.row.set_same i v, h.z.set_other ⟨G, i, none⟩ v (by show _ ≠ G; omega), h.below.trans (hb.mono (by omega)), h1⟩
theorem RV.drew {w : World} {g G : Nat} {cs : List Value} {s : Sta} {W : World} (h : RV w g G cs s W) : RV w g G cs s W.drew := by
  have hb : Below W.heap.size W W.drew := (Below.refl _ _).drew
  exact ⟨h.ri.belowM hb h.ri.blk h.below.size, h.row.drew, h.z.drew, h.below.drew, h.gs⟩
theorem RI.at2 {B : Nat} {w : World} {g : Nat} {l : List Nat} {e : Nat} (h : RI B w g (l, e)) : w.cell? ⟨g, 2, none⟩ = some (.int .i64 (e : Int)) := by
  obtain ⟨bs, k, h, _⟩ := h
  obtain ⟨_, _, _, _, hr, _⟩ := h.ex
  exact hr.cell 2
set_option maxHeartbeats 4000000 in
set_option maxRecDepth 100000 in
theorem rdecode_p (bs : List Nat) (p : Option Addr) (cap b off : Nat) (w : World) (hsl : Sl w p bs cap b off) :
    Calls Try.prog 19 #[.slice p bs.length cap] w fun e w' => (((rdO (bs, 0)).2 = ([], 0) ∧ e = .returned (.tuple #[(rdO (bs, 0)).1.val, .bool true])) ∨ ((rdO (bs, 0)).2 ≠ ([], 0) ∧ e = .returned (.tuple #[zeroO.val, .bool false]))) ∧ Below w.heap.size w w' := by
  obtain ⟨W1, HW1, hz, hi, hg, hb⟩ := three_rows6 w (.slice p bs.length cap)
  obtain ⟨g, hgg⟩ : ∃ g, w.heap.size + 1 = g := ⟨_, rfl⟩
  obtain ⟨G, hGG⟩ : ∃ G, w.heap.size + 1 + 1 = G := ⟨_, rfl⟩
  have HP1 : Hid (RV w g G [.int .i64 0, .string ⟨#[]⟩, .string ⟨#[]⟩, .string ⟨#[]⟩, .int .i64 0, .int .i64 0] (bs, 0) W1) := ⟨⟨bs, 0, ⟨⟨p, cap, b, off, hgg ▸ hi, hsl.below hb, fun h => ⟨by have := hsl.blk h; omega, hsl.blk h⟩⟩, by omega⟩, rfl⟩, hGG ▸ hg, hz, hb, by omega⟩
  obtain ⟨a1, s1, HS1⟩ : ∃ a s, Hid (sInt (bs, 0) = (a, s)) := ⟨_, _, rfl⟩
  obtain ⟨y2, s2, HS2⟩ : ∃ a s, Hid (sText 1100 s1 = (a, s)) := ⟨_, _, rfl⟩
  obtain ⟨y3, s3, HS3⟩ : ∃ a s, Hid (sText 1100 s2 = (a, s)) := ⟨_, _, rfl⟩
  obtain ⟨y4, s4, HS4⟩ : ∃ a s, Hid (sText 1100 s3 = (a, s)) := ⟨_, _, rfl⟩
  obtain ⟨a5, s5, HS5⟩ : ∃ a s, Hid (sInt s4 = (a, s)) := ⟨_, _, rfl⟩
  obtain ⟨a6, s6, HS6⟩ : ∃ a s, Hid (sInt s5 = (a, s)) := ⟨_, _, rfl⟩
  obtain ⟨x2, HX2⟩ : ∃ x, Hid (str y2 = x) := ⟨_, rfl⟩
  obtain ⟨x3, HX3⟩ : ∃ x, Hid (str y3 = x) := ⟨_, rfl⟩
  obtain ⟨x4, HX4⟩ : ∃ x, Hid (str y4 = x) := ⟨_, rfl⟩
  have HRD : Hid (rdO (bs, 0) = (⟨a1, x2, x3, x4, a5, a6⟩, s6)) := by
    show _ = _
    simp only [rdO, HS1.out, HS2.out, HS3.out, HS4.out, HS5.out, HS6.out, HX2.out, HX3.out, HX4.out]
  rw [HRD.out]
  have HGG := hid_in hGG
  have Hgg := hid_in hgg
  clear hz hi hg hb hsl HRD hGG hgg
  generalize bs.length = bl at *
  have HC1 := hid_in (fun W (h : RI w.heap.size W g (bs, 0)) => rint_s W g w.heap.size (bs, 0) h)
  rw [HS1.out] at HC1
  have HC2 := hid_in (fun W (h : RI w.heap.size W g s1) => rtext_s W g w.heap.size s1 1100 (by decide) h)
  rw [HS2.out] at HC2
  simp only [HX2.out] at HC2
  have HC3 := hid_in (fun W (h : RI w.heap.size W g s2) => rtext_s W g w.heap.size s2 1100 (by decide) h)
  rw [HS3.out] at HC3
  simp only [HX3.out] at HC3
  have HC4 := hid_in (fun W (h : RI w.heap.size W g s3) => rtext_s W g w.heap.size s3 1100 (by decide) h)
  rw [HS4.out] at HC4
  simp only [HX4.out] at HC4
  have HC5 := hid_in (fun W (h : RI w.heap.size W g s4) => rint_s W g w.heap.size s4 h)
  rw [HS5.out] at HC5
  have HC6 := hid_in (fun W (h : RI w.heap.size W g s5) => rint_s W g w.heap.size s5 h)
  rw [HS6.out] at HC6
  clear HS1 HS2 HS3 HS4 HS5 HS6 HX2 HX3 HX4
  go_enter Try.func19, Try.ntmps19
  go_upto_region 3 with fail
  refine wp_world HW1.out ?_
  clear HW1
  rw [HGG.out, Hgg.out]
  clear HGG Hgg
  go_upto_region 4 with (first | (go_at_call 39; refine (HC1.out _ HP1.out.ri).mono ?_; rintro e u1 ⟨rfl, h1, h2⟩; have HQ1 := hid_in (HP1.out.read h1 h2); clear h1 h2; have hr := HQ1.out.row; have d_ : u1.cell? ⟨G, 0, none⟩ = some (.int .i64 0) := hr.cell 0; have f_ := hr.frozen 0; clear hr))
  clear d_ f_
  obtain ⟨W2, HW2⟩ : ∃ W, Hid (u1.setCell ⟨G, 0, none⟩ (.int .i64 a1) = W) := ⟨_, rfl⟩
  have HP2 : Hid (RV w g G [.int .i64 a1, .string ⟨#[]⟩, .string ⟨#[]⟩, .string ⟨#[]⟩, .int .i64 0, .int .i64 0] s1 W2) := by show RV _ _ _ _ _ _; rw [← HW2.out]; exact HQ1.out.put 0 (.int .i64 a1)
  refine wp_world HW2.out ?_
  clear HW2 HQ1 HP1 HC1
  go_upto_region 5 with (first | (go_at_call 40; refine (HC2.out _ HP2.out.ri).mono ?_; rintro e u2 ⟨rfl, h1, h2⟩; have HQ2 := hid_in (HP2.out.read h1 h2); clear h1 h2; have hr := HQ2.out.row; have d_ : u2.cell? ⟨G, 1, none⟩ = some (.string ⟨#[]⟩) := hr.cell 1; have f_ := hr.frozen 1; clear hr))
  clear d_ f_
  obtain ⟨W3, HW3⟩ : ∃ W, Hid (u2.setCell ⟨G, 1, none⟩ (.string x2) = W) := ⟨_, rfl⟩
  have HP3 : Hid (RV w g G [.int .i64 a1, .string x2, .string ⟨#[]⟩, .string ⟨#[]⟩, .int .i64 0, .int .i64 0] s2 W3) := by show RV _ _ _ _ _ _; rw [← HW3.out]; exact HQ2.out.put 1 (.string x2)
  refine wp_world HW3.out ?_
  clear HW3 HQ2 HP2 HC2
  go_upto_region 6 with (first | (go_at_call 40; refine (HC3.out _ HP3.out.ri).mono ?_; rintro e u3 ⟨rfl, h1, h2⟩; have HQ3 := hid_in (HP3.out.read h1 h2); clear h1 h2; have hr := HQ3.out.row; have d_ : u3.cell? ⟨G, 2, none⟩ = some (.string ⟨#[]⟩) := hr.cell 2; have f_ := hr.frozen 2; clear hr))
  clear d_ f_
  obtain ⟨W4, HW4⟩ : ∃ W, Hid (u3.setCell ⟨G, 2, none⟩ (.string x3) = W) := ⟨_, rfl⟩
  have HP4 : Hid (RV w g G [.int .i64 a1, .string x2, .string x3, .string ⟨#[]⟩, .int .i64 0, .int .i64 0] s3 W4) := by show RV _ _ _ _ _ _; rw [← HW4.out]; exact HQ3.out.put 2 (.string x3)
  refine wp_world HW4.out ?_
  clear HW4 HQ3 HP3 HC3
  go_upto_region 7 with (first | (go_at_call 40; refine (HC4.out _ HP4.out.ri).mono ?_; rintro e u4 ⟨rfl, h1, h2⟩; have HQ4 := hid_in (HP4.out.read h1 h2); clear h1 h2; have hr := HQ4.out.row; have d_ : u4.cell? ⟨G, 3, none⟩ = some (.string ⟨#[]⟩) := hr.cell 3; have f_ := hr.frozen 3; clear hr))
  clear d_ f_
  obtain ⟨W5, HW5⟩ : ∃ W, Hid (u4.setCell ⟨G, 3, none⟩ (.string x4) = W) := ⟨_, rfl⟩
  have HP5 : Hid (RV w g G [.int .i64 a1, .string x2, .string x3, .string x4, .int .i64 0, .int .i64 0] s4 W5) := by show RV _ _ _ _ _ _; rw [← HW5.out]; exact HQ4.out.put 3 (.string x4)
  refine wp_world HW5.out ?_
  clear HW5 HQ4 HP4 HC4
  go_upto_region 8 with (first | (go_at_call 39; refine (HC5.out _ HP5.out.ri).mono ?_; rintro e u5 ⟨rfl, h1, h2⟩; have HQ5 := hid_in (HP5.out.read h1 h2); clear h1 h2; have hr := HQ5.out.row; have d_ : u5.cell? ⟨G, 4, none⟩ = some (.int .i64 0) := hr.cell 4; have f_ := hr.frozen 4; clear hr))
  clear d_ f_
  obtain ⟨W6, HW6⟩ : ∃ W, Hid (u5.setCell ⟨G, 4, none⟩ (.int .i64 a5) = W) := ⟨_, rfl⟩
  have HP6 : Hid (RV w g G [.int .i64 a1, .string x2, .string x3, .string x4, .int .i64 a5, .int .i64 0] s5 W6) := by show RV _ _ _ _ _ _; rw [← HW6.out]; exact HQ5.out.put 4 (.int .i64 a5)
  refine wp_world HW6.out ?_
  clear HW6 HQ5 HP5 HC5
  go_upto_region 9 with (first | (go_at_call 39; refine (HC6.out _ HP6.out.ri).mono ?_; rintro e u6 ⟨rfl, h1, h2⟩; have HQ6 := hid_in (HP6.out.read h1 h2); clear h1 h2; have hr := HQ6.out.row; have d_ : u6.cell? ⟨G, 5, none⟩ = some (.int .i64 0) := hr.cell 5; have f_ := hr.frozen 5; clear hr))
  clear d_ f_
  obtain ⟨W7, HW7⟩ : ∃ W, Hid (u6.setCell ⟨G, 5, none⟩ (.int .i64 a6) = W) := ⟨_, rfl⟩
  have HP7 : Hid (RV w g G [.int .i64 a1, .string x2, .string x3, .string x4, .int .i64 a5, .int .i64 a6] s6 W7) := by show RV _ _ _ _ _ _; rw [← HW7.out]; exact HQ6.out.put 5 (.int .i64 a6)
  refine wp_world HW7.out ?_
  clear HW7 HQ6 HP6 HC6
  obtain ⟨l6, e6⟩ := s6
  have z0 : W7.cell? ⟨w.heap.size, 0, none⟩ = some (.int .i64 0) := HP7.out.z.cell 0
  have z1 : W7.cell? ⟨w.heap.size, 1, none⟩ = some (.string ⟨#[]⟩) := HP7.out.z.cell 1
  have z2 : W7.cell? ⟨w.heap.size, 2, none⟩ = some (.string ⟨#[]⟩) := HP7.out.z.cell 2
  have z3 : W7.cell? ⟨w.heap.size, 3, none⟩ = some (.string ⟨#[]⟩) := HP7.out.z.cell 3
  have z4 : W7.cell? ⟨w.heap.size, 4, none⟩ = some (.int .i64 0) := HP7.out.z.cell 4
  have z5 : W7.cell? ⟨w.heap.size, 5, none⟩ = some (.int .i64 0) := HP7.out.z.cell 5
  have q0 := HP7.out.z.frozen 0
  have q1 := HP7.out.z.frozen 1
  have q2 := HP7.out.z.frozen 2
  have q3 := HP7.out.z.frozen 3
  have q4 := HP7.out.z.frozen 4
  have q5 := HP7.out.z.frozen 5
  have d0 : W7.cell? ⟨G, 0, none⟩ = some (.int .i64 a1) := HP7.out.row.cell 0
  have d1 : W7.cell? ⟨G, 1, none⟩ = some (.string x2) := HP7.out.row.cell 1
  have d2 : W7.cell? ⟨G, 2, none⟩ = some (.string x3) := HP7.out.row.cell 2
  have d3 : W7.cell? ⟨G, 3, none⟩ = some (.string x4) := HP7.out.row.cell 3
  have d4 : W7.cell? ⟨G, 4, none⟩ = some (.int .i64 a5) := HP7.out.row.cell 4
  have d5 : W7.cell? ⟨G, 5, none⟩ = some (.int .i64 a6) := HP7.out.row.cell 5
  have n1 : w.heap.size ≠ G := by have := HP7.out.gs; omega
  have n2 : G ≠ w.heap.size := by have := HP7.out.gs; omega
  have cg2 := HP7.out.ri.at2
  have HL := hid_in (rleft_t W7 g w.heap.size l6 e6 HP7.out.ri)
  by_cases he : e6 = 0
  · subst he
    by_cases hl : l6 = []
    · subst hl
      have HY : Hid ((([] : List Nat), 0) = (([] : List Nat), 0)) := rfl
      have HL0 : Hid (Calls Try.prog 41 #[.pointer (some ⟨g, 0, none⟩)] W7 fun rr w' => rr = .returned (.int .i64 0) ∧ w' = W7.drew) := HL.out
      clear HL
      have HL := HL0
      clear HL0
      go_wp2_with (first | (go_at_call 41; refine HL.out.mono ?_; rintro e wl ⟨rfl, hwl⟩; have HPD : Hid (RV w g G [.int .i64 a1, .string x2, .string x3, .string x4, .int .i64 a5, .int .i64 a6] ([], 0) wl) := (by rw [hwl]; exact HP7.out.drew); clear hwl; clear z0 z1 z2 z3 z4 z5 q0 q1 q2 q3 q4 q5 d0 d1 d2 d3 d4 d5; have z0 : wl.cell? ⟨w.heap.size, 0, none⟩ = some (.int .i64 0) := HPD.out.z.cell 0; have z1 : wl.cell? ⟨w.heap.size, 1, none⟩ = some (.string ⟨#[]⟩) := HPD.out.z.cell 1; have z2 : wl.cell? ⟨w.heap.size, 2, none⟩ = some (.string ⟨#[]⟩) := HPD.out.z.cell 2; have z3 : wl.cell? ⟨w.heap.size, 3, none⟩ = some (.string ⟨#[]⟩) := HPD.out.z.cell 3; have z4 : wl.cell? ⟨w.heap.size, 4, none⟩ = some (.int .i64 0) := HPD.out.z.cell 4; have z5 : wl.cell? ⟨w.heap.size, 5, none⟩ = some (.int .i64 0) := HPD.out.z.cell 5; have q0 := HPD.out.z.frozen 0; have q1 := HPD.out.z.frozen 1; have q2 := HPD.out.z.frozen 2; have q3 := HPD.out.z.frozen 3; have q4 := HPD.out.z.frozen 4; have q5 := HPD.out.z.frozen 5; have d0 : wl.cell? ⟨G, 0, none⟩ = some (.int .i64 a1) := HPD.out.row.cell 0; have d1 : wl.cell? ⟨G, 1, none⟩ = some (.string x2) := HPD.out.row.cell 1; have d2 : wl.cell? ⟨G, 2, none⟩ = some (.string x3) := HPD.out.row.cell 2; have d3 : wl.cell? ⟨G, 3, none⟩ = some (.string x4) := HPD.out.row.cell 3; have d4 : wl.cell? ⟨G, 4, none⟩ = some (.int .i64 a5) := HPD.out.row.cell 4; have d5 : wl.cell? ⟨G, 5, none⟩ = some (.int .i64 a6) := HPD.out.row.cell 5; skip))
      have HF := hid_in (set6 HPD.out.z (.int .i64 a1) (.string x2) (.string x3) (.string x4) (.int .i64 a5) (.int .i64 a6))
      refine post_Row2 2 3 23 Try.results19 w.heap.size rfl 23 _ HF.out.1 _ Try.underlying23 rfl 6 info23 rfl rfl ?_
      exact ⟨rfl, HPD.out.below.grown HF.out.2 HPD.out.below.size (fun k e => by cases e; exact Nat.le_refl _)⟩
    · have HY : Hid ((l6, 0) ≠ (([] : List Nat), 0)) := fun h => hl (Prod.mk.inj h).1
      have hl1 : ((l6.length : Int) == 0) = false := by
        rw [beq_eq_false_iff_ne]
        have := List.length_pos_iff.2 hl
        omega
      have hl2 : ((l6.length : Int) != 0) = true := by
        rw [bne_iff_ne]
        have := List.length_pos_iff.2 hl
        omega
      clear hl
      generalize hLL : (l6.length : Int) = LL at *
      clear hLL
      go_wp2_with (first | (go_at_call 41; refine HL.out.mono ?_; rintro e wl ⟨rfl, hwl⟩; have HPD : Hid (RV w g G [.int .i64 a1, .string x2, .string x3, .string x4, .int .i64 a5, .int .i64 a6] (l6, 0) wl) := (by rw [hwl]; exact HP7.out.drew); clear hwl; clear z0 z1 z2 z3 z4 z5 q0 q1 q2 q3 q4 q5 d0 d1 d2 d3 d4 d5; have z0 : wl.cell? ⟨w.heap.size, 0, none⟩ = some (.int .i64 0) := HPD.out.z.cell 0; have z1 : wl.cell? ⟨w.heap.size, 1, none⟩ = some (.string ⟨#[]⟩) := HPD.out.z.cell 1; have z2 : wl.cell? ⟨w.heap.size, 2, none⟩ = some (.string ⟨#[]⟩) := HPD.out.z.cell 2; have z3 : wl.cell? ⟨w.heap.size, 3, none⟩ = some (.string ⟨#[]⟩) := HPD.out.z.cell 3; have z4 : wl.cell? ⟨w.heap.size, 4, none⟩ = some (.int .i64 0) := HPD.out.z.cell 4; have z5 : wl.cell? ⟨w.heap.size, 5, none⟩ = some (.int .i64 0) := HPD.out.z.cell 5; have q0 := HPD.out.z.frozen 0; have q1 := HPD.out.z.frozen 1; have q2 := HPD.out.z.frozen 2; have q3 := HPD.out.z.frozen 3; have q4 := HPD.out.z.frozen 4; have q5 := HPD.out.z.frozen 5; have d0 : wl.cell? ⟨G, 0, none⟩ = some (.int .i64 a1) := HPD.out.row.cell 0; have d1 : wl.cell? ⟨G, 1, none⟩ = some (.string x2) := HPD.out.row.cell 1; have d2 : wl.cell? ⟨G, 2, none⟩ = some (.string x3) := HPD.out.row.cell 2; have d3 : wl.cell? ⟨G, 3, none⟩ = some (.string x4) := HPD.out.row.cell 3; have d4 : wl.cell? ⟨G, 4, none⟩ = some (.int .i64 a5) := HPD.out.row.cell 4; have d5 : wl.cell? ⟨G, 5, none⟩ = some (.int .i64 a6) := HPD.out.row.cell 5; skip))
      have HF := hid_in (set6 HPD.out.z (.int .i64 0) (.string ⟨#[]⟩) (.string ⟨#[]⟩) (.string ⟨#[]⟩) (.int .i64 0) (.int .i64 0))
      refine post_Row2 2 3 23 Try.results19 w.heap.size rfl 23 _ HF.out.1 _ Try.underlying23 rfl 6 info23 rfl rfl ?_
      exact ⟨.inr ⟨HY.out, rfl⟩, HPD.out.below.grown HF.out.2 HPD.out.below.size (fun k e => by cases e; exact Nat.le_refl _)⟩
  · have HY : Hid ((l6, e6) ≠ (([] : List Nat), 0)) := fun h => he (Prod.mk.inj h).2
    have he1 : ((e6 : Int) == 0) = false := by rw [beq_eq_false_iff_ne]; omega
    have he2 : ((e6 : Int) != 0) = true := by rw [bne_iff_ne]; omega
    clear he
    go_wp2_with fail
    have HF := hid_in (set6 HP7.out.z (.int .i64 0) (.string ⟨#[]⟩) (.string ⟨#[]⟩) (.string ⟨#[]⟩) (.int .i64 0) (.int .i64 0))
    refine post_Row2 2 3 23 Try.results19 w.heap.size rfl 23 _ HF.out.1 _ Try.underlying23 rfl 6 info23 rfl rfl ?_
    exact ⟨.inr ⟨HY.out, rfl⟩, HP7.out.below.grown HF.out.2 HP7.out.below.size (fun k e => by cases e; exact Nat.le_refl _)⟩
end Go.Proofs.Ytjlhjpooggkkoaa.Nd
namespace Go.Proofs.Ytjlhjpooggkkoaa.Nd
open Go.RowKit
/-- a slice of bytes that is answered -/
def Byt (w : World) (v : Value) (xs : List Nat) : Prop := ∃ p c b, v = .slice p xs.length c ∧ Sl w p xs c b 0 ∧ (p = none → xs.length = 0 ∧ c = 0)
theorem Byt.below {w w' : World} {v : Value} {xs : List Nat} (h : Byt w v xs) (hb : Below w.heap.size w w') : Byt w' v xs := by
  obtain ⟨p, c, b, rfl, hs, hn⟩ := h
  exact ⟨p, c, b, rfl, hs.below hb, hn⟩
theorem Byt.conv {w : World} {v : Value} {xs : List Nat} (h : Byt w v xs) : (convert 32 9 v).run Try.prog w = .ok (.string (str xs)) w := by
  obtain ⟨p, c, b, rfl, hs, hn⟩ := h
  exact conv_sl hs
theorem Byt.nil (w : World) : Byt w (.slice none 0 0) [] := ⟨none, 0, 0, rfl, ⟨by simp, by simp, by omega, fun h => by simp at h, fun j hj => by simp at hj⟩, fun _ => ⟨rfl, rfl⟩⟩
theorem own_byt {w : World} {B : Nat} {v : Value} {xs : List Nat} (hlt : ∀ x ∈ xs, x < 256) (h : w.ownsRow B 5 1 v xs.length (xs.map u8v)) : Byt w v xs := by
  obtain ⟨p, c, b, rfl, hs, hn⟩ := own_sl hlt h
  exact ⟨p, c, b, rfl, hs, hn⟩
/-- what Encode answers -/
structure EncA (o : Opn) (X : List Nat) (E : Int) : Prop where
  prog : ∀ W, Calls Try.prog 16 #[o.val] W fun e w' => (∃ v, e = .returned (.tuple #[v, .int .i64 E]) ∧ Byt w' v X) ∧ Below W.heap.size W w'
  ref : ∀ W, Calls Try.prog 17 #[o.val] W fun e w' => (∃ v, e = .returned (.tuple #[v, .int .i64 E]) ∧ Byt w' v X) ∧ Below W.heap.size W w'
theorem enc_both (o : Opn) (hok : o.ok) : ∃ X E, EncA o X E ∧ ((o.short ∧ X = encO o ∧ E = 0) ∨ (¬ o.short ∧ X = [] ∧ E = 2)) := by
  by_cases hs : o.short
  · refine ⟨encO o, 0, ⟨fun W => ?_, fun W => ?_⟩, .inl ⟨hs, rfl, rfl⟩⟩
    · refine (encode_ok o hok hs W).mono ?_
      rintro e w' ⟨⟨u, rfl, ho⟩, hb⟩
      exact ⟨⟨u, rfl, own_byt (encO_lt hok hs) ho⟩, hb⟩
    · refine (rencode_ok o hok hs W).mono ?_
      rintro e w' ⟨⟨u, rfl, ho⟩, hb⟩
      exact ⟨⟨u, rfl, own_byt (encO_lt hok hs) ho⟩, hb⟩
  · refine ⟨[], 2, ⟨fun W => ?_, fun W => ?_⟩, .inr ⟨hs, rfl, rfl⟩⟩
    · refine (encode_long o hok hs W).mono ?_
      rintro e w' ⟨rfl, hb⟩
      exact ⟨⟨_, rfl, Byt.nil _⟩, hb⟩
    · refine (rencode_long o hok hs W).mono ?_
      rintro e w' ⟨rfl, hb⟩
      exact ⟨⟨_, rfl, Byt.nil _⟩, hb⟩
/-- what Decode answers -/
structure DecA (bs : List Nat) (q : Opn) (G : Int) (K : Bool) : Prop where
  prog : ∀ W p c b off, Sl W p bs c b off → (p = none → bs.length = 0 ∧ c = 0) → bs.length ≤ 140737488355328 → Calls Try.prog 18 #[.slice p bs.length c] W fun e w' => e = .returned (.tuple #[q.val, .int .i64 G]) ∧ Below W.heap.size W w'
  ref : ∀ W p c b off, Sl W p bs c b off → Calls Try.prog 19 #[.slice p bs.length c] W fun e w' => e = .returned (.tuple #[q.val, .bool K]) ∧ Below W.heap.size W w'
theorem dec_both (bs : List Nat) : ∃ q G K, DecA bs q G K ∧ ((G = 0 ∧ K = true ∧ (rdO (bs, 0)).2 = ([], 0) ∧ q = (rdO (bs, 0)).1) ∨ (G = 21 ∧ K = false ∧ (rdO (bs, 0)).2 ≠ ([], 0) ∧ q = zeroO)) := by
  by_cases h : (rdO (bs, 0)).2 = ([], 0)
  · refine ⟨(rdO (bs, 0)).1, 0, true, ⟨fun W p c b off h1 h2 h3 => ?_, fun W p c b off h1 => ?_⟩, .inl ⟨rfl, rfl, h, rfl⟩⟩
    · refine (decode_p bs p c b off W h1 h2 h3).mono ?_
      rintro e w' ⟨⟨_, rfl⟩ | ⟨h', _⟩, hb⟩
      · exact ⟨rfl, hb⟩
      · exact absurd h h'
    · refine (rdecode_p bs p c b off W h1).mono ?_
      rintro e w' ⟨⟨_, rfl⟩ | ⟨h', _⟩, hb⟩
      · exact ⟨rfl, hb⟩
      · exact absurd h h'
  · refine ⟨zeroO, 21, false, ⟨fun W p c b off h1 h2 h3 => ?_, fun W p c b off h1 => ?_⟩, .inr ⟨rfl, rfl, h, rfl⟩⟩
    · refine (decode_p bs p c b off W h1 h2 h3).mono ?_
      rintro e w' ⟨⟨h', _⟩ | ⟨_, rfl⟩, hb⟩
      · exact absurd h' h
      · exact ⟨rfl, hb⟩
    · refine (rdecode_p bs p c b off W h1).mono ?_
      rintro e w' ⟨⟨h', _⟩ | ⟨_, rfl⟩, hb⟩
      · exact absurd h' h
      · exact ⟨rfl, hb⟩
set_option maxHeartbeats 4000000 in
set_option maxRecDepth 100000 in
theorem bytes_core (o : Opn) (X : List Nat) (E : Int) (hE : EncA o X E) (bs : List Nat) (q : Opn) (G : Int) (K : Bool) (hD : DecA bs q G K) (hGK : (G = 0 ∧ K = true) ∨ (G = 21 ∧ K = false))
    (p : Option Addr) (cap b off : Nat) (w : World) (hsl : Sl w p bs cap b off) (hno : p = none → bs.length = 0 ∧ cap = 0) (hre : bs.length ≤ 140737488355328) :
    Calls Try.prog 5 #[o.val, .slice p bs.length cap] w fun e w' => e = .returned (.bool true) ∧ Below w.heap.size w w' := by
  have HA := hid_in (fun W => awakeO_any W)
  have HEP := hid_in (fun W => hE.prog W)
  have HER := hid_in (fun W => hE.ref W)
  have HDP := hid_in (fun W (hb : Below w.heap.size w W) => hD.prog W p cap b off (hsl.below hb) hno hre)
  have HDR := hid_in (fun W (hb : Below w.heap.size w W) => hD.ref W p cap b off (hsl.below hb))
  obtain ⟨k, pa, t, d, a, z⟩ := o
  obtain ⟨qk, qp, qt, qd, qa, qz⟩ := q
  simp only [Opn.val] at HEP HER HDP HDR ⊢
  obtain ⟨W0, H0, HR0, HB0, HZ0⟩ := op_row w k a z pa t d
  obtain ⟨S, HS⟩ : ∃ S, Hid (str X = S) := ⟨_, rfl⟩
  clear hE hD hsl hno hre
  generalize bs.length = n at *
  go_enter Try.func5, Try.ntmps5
  go_upto_region 1 with fail
  refine wp_world H0.out ?_
  clear H0
  go_upto_region 3 with (first | (go_at_call 9; refine (HA.out _).mono ?_; rintro e w1 ⟨rfl, hb1⟩; have HB1 := hid_in (HB0.out.trans (hb1.mono HB0.out.size)); have HR1 := hid_in (HR0.out.below hb1 HR0.out.lt); clear hb1))
  have hr1 := HR1.out
  have c0 : w1.cell? ⟨w.heap.size, 0, none⟩ = some (.int .i64 k) := hr1.cell 0
  have c1 : w1.cell? ⟨w.heap.size, 1, none⟩ = some (.string pa) := hr1.cell 1
  have c2 : w1.cell? ⟨w.heap.size, 2, none⟩ = some (.string t) := hr1.cell 2
  have c3 : w1.cell? ⟨w.heap.size, 3, none⟩ = some (.string d) := hr1.cell 3
  have c4 : w1.cell? ⟨w.heap.size, 4, none⟩ = some (.int .i64 a) := hr1.cell 4
  have c5 : w1.cell? ⟨w.heap.size, 5, none⟩ = some (.int .i64 z) := hr1.cell 5
  clear hr1
  go_upto_region 4 with (first | (go_at_call 16; refine (HEP.out _).mono ?_; rintro e w2 ⟨⟨x2, rfl, hx2⟩, hb2⟩; have HX2 := hid_in hx2; have HB2 := hid_in (HB1.out.trans (hb2.mono HB1.out.size)); have HR2 := hid_in (HR1.out.below hb2 HR1.out.lt); clear hb2 hx2))
  have hr2 := HR2.out
  clear c0 c1 c2 c3 c4 c5
  have c0 : w2.cell? ⟨w.heap.size, 0, none⟩ = some (.int .i64 k) := hr2.cell 0
  have c1 : w2.cell? ⟨w.heap.size, 1, none⟩ = some (.string pa) := hr2.cell 1
  have c2 : w2.cell? ⟨w.heap.size, 2, none⟩ = some (.string t) := hr2.cell 2
  have c3 : w2.cell? ⟨w.heap.size, 3, none⟩ = some (.string d) := hr2.cell 3
  have c4 : w2.cell? ⟨w.heap.size, 4, none⟩ = some (.int .i64 a) := hr2.cell 4
  have c5 : w2.cell? ⟨w.heap.size, 5, none⟩ = some (.int .i64 z) := hr2.cell 5
  clear hr2
  go_upto_region 5 with (first | (go_at_call 17; refine (HER.out _).mono ?_; rintro e w3 ⟨⟨x3, rfl, hx3⟩, hb3⟩; have HX3 := hid_in hx3; have HX2' := hid_in (HX2.out.below hb3); have HB3 := hid_in (HB2.out.trans (hb3.mono HB2.out.size)); clear hb3 hx3))
  clear c0 c1 c2 c3 c4 c5
  go_upto_region 6 with (first | (go_at_call 18; refine (HDP.out _ HB3.out).mono ?_; rintro e w4 ⟨rfl, hb4⟩; have HX2'' := hid_in (HX2'.out.below hb4); have HX3'' := hid_in (HX3.out.below hb4); have HB4 := hid_in (HB3.out.trans (hb4.mono HB3.out.size)); clear hb4))
  obtain ⟨W5, H5, HR5, HB5, HZ5⟩ := op_row w4 qk qa qz qp qt qd
  have HB5' := hid_in (HB4.out.trans (HB5.out.mono HB4.out.size))
  have HX25 := hid_in (HX2''.out.below HB5.out)
  have HX35 := hid_in (HX3''.out.below HB5.out)
  obtain ⟨g4, Hg4⟩ : ∃ g, w4.heap.size = g := ⟨_, rfl⟩
  rw [Hg4] at HR5 ⊢
  refine wp_world H5.out ?_
  clear H5 HB5 HZ5 Hg4
  go_upto_region 7 with (first | (go_at_call 19; refine (HDR.out _ HB5'.out).mono ?_; rintro e w6 ⟨rfl, hb6⟩; have HX26 := hid_in (HX25.out.below hb6); have HX36 := hid_in (HX35.out.below hb6); have HB6 := hid_in (HB5'.out.trans (hb6.mono HB5'.out.size)); have HR6 := hid_in (HR5.out.below hb6 HR5.out.lt); clear hb6))
  obtain ⟨W7, H7, HR7, HB7, HZ7⟩ := op_row w6 qk qa qz qp qt qd
  have HB7' := hid_in (HB6.out.trans (HB7.out.mono HB6.out.size))
  have hv1 := (HX26.out.below HB7.out).conv
  have hv2 := (HX36.out.below HB7.out).conv
  rw [HS.out] at hv1 hv2
  have hr7 := HR7.out
  have hr6 := HR6.out.below HB7.out HR6.out.lt
  obtain ⟨g6, Hg6⟩ : ∃ g, w6.heap.size = g := ⟨_, rfl⟩
  rw [Hg6] at hr7 ⊢
  refine wp_world H7.out ?_
  have d0 : W7.cell? ⟨g4, 0, none⟩ = some (.int .i64 qk) := hr6.cell 0
  have d1 : W7.cell? ⟨g4, 1, none⟩ = some (.string qp) := hr6.cell 1
  have d2 : W7.cell? ⟨g4, 2, none⟩ = some (.string qt) := hr6.cell 2
  have d3 : W7.cell? ⟨g4, 3, none⟩ = some (.string qd) := hr6.cell 3
  have d4 : W7.cell? ⟨g4, 4, none⟩ = some (.int .i64 qa) := hr6.cell 4
  have d5 : W7.cell? ⟨g4, 5, none⟩ = some (.int .i64 qz) := hr6.cell 5
  have e0 : W7.cell? ⟨g6, 0, none⟩ = some (.int .i64 qk) := hr7.cell 0
  have e1 : W7.cell? ⟨g6, 1, none⟩ = some (.string qp) := hr7.cell 1
  have e2 : W7.cell? ⟨g6, 2, none⟩ = some (.string qt) := hr7.cell 2
  have e3 : W7.cell? ⟨g6, 3, none⟩ = some (.string qd) := hr7.cell 3
  have e4 : W7.cell? ⟨g6, 4, none⟩ = some (.int .i64 qa) := hr7.cell 4
  have e5 : W7.cell? ⟨g6, 5, none⟩ = some (.int .i64 qz) := hr7.cell 5
  clear H7 HB7 HZ7 Hg6 hr6 hr7 HX2 HX3 HX2' HX2'' HX3'' HX25 HX35 HX26 HX36
  rcases hGK with ⟨rfl, rfl⟩ | ⟨rfl, rfl⟩
  all_goals
    go_wp2_with fail
    go_ret
    exact ⟨rfl, HB7'.out⟩
theorem bytes_any (o : Opn) (hok : o.ok) (bs : List Nat) (p : Option Addr) (cap b off : Nat) (w : World) (hsl : Sl w p bs cap b off) (hno : p = none → bs.length = 0 ∧ cap = 0) (hre : bs.length ≤ 140737488355328) :
    Calls Try.prog 5 #[o.val, .slice p bs.length cap] w fun e w' => e = .returned (.bool true) ∧ Below w.heap.size w w' := by
  obtain ⟨X, E, hE, _⟩ := enc_both o hok
  obtain ⟨q, G, K, hD, h⟩ := dec_both bs
  exact bytes_core o X E hE bs q G K hD (by rcases h with ⟨h1, h2, _⟩ | ⟨h1, h2, _⟩; exact .inl ⟨h1, h2⟩; exact .inr ⟨h1, h2⟩) p cap b off w hsl hno hre
end Go.Proofs.Ytjlhjpooggkkoaa.Nd
