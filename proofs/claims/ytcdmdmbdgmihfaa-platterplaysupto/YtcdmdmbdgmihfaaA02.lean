/-
  What a change is refused for; begin; Arm, New.
-/
import Derived.Test.YtcdmdmbdgmihfaaA00
import Derived.Test.YtcdmdmbdgmihfaaA01
namespace Go.Proofs.Ytcdmdmbdgmihfaa.Pt
open Go.RowKit
open Nd (Row wp_world grownBy_setCell below_of_grown grownBy_trans grown_of_below grownBy_refl u8v Grew Moved Sl hid_in i5h)
/-- what a change of an area is refused for -/
def refE (k a : Int) (d : Dk) : Int := if isA a = false then 1 else if d.down then 170 else if k = 2 ∧ a = liv d.live then 6 else if k = 3 ∧ (arOf a d).sy < (arOf a d).bs.length then 6 else 0
theorem refusal_any {w : World} {B g : Nat} {v0 v1 : Value} {d : Dk} (h : PtV w B g v0 v1 d) (k a : Int) : Calls Try.prog 28 #[.pointer (some ⟨g, 0, none⟩), .int .i64 k, .int .i64 a] w fun e w' => e = .returned (.int .i64 (refE k a d)) ∧ Below w.heap.size w w' := by
  have c1 := h.row.cell 1
  have c3 := h.row.cell 3
  have c4 := h.row.cell 4
  have c5 := h.row.cell 5
  have c0 := h.row.cell 0
  have c2 := h.row.cell 2
  simp only [pcells, List.getElem?_cons_succ, List.getElem?_cons_zero] at c0 c1 c2 c3 c4 c5
  have HA := hid_in (isArea_any a w)
  obtain ⟨p0, q0, hv0, -, -⟩ := own_some h.w0
  obtain ⟨p1, q1, hv1, -, -⟩ := own_some h.w1
  subst hv0 hv1
  have HB := hid_in (fun n => Nd.below_drewN (Below.refl w.heap.size w) n)
  unfold refE
  by_cases ha : isA a = true
  · rw [ha] at HA
    rw [if_neg (by rw [ha]; simp)]
    by_cases hd : d.down = true
    · rw [hd] at c5
      rw [if_pos hd]
      clear h hd ha
      go_enter Try.func28, Try.ntmps28
      go_wp2_with (first | (go_at_call 26; refine HA.out.mono ?_; rintro e w1 ⟨rfl, rfl⟩))
      go_ret
      exact ⟨rfl, Below.refl _ _⟩
    · have hd' : d.down = false := by simpa using hd
      rw [hd'] at c5
      rw [if_neg hd]
      by_cases h2 : k = 2
      · subst h2
        by_cases hl : a = liv d.live
        · rw [if_pos ⟨rfl, hl⟩]
          have y1 : (a == liv d.live) = true := by simpa using hl
          generalize liv d.live = l at *
          clear h hd hd' ha hl
          go_enter Try.func28, Try.ntmps28
          go_wp2_with (first | (go_at_call 26; refine HA.out.mono ?_; rintro e w1 ⟨rfl, rfl⟩))
          go_ret
          exact ⟨rfl, Below.refl _ _⟩
        · rw [if_neg (fun h => hl h.2), if_neg (fun h => absurd h.1 (by decide))]
          have y1 : (a == liv d.live) = false := by simpa using hl
          generalize liv d.live = l at *
          clear h hd hd' ha hl
          go_enter Try.func28, Try.ntmps28
          go_upto_region 5 with (first | (go_at_call 26; refine HA.out.mono ?_; rintro e w1 ⟨rfl, rfl⟩))
          go_quiet (fail)
          go_wp2_with fail
          go_ret
          exact ⟨rfl, HB.out _⟩
      · rw [if_neg (fun h => h2 h.1)]
        have y2 : (k == 2) = false := by simpa using h2
        by_cases h3 : k = 3
        · subst h3
          have hk2 : isA a = true := ha
          have ha2 : a = 0 ∨ a = 1 := by simpa [isA] using hk2
          have hlt : ((3 : Int) = 3 ∧ (arOf a d).sy < (arOf a d).bs.length) ↔ (arOf a d).sy < (arOf a d).bs.length := by simp
          rcases ha2 with rfl | rfl
          · have e : arOf 0 d = d.a0 := rfl
            rw [e] at *
            by_cases hs : d.a0.sy < d.a0.bs.length
            · rw [if_pos ⟨rfl, hs⟩]
              have y3 : decide ((d.a0.sy : Int) < (d.a0.bs.length : Int)) = true := by simpa using hs
              generalize (d.a0.sy : Int) = s0 at *
              generalize (d.a0.bs.length) = l0 at *
              clear h hd hd' ha hs hk2 hlt e
              go_enter Try.func28, Try.ntmps28
              go_upto_region 5 with (first | (go_at_call 26; refine HA.out.mono ?_; rintro e w1 ⟨rfl, rfl⟩))
              go_quiet (fail)
              go_wp2_with fail
              go_ret
              exact ⟨rfl, HB.out _⟩
            · rw [if_neg (fun h => hs h.2)]
              have y3 : decide ((d.a0.sy : Int) < (d.a0.bs.length : Int)) = false := by simpa using hs
              generalize (d.a0.sy : Int) = s0 at *
              generalize (d.a0.bs.length) = l0 at *
              clear h hd hd' ha hs hk2 hlt e
              go_enter Try.func28, Try.ntmps28
              go_upto_region 5 with (first | (go_at_call 26; refine HA.out.mono ?_; rintro e w1 ⟨rfl, rfl⟩))
              go_quiet (fail)
              go_wp2_with fail
              go_ret
              exact ⟨rfl, HB.out _⟩
          · have e : arOf 1 d = d.a1 := rfl
            rw [e] at *
            by_cases hs : d.a1.sy < d.a1.bs.length
            · rw [if_pos ⟨rfl, hs⟩]
              have y3 : decide ((d.a1.sy : Int) < (d.a1.bs.length : Int)) = true := by simpa using hs
              generalize (d.a1.sy : Int) = s0 at *
              generalize (d.a1.bs.length) = l0 at *
              clear h hd hd' ha hs hk2 hlt e
              go_enter Try.func28, Try.ntmps28
              go_upto_region 5 with (first | (go_at_call 26; refine HA.out.mono ?_; rintro e w1 ⟨rfl, rfl⟩))
              go_quiet (fail)
              go_wp2_with fail
              go_ret
              exact ⟨rfl, HB.out _⟩
            · rw [if_neg (fun h => hs h.2)]
              have y3 : decide ((d.a1.sy : Int) < (d.a1.bs.length : Int)) = false := by simpa using hs
              generalize (d.a1.sy : Int) = s0 at *
              generalize (d.a1.bs.length) = l0 at *
              clear h hd hd' ha hs hk2 hlt e
              go_enter Try.func28, Try.ntmps28
              go_upto_region 5 with (first | (go_at_call 26; refine HA.out.mono ?_; rintro e w1 ⟨rfl, rfl⟩))
              go_quiet (fail)
              go_wp2_with fail
              go_ret
              exact ⟨rfl, HB.out _⟩
        · rw [if_neg (fun h => h3 h.1)]
          have y3 : (k == 3) = false := by simpa using h3
          clear h hd hd' ha h2 h3
          go_enter Try.func28, Try.ntmps28
          go_upto_region 5 with (first | (go_at_call 26; refine HA.out.mono ?_; rintro e w1 ⟨rfl, rfl⟩))
          go_quiet (fail)
          go_wp2_with fail
          go_ret
          exact ⟨rfl, HB.out _⟩
  · have ha' : isA a = false := by simpa using ha
    rw [ha'] at HA
    rw [if_pos ha']
    clear h ha ha'
    go_enter Try.func28, Try.ntmps28
    go_wp2_with (first | (go_at_call 26; refine HA.out.mono ?_; rintro e w1 ⟨rfl, rfl⟩))
    go_ret
    exact ⟨rfl, Below.refl _ _⟩
theorem refusal_nil (k a : Int) (w : World) : Calls Try.prog 28 #[.pointer none, .int .i64 k, .int .i64 a] w fun e w' => e = .returned (.int .i64 7) ∧ w' = w := by
  go_enter Try.func28, Try.ntmps28
  go_wp2
  go_ret
  exact ⟨rfl, rfl⟩
def begE (k a : Int) (d : Dk) : Int := if refE k a d = 0 then spendE d else refE k a d
def begD (k a : Int) (d : Dk) : Dk := if refE k a d = 0 then spendD d else d
theorem begin_any {w : World} {B g : Nat} {v0 v1 : Value} {d : Dk} (h : PtV w B g v0 v1 d) (k a : Int) : Calls Try.prog 30 #[.pointer (some ⟨g, 0, none⟩), .int .i64 k, .int .i64 a] w fun e w' => e = .returned (.int .i64 (begE k a d)) ∧ Stp w w' B g v0 v1 (begD k a d) := by
  have HR := hid_in (refusal_any h k a)
  have HH := hid_in h
  unfold begE begD
  by_cases h0 : refE k a d = 0
  · rw [if_pos h0, if_pos h0]
    rw [h0] at HR
    clear h h0
    go_enter Try.func30, Try.ntmps30
    go_wp2_with (first | (go_at_call 28; refine HR.out.mono ?_; rintro e w1 ⟨rfl, hb1⟩; have HB1 := hid_in hb1; clear hb1) | (go_at_call 29; refine (spend_any (HH.out.below HB1.out)).mono ?_; rintro e w2 ⟨rfl, hs2⟩; have HS2 := hid_in hs2; clear hs2))
    go_ret
    exact ⟨rfl, Stp.ahead HB1.out HS2.out⟩
  · rw [if_neg h0, if_neg h0]
    have y0 : (refE k a d != 0) = true := by simpa using h0
    generalize refE k a d = r at *
    clear h h0
    go_enter Try.func30, Try.ntmps30
    go_wp2_with (first | (go_at_call 28; refine HR.out.mono ?_; rintro e w1 ⟨rfl, hb1⟩; have HB1 := hid_in hb1; clear hb1))
    go_ret
    exact ⟨rfl, Stp.of_below HH.out HB1.out⟩
theorem begin_nil (k a : Int) (w : World) : Calls Try.prog 30 #[.pointer none, .int .i64 k, .int .i64 a] w fun e w' => e = .returned (.int .i64 7) ∧ w' = w := by
  have HR := hid_in (refusal_nil k a w)
  go_enter Try.func30, Try.ntmps30
  go_wp2_with (first | (go_at_call 28; refine HR.out.mono ?_; rintro e w1 ⟨rfl, rfl⟩))
  go_ret
  exact ⟨rfl, rfl⟩
def armD (n : Int) (d : Dk) : Dk := if d.down then d else { d with left := n.toNat }
theorem arm_any {w : World} {B g : Nat} {v0 v1 : Value} {d : Dk} (h : PtV w B g v0 v1 d) (n : Int) (hn : n ≤ 9223372036854775807) : Calls Try.prog 15 #[.pointer (some ⟨g, 0, none⟩), .int .i64 n] w fun e w' => e = .returned (.tuple #[]) ∧ Stp w w' B g v0 v1 (armD n d) := by
  have c5 := h.row.cell 5
  have c6 := h.row.cell 6
  have f6 := h.row.frozen 6
  simp only [pcells, List.getElem?_cons_succ, List.getElem?_cons_zero] at c5 c6
  have HH := hid_in h
  unfold armD
  by_cases hd : d.down = true
  · rw [if_pos hd]
    rw [hd] at c5
    clear h hd
    go_enter Try.func15, Try.ntmps15
    go_wp2
    go_end0
    exact ⟨rfl, Stp.refl HH.out⟩
  · rw [if_neg hd]
    have hd' : d.down = false := by simpa using hd
    rw [hd'] at c5
    generalize (d.left : Int) = l at *
    rcases Int.lt_trichotomy n 0 with h0 | h0 | h0
    · have hz : n.toNat = 0 := by omega
      have S1 := hid_in (h.set (d' := { d with left := n.toNat }) 6 (.int .i64 0) (by simp [pcells, hz]) rfl rfl ⟨h.ok.o0, h.ok.o1, by simp; omega⟩)
      have hm : max n 0 = 0 := by omega
      clear h hd hd' hn hz
      go_enter Try.func15, Try.ntmps15
      go_wp2
      go_end0
      exact ⟨rfl, S1.out⟩
    · subst h0
      have S1 := hid_in (h.set (d' := { d with left := 0 }) 6 (.int .i64 0) (by simp [pcells]) rfl rfl ⟨h.ok.o0, h.ok.o1, by simp⟩)
      clear h hd hd' hn
      go_enter Try.func15, Try.ntmps15
      go_wp2
      all_goals
        go_end0
        exact ⟨rfl, S1.out⟩
    · have hz : ((n.toNat : Nat) : Int) = n := by omega
      have S1 := hid_in (h.set (d' := { d with left := n.toNat }) 6 (.int .i64 n) (by simp only [pcells, List.set_cons_succ, List.set_cons_zero, hz]) rfl rfl ⟨h.ok.o0, h.ok.o1, by simp; omega⟩)
      have hm : max n 0 = n := by omega
      clear h hd hd' hn hz
      go_enter Try.func15, Try.ntmps15
      go_wp2
      go_end0
      exact ⟨rfl, S1.out⟩
theorem new_any (w : World) : Calls Try.prog 9 #[] w fun e w' => ∃ g, e = .returned (.pointer (some ⟨g, 0, none⟩)) ∧ PtV w' w.heap.size g (.slice none 0 0) (.slice none 0 0) newD ∧ Below w.heap.size w w' := by
  have HP : Hid (PtV (w.alloc (.cells (pcells (.slice none 0 0) (.slice none 0 0) newD).toArray 58)) w.heap.size w.heap.size (.slice none 0 0) (.slice none 0 0) newD) :=
    hid_in ⟨Row.new w _ 58, World.ownsRow_nil _ _ _ _, World.ownsRow_nil _ _ _ _, (fun h => by cases h), (fun h => by cases h), (fun q h => by cases h), Nat.le_refl _, newD_ok⟩
  go_enter Try.func9, Try.ntmps9
  go_wp2
  go_ret
  exact ⟨_, rfl, HP.out, (Below.refl _ _).alloc (Nat.le_refl _) _⟩
end Go.Proofs.Ytcdmdmbdgmihfaa.Pt
