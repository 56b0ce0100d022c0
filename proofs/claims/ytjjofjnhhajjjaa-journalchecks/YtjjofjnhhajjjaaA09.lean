/-
  What a change is refused for; the calls that only tell; Arm, New. What a change is refused for; begin; Arm, New.
-/
import Derived.Laws.StructEq
import Derived.Laws.Tables
import Derived.Lib.SlBytesConst
import Derived.Deep.RegionLaw
import Derived.Laws.CopyOwn
import Derived.OwnWalk
import Derived.Deep.DrawnRows
import Derived.Deep.CutRange
import Derived.Test.YtjjofjnhhajjjaaA00
import Derived.Test.YtjjofjnhhajjjaaA01
import Derived.Test.YtjjofjnhhajjjaaA02
import Derived.Test.YtjjofjnhhajjjaaA03
import Derived.Test.YtjjofjnhhajjjaaA04
import Derived.Test.YtjjofjnhhajjjaaA05
import Derived.Test.YtjjofjnhhajjjaaA06
import Derived.Test.YtjjofjnhhajjjaaA08
namespace Go.Proofs.Ytjjofjnhhajjjaa.Pt
open Go.RowKit
open Nd (Row wp_world post_Row grownBy_setCell below_of_grown grownBy_trans grown_of_below grownBy_refl u8v Grew Moved Sl hid_in i5h)
def isA (a : Int) : Bool := (a == 0) || (a == 1)
theorem isArea_any (a : Int) (w : World) : Calls Try.prog 41 #[.int .i64 a] w fun e w' => e = .returned (.bool (isA a)) ∧ w' = w := by
  by_cases h0 : a = 0
  · subst h0
    go_enter Try.func41, Try.ntmps41
    go_wp2
    go_ret
    exact ⟨rfl, rfl⟩
  · have h1 : (a == 0) = false := by simpa using h0
    obtain ⟨b, hb⟩ : ∃ b, (a == 1) = b := ⟨_, rfl⟩
    have hr : isA a = b := by unfold isA; rw [h1, hb]; rfl
    rw [hr]
    clear hr h0
    rcases b with _ | _
    all_goals
      go_enter Try.func41, Try.ntmps41
      go_wp2
      go_ret
      exact ⟨rfl, rfl⟩
theorem live_any {w : World} {B g : Nat} {v0 v1 : Value} {d : Dk} (h : PtV w B g v0 v1 d) : Calls Try.prog 26 #[.pointer (some ⟨g, 0, none⟩)] w fun e w' => e = .returned (.int .i64 (liv d.live)) ∧ w' = w := by
  have c4 := h.row.cell 4
  simp only [pcells, List.getElem?_cons_succ, List.getElem?_cons_zero] at c4
  generalize liv d.live = l at *
  clear h
  go_enter Try.func26, Try.ntmps26
  go_wp2
  go_ret
  exact ⟨rfl, rfl⟩
theorem down_any {w : World} {B g : Nat} {v0 v1 : Value} {d : Dk} (h : PtV w B g v0 v1 d) : Calls Try.prog 15 #[.pointer (some ⟨g, 0, none⟩)] w fun e w' => e = .returned (.bool d.down) ∧ w' = w := by
  have c5 := h.row.cell 5
  simp only [pcells, List.getElem?_cons_succ, List.getElem?_cons_zero] at c5
  generalize d.down = l at *
  clear h
  go_enter Try.func15, Try.ntmps15
  go_wp2
  go_ret
  exact ⟨rfl, rfl⟩
def arOf (a : Int) (d : Dk) : Ar := if a = 0 then d.a0 else d.a1
/-- a cell of the platter is another one -/
theorem PtV.set {w : World} {B g : Nat} {v0 v1 : Value} {d d' : Dk} (h : PtV w B g v0 v1 d) (j : Nat) (u : Value) (hc : (pcells v0 v1 d).set j u = pcells v0 v1 d') (h0 : d'.a0.bs = d.a0.bs) (h1 : d'.a1.bs = d.a1.bs) (hk : d'.ok) : Stp w (w.setCell ⟨g, j, none⟩ u) B g v0 v1 d' := by
  have hg := grownBy_setCell w ⟨g, j, none⟩ u
  have hk0 : ∀ v : Value, v.ownBlock ≠ some g → v.ownBlock = none ∨ v.ownBlock ≠ some g := fun v hv => .inr hv
  refine ⟨v0, v1, ⟨by rw [← hc]; exact h.row.set_same j u, by rw [h0]; exact h.w0.kept hg (hk0 _ h.n0), by rw [h1]; exact h.w1.kept hg (hk0 _ h.n1), h.n0, h.n1, h.ap, h.base, hk⟩, (Grew.of_grown hg).mono ?_, fun _ h => .inl h⟩
  rintro q hq
  exact .inl (Option.some.inj hq)
def spendE (d : Dk) : Int := if d.left = 1 then 170 else 0
def spendD (d : Dk) : Dk := if d.left = 1 then { d with left := 0, down := true } else { d with left := d.left - 1 }
theorem spend_any {w : World} {B g : Nat} {v0 v1 : Value} {d : Dk} (h : PtV w B g v0 v1 d) : Calls Try.prog 58 #[.pointer (some ⟨g, 0, none⟩)] w fun e w' => e = .returned (.int .i64 (spendE d)) ∧ Stp w w' B g v0 v1 (spendD d) := by
  have c6 := h.row.cell 6
  simp only [pcells, List.getElem?_cons_succ, List.getElem?_cons_zero] at c6
  have f6 := h.row.frozen 6
  have f5 := h.row.frozen 5
  have hl := h.ok.left
  have c5 := h.row.cell 5
  simp only [pcells, List.getElem?_cons_succ, List.getElem?_cons_zero] at c5
  have HH := hid_in h
  by_cases h0 : d.left = 0
  · have e1 : spendE d = 0 := by unfold spendE; rw [if_neg (by omega)]
    have e2 : spendD d = d := by unfold spendD; rw [if_neg (by omega)]; cases d; simp at h0; subst h0; rfl
    rw [e1, e2]
    rw [h0] at c6
    clear h hl e1 e2 h0
    go_enter Try.func58, Try.ntmps58
    go_wp2
    go_ret
    exact ⟨rfl, Stp.refl HH.out⟩
  · by_cases h1 : d.left = 1
    · have e1 : spendE d = 170 := by unfold spendE; rw [if_pos h1]
      have e2 : spendD d = { d with left := 0, down := true } := by unfold spendD; rw [if_pos h1]
      have S1 := hid_in (h.set (d' := { d with left := 0 }) 6 (.int .i64 0) rfl rfl rfl ⟨h.ok.o0, h.ok.o1, by simp⟩)
      have S2 := hid_in (S1.out.then (fun u0 u1 hp => hp.set (d' := { d with left := 0, down := true }) 5 (.bool true) rfl rfl rfl ⟨h.ok.o0, h.ok.o1, by simp⟩))
      rw [e1, e2]
      rw [h1] at c6
      clear h hl e1 e2 h0 h1
      go_enter Try.func58, Try.ntmps58
      go_wp2
      go_ret
      exact ⟨rfl, S2.out⟩
    · obtain ⟨l, hl2⟩ : ∃ l : Nat, d.left = l + 2 := ⟨d.left - 2, by omega⟩
      have e1 : spendE d = 0 := by unfold spendE; rw [if_neg h1]
      have e2 : spendD d = { d with left := l + 1 } := by unfold spendD; rw [if_neg h1, hl2]; rfl
      have S1 := hid_in (h.set (d' := { d with left := l + 1 }) 6 (.int .i64 ((l : Int) + 1)) (by simp [pcells]) rfl rfl ⟨h.ok.o0, h.ok.o1, by simp; omega⟩)
      rw [e1, e2]
      rw [hl2] at c6
      have q1 : ((l + 2 : Nat) : Int) = (l : Int) + 2 := by omega
      rw [q1] at c6
      have hl3 : (l : Int) + 2 ≤ 9223372036854775807 := by omega
      have z1 : wrap64 ((l : Int) + 2 - 1) = (l : Int) + 1 := by unfold wrap64; omega
      have z2 : IntKind.i64.wrap ((l : Int) + 2 - 1) = (l : Int) + 1 := by rw [IntKind.wrap_i64]; omega
      have y1 : ((l : Int) + 2 == 0) = false := by simp; omega
      have y2 : 0 < (l : Int) + 1 := by omega
      clear h hl e1 e2 h0 h1 hl2 q1 hl3
      go_enter Try.func58, Try.ntmps58
      go_wp2
      go_ret
      exact ⟨rfl, S1.out⟩
end Go.Proofs.Ytjjofjnhhajjjaa.Pt
namespace Go.Proofs.Ytjjofjnhhajjjaa.Pt
open Go.RowKit
open Nd (Row wp_world post_Row grownBy_setCell below_of_grown grownBy_trans grown_of_below grownBy_refl u8v Grew Moved Sl hid_in i5h)
/-- what a change of an area is refused for -/
def refE (k a : Int) (d : Dk) : Int := if isA a = false then 1 else if d.down then 170 else if k = 2 ∧ a = liv d.live then 6 else if k = 3 ∧ (arOf a d).sy < (arOf a d).bs.length then 6 else 0
theorem refusal_any {w : World} {B g : Nat} {v0 v1 : Value} {d : Dk} (h : PtV w B g v0 v1 d) (k a : Int) : Calls Try.prog 57 #[.pointer (some ⟨g, 0, none⟩), .int .i64 k, .int .i64 a] w fun e w' => e = .returned (.int .i64 (refE k a d)) ∧ Below w.heap.size w w' := by
  have c1 := h.row.cell 1
  have c3 := h.row.cell 3
  have c4 := h.row.cell 4
  have c5 := h.row.cell 5
  have c0 := h.row.cell 0
  have c2 := h.row.cell 2
  simp only [pcells, List.getElem?_cons_succ, List.getElem?_cons_zero] at c0 c1 c2 c3 c4 c5
  have HA := hid_in (isArea_any a w)
  obtain ⟨p0, q0, hv0, -, -⟩ := own_some h.w0
  obtain ⟨p1, q1, hv1, -, -⟩ := own_some h.w1
  subst hv0 hv1
  have HB := hid_in (fun n => Nd.below_drewN (Below.refl w.heap.size w) n)
  unfold refE
  by_cases ha : isA a = true
  · rw [ha] at HA
    rw [if_neg (by rw [ha]; simp)]
    by_cases hd : d.down = true
    · rw [hd] at c5
      rw [if_pos hd]
      clear h hd ha
      go_enter Try.func57, Try.ntmps57
      go_wp2_with (first | (go_at_call 41; refine HA.out.mono ?_; rintro e w1 ⟨rfl, rfl⟩))
      go_ret
      exact ⟨rfl, Below.refl _ _⟩
    · have hd' : d.down = false := by simpa using hd
      rw [hd'] at c5
      rw [if_neg hd]
      by_cases h2 : k = 2
      · subst h2
        by_cases hl : a = liv d.live
        · rw [if_pos ⟨rfl, hl⟩]
          have y1 : (a == liv d.live) = true := by simpa using hl
          generalize liv d.live = l at *
          clear h hd hd' ha hl
          go_enter Try.func57, Try.ntmps57
          go_wp2_with (first | (go_at_call 41; refine HA.out.mono ?_; rintro e w1 ⟨rfl, rfl⟩))
          go_ret
          exact ⟨rfl, Below.refl _ _⟩
        · rw [if_neg (fun h => hl h.2), if_neg (fun h => absurd h.1 (by decide))]
          have y1 : (a == liv d.live) = false := by simpa using hl
          generalize liv d.live = l at *
          clear h hd hd' ha hl
          go_enter Try.func57, Try.ntmps57
          go_upto_region 5 with (first | (go_at_call 41; refine HA.out.mono ?_; rintro e w1 ⟨rfl, rfl⟩))
          go_quiet (fail)
          go_wp2_with fail
          go_ret
          exact ⟨rfl, HB.out _⟩
      · rw [if_neg (fun h => h2 h.1)]
        have y2 : (k == 2) = false := by simpa using h2
        by_cases h3 : k = 3
        · subst h3
          have hk2 : isA a = true := ha
          have ha2 : a = 0 ∨ a = 1 := by simpa [isA] using hk2
          have hlt : ((3 : Int) = 3 ∧ (arOf a d).sy < (arOf a d).bs.length) ↔ (arOf a d).sy < (arOf a d).bs.length := by simp
          rcases ha2 with rfl | rfl
          · have e : arOf 0 d = d.a0 := rfl
            rw [e] at *
            by_cases hs : d.a0.sy < d.a0.bs.length
            · rw [if_pos ⟨rfl, hs⟩]
              have y3 : decide ((d.a0.sy : Int) < (d.a0.bs.length : Int)) = true := by simpa using hs
              generalize (d.a0.sy : Int) = s0 at *
              generalize (d.a0.bs.length) = l0 at *
              clear h hd hd' ha hs hk2 hlt e
              go_enter Try.func57, Try.ntmps57
              go_upto_region 5 with (first | (go_at_call 41; refine HA.out.mono ?_; rintro e w1 ⟨rfl, rfl⟩))
              go_quiet (fail)
              go_wp2_with fail
              go_ret
              exact ⟨rfl, HB.out _⟩
            · rw [if_neg (fun h => hs h.2)]
              have y3 : decide ((d.a0.sy : Int) < (d.a0.bs.length : Int)) = false := by simpa using hs
              generalize (d.a0.sy : Int) = s0 at *
              generalize (d.a0.bs.length) = l0 at *
              clear h hd hd' ha hs hk2 hlt e
              go_enter Try.func57, Try.ntmps57
              go_upto_region 5 with (first | (go_at_call 41; refine HA.out.mono ?_; rintro e w1 ⟨rfl, rfl⟩))
              go_quiet (fail)
              go_wp2_with fail
              go_ret
              exact ⟨rfl, HB.out _⟩
          · have e : arOf 1 d = d.a1 := rfl
            rw [e] at *
            by_cases hs : d.a1.sy < d.a1.bs.length
            · rw [if_pos ⟨rfl, hs⟩]
              have y3 : decide ((d.a1.sy : Int) < (d.a1.bs.length : Int)) = true := by simpa using hs
              generalize (d.a1.sy : Int) = s0 at *
              generalize (d.a1.bs.length) = l0 at *
              clear h hd hd' ha hs hk2 hlt e
              go_enter Try.func57, Try.ntmps57
              go_upto_region 5 with (first | (go_at_call 41; refine HA.out.mono ?_; rintro e w1 ⟨rfl, rfl⟩))
              go_quiet (fail)
              go_wp2_with fail
              go_ret
              exact ⟨rfl, HB.out _⟩
            · rw [if_neg (fun h => hs h.2)]
              have y3 : decide ((d.a1.sy : Int) < (d.a1.bs.length : Int)) = false := by simpa using hs
              generalize (d.a1.sy : Int) = s0 at *
              generalize (d.a1.bs.length) = l0 at *
              clear h hd hd' ha hs hk2 hlt e
              go_enter Try.func57, Try.ntmps57
              go_upto_region 5 with (first | (go_at_call 41; refine HA.out.mono ?_; rintro e w1 ⟨rfl, rfl⟩))
              go_quiet (fail)
              go_wp2_with fail
              go_ret
              exact ⟨rfl, HB.out _⟩
        · rw [if_neg (fun h => h3 h.1)]
          have y3 : (k == 3) = false := by simpa using h3
          clear h hd hd' ha h2 h3
          go_enter Try.func57, Try.ntmps57
          go_upto_region 5 with (first | (go_at_call 41; refine HA.out.mono ?_; rintro e w1 ⟨rfl, rfl⟩))
          go_quiet (fail)
          go_wp2_with fail
          go_ret
          exact ⟨rfl, HB.out _⟩
  · have ha' : isA a = false := by simpa using ha
    rw [ha'] at HA
    rw [if_pos ha']
    clear h ha ha'
    go_enter Try.func57, Try.ntmps57
    go_wp2_with (first | (go_at_call 41; refine HA.out.mono ?_; rintro e w1 ⟨rfl, rfl⟩))
    go_ret
    exact ⟨rfl, Below.refl _ _⟩
theorem refusal_nil (k a : Int) (w : World) : Calls Try.prog 57 #[.pointer none, .int .i64 k, .int .i64 a] w fun e w' => e = .returned (.int .i64 7) ∧ w' = w := by
  go_enter Try.func57, Try.ntmps57
  go_wp2
  go_ret
  exact ⟨rfl, rfl⟩
def begE (k a : Int) (d : Dk) : Int := if refE k a d = 0 then spendE d else refE k a d
def begD (k a : Int) (d : Dk) : Dk := if refE k a d = 0 then spendD d else d
theorem begin_any {w : World} {B g : Nat} {v0 v1 : Value} {d : Dk} (h : PtV w B g v0 v1 d) (k a : Int) : Calls Try.prog 39 #[.pointer (some ⟨g, 0, none⟩), .int .i64 k, .int .i64 a] w fun e w' => e = .returned (.int .i64 (begE k a d)) ∧ Stp w w' B g v0 v1 (begD k a d) := by
  have HR := hid_in (refusal_any h k a)
  have HH := hid_in h
  unfold begE begD
  by_cases h0 : refE k a d = 0
  · rw [if_pos h0, if_pos h0]
    rw [h0] at HR
    clear h h0
    go_enter Try.func39, Try.ntmps39
    go_wp2_with (first | (go_at_call 57; refine HR.out.mono ?_; rintro e w1 ⟨rfl, hb1⟩; have HB1 := hid_in hb1; clear hb1) | (go_at_call 58; refine (spend_any (HH.out.below HB1.out)).mono ?_; rintro e w2 ⟨rfl, hs2⟩; have HS2 := hid_in hs2; clear hs2))
    go_ret
    exact ⟨rfl, Stp.ahead HB1.out HS2.out⟩
  · rw [if_neg h0, if_neg h0]
    have y0 : (refE k a d != 0) = true := by simpa using h0
    generalize refE k a d = r at *
    clear h h0
    go_enter Try.func39, Try.ntmps39
    go_wp2_with (first | (go_at_call 57; refine HR.out.mono ?_; rintro e w1 ⟨rfl, hb1⟩; have HB1 := hid_in hb1; clear hb1))
    go_ret
    exact ⟨rfl, Stp.of_below HH.out HB1.out⟩
def armD (n : Int) (d : Dk) : Dk := if d.down then d else { d with left := n.toNat }
theorem arm_any {w : World} {B g : Nat} {v0 v1 : Value} {d : Dk} (h : PtV w B g v0 v1 d) (n : Int) (hn : n ≤ 9223372036854775807) : Calls Try.prog 13 #[.pointer (some ⟨g, 0, none⟩), .int .i64 n] w fun e w' => e = .returned (.tuple #[]) ∧ Stp w w' B g v0 v1 (armD n d) := by
  have c5 := h.row.cell 5
  have c6 := h.row.cell 6
  have f6 := h.row.frozen 6
  simp only [pcells, List.getElem?_cons_succ, List.getElem?_cons_zero] at c5 c6
  have HH := hid_in h
  unfold armD
  by_cases hd : d.down = true
  · rw [if_pos hd]
    rw [hd] at c5
    clear h hd
    go_enter Try.func13, Try.ntmps13
    go_wp2
    go_end0
    exact ⟨rfl, Stp.refl HH.out⟩
  · rw [if_neg hd]
    have hd' : d.down = false := by simpa using hd
    rw [hd'] at c5
    generalize (d.left : Int) = l at *
    rcases Int.lt_trichotomy n 0 with h0 | h0 | h0
    · have hz : n.toNat = 0 := by omega
      have S1 := hid_in (h.set (d' := { d with left := n.toNat }) 6 (.int .i64 0) (by simp [pcells, hz]) rfl rfl ⟨h.ok.o0, h.ok.o1, by simp; omega⟩)
      have hm : max n 0 = 0 := by omega
      clear h hd hd' hn hz
      go_enter Try.func13, Try.ntmps13
      go_wp2
      go_end0
      exact ⟨rfl, S1.out⟩
    · subst h0
      have S1 := hid_in (h.set (d' := { d with left := 0 }) 6 (.int .i64 0) (by simp [pcells]) rfl rfl ⟨h.ok.o0, h.ok.o1, by simp⟩)
      clear h hd hd' hn
      go_enter Try.func13, Try.ntmps13
      go_wp2
      all_goals
        go_end0
        exact ⟨rfl, S1.out⟩
    · have hz : ((n.toNat : Nat) : Int) = n := by omega
      have S1 := hid_in (h.set (d' := { d with left := n.toNat }) 6 (.int .i64 n) (by simp only [pcells, List.set_cons_succ, List.set_cons_zero, hz]) rfl rfl ⟨h.ok.o0, h.ok.o1, by simp; omega⟩)
      have hm : max n 0 = n := by omega
      clear h hd hd' hn hz
      go_enter Try.func13, Try.ntmps13
      go_wp2
      go_end0
      exact ⟨rfl, S1.out⟩
theorem new_any (w : World) : Calls Try.prog 8 #[] w fun e w' => ∃ g, e = .returned (.pointer (some ⟨g, 0, none⟩)) ∧ PtV w' w.heap.size g (.slice none 0 0) (.slice none 0 0) newD ∧ Below w.heap.size w w' := by
  have HP : Hid (PtV (w.alloc (.cells (pcells (.slice none 0 0) (.slice none 0 0) newD).toArray 60)) w.heap.size w.heap.size (.slice none 0 0) (.slice none 0 0) newD) :=
    hid_in ⟨Row.new w _ 60, World.ownsRow_nil _ _ _ _, World.ownsRow_nil _ _ _ _, (fun h => by cases h), (fun h => by cases h), (fun q h => by cases h), Nat.le_refl _, newD_ok⟩
  go_enter Try.func8, Try.ntmps8
  go_wp2
  go_ret
  exact ⟨_, rfl, HP.out, (Below.refl _ _).alloc (Nat.le_refl _) _⟩
end Go.Proofs.Ytjjofjnhhajjjaa.Pt
