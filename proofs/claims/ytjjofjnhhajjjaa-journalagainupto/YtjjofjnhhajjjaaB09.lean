/-
  What a change is refused for; begin; Arm, New. Append, Sync, Wipe, Flip.
-/
import Derived.Lib.SlBytesConst
import Derived.Deep.RegionLaw
import Derived.Laws.Tables
import Derived.OwnWalk
import Derived.Laws.CopyOwn
import Derived.Deep.DrawnRows
import Derived.Deep.CutRange
import Derived.Laws.StructEq
import Derived.Test.YtjjofjnhhajjjaaB00
import Derived.Test.YtjjofjnhhajjjaaB01
import Derived.Test.YtjjofjnhhajjjaaB02
import Derived.Test.YtjjofjnhhajjjaaB03
import Derived.Test.YtjjofjnhhajjjaaB04
import Derived.Test.YtjjofjnhhajjjaaB05
import Derived.Test.YtjjofjnhhajjjaaB06
import Derived.Test.YtjjofjnhhajjjaaB07
import Derived.Test.YtjjofjnhhajjjaaB08
namespace Go.Proofs.Ytjjofjnhhajjjaa.Pt
open Go.RowKit
open Nd (Row wp_world post_Row grownBy_setCell below_of_grown grownBy_trans grown_of_below grownBy_refl u8v Grew Moved Sl hid_in i5h)
/-- what a change of an area is refused for -/
def refE (k a : Int) (d : Dk) : Int := if isA a = false then 1 else if d.down then 170 else if k = 2 ∧ a = liv d.live then 6 else if k = 3 ∧ (arOf a d).sy < (arOf a d).bs.length then 6 else 0
theorem refusal_any {w : World} {B g : Nat} {v0 v1 : Value} {d : Dk} (h : PtV w B g v0 v1 d) (k a : Int) : Calls Try.prog 57 #[.pointer (some ⟨g, 0, none⟩), .int .i64 k, .int .i64 a] w fun e w' => e = .returned (.int .i64 (refE k a d)) ∧ Below w.heap.size w w' := by
  have c1 := h.row.cell 1
  have c3 := h.row.cell 3
  have c4 := h.row.cell 4
  have c5 := h.row.cell 5
  have c0 := h.row.cell 0
  have c2 := h.row.cell 2
  simp only [pcells, List.getElem?_cons_succ, List.getElem?_cons_zero] at c0 c1 c2 c3 c4 c5
  have HA := hid_in (isArea_any a w)
  obtain ⟨p0, q0, hv0, -, -⟩ := own_some h.w0
  obtain ⟨p1, q1, hv1, -, -⟩ := own_some h.w1
  subst hv0 hv1
  have HB := hid_in (fun n => Nd.below_drewN (Below.refl w.heap.size w) n)
  unfold refE
  by_cases ha : isA a = true
  · rw [ha] at HA
    rw [if_neg (by rw [ha]; simp)]
    by_cases hd : d.down = true
    · rw [hd] at c5
      rw [if_pos hd]
      clear h hd ha
      go_enter Try.func57, Try.ntmps57
      go_wp2_with (first | (go_at_call 41; refine HA.out.mono ?_; rintro e w1 ⟨rfl, rfl⟩))
      go_ret
      exact ⟨rfl, Below.refl _ _⟩
    · have hd' : d.down = false := by simpa using hd
      rw [hd'] at c5
      rw [if_neg hd]
      by_cases h2 : k = 2
      · subst h2
        by_cases hl : a = liv d.live
        · rw [if_pos ⟨rfl, hl⟩]
          have y1 : (a == liv d.live) = true := by simpa using hl
          generalize liv d.live = l at *
          clear h hd hd' ha hl
          go_enter Try.func57, Try.ntmps57
          go_wp2_with (first | (go_at_call 41; refine HA.out.mono ?_; rintro e w1 ⟨rfl, rfl⟩))
          go_ret
          exact ⟨rfl, Below.refl _ _⟩
        · rw [if_neg (fun h => hl h.2), if_neg (fun h => absurd h.1 (by decide))]
          have y1 : (a == liv d.live) = false := by simpa using hl
          generalize liv d.live = l at *
          clear h hd hd' ha hl
          go_enter Try.func57, Try.ntmps57
          go_upto_region 5 with (first | (go_at_call 41; refine HA.out.mono ?_; rintro e w1 ⟨rfl, rfl⟩))
          go_quiet (fail)
          go_wp2_with fail
          go_ret
          exact ⟨rfl, HB.out _⟩
      · rw [if_neg (fun h => h2 h.1)]
        have y2 : (k == 2) = false := by simpa using h2
        by_cases h3 : k = 3
        · subst h3
          have hk2 : isA a = true := ha
          have ha2 : a = 0 ∨ a = 1 := by simpa [isA] using hk2
          have hlt : ((3 : Int) = 3 ∧ (arOf a d).sy < (arOf a d).bs.length) ↔ (arOf a d).sy < (arOf a d).bs.length := by simp
          rcases ha2 with rfl | rfl
          · have e : arOf 0 d = d.a0 := rfl
            rw [e] at *
            by_cases hs : d.a0.sy < d.a0.bs.length
            · rw [if_pos ⟨rfl, hs⟩]
              have y3 : decide ((d.a0.sy : Int) < (d.a0.bs.length : Int)) = true := by simpa using hs
              generalize (d.a0.sy : Int) = s0 at *
              generalize (d.a0.bs.length) = l0 at *
              clear h hd hd' ha hs hk2 hlt e
              go_enter Try.func57, Try.ntmps57
              go_upto_region 5 with (first | (go_at_call 41; refine HA.out.mono ?_; rintro e w1 ⟨rfl, rfl⟩))
              go_quiet (fail)
              go_wp2_with fail
              go_ret
              exact ⟨rfl, HB.out _⟩
            · rw [if_neg (fun h => hs h.2)]
              have y3 : decide ((d.a0.sy : Int) < (d.a0.bs.length : Int)) = false := by simpa using hs
              generalize (d.a0.sy : Int) = s0 at *
              generalize (d.a0.bs.length) = l0 at *
              clear h hd hd' ha hs hk2 hlt e
              go_enter Try.func57, Try.ntmps57
              go_upto_region 5 with (first | (go_at_call 41; refine HA.out.mono ?_; rintro e w1 ⟨rfl, rfl⟩))
              go_quiet (fail)
              go_wp2_with fail
              go_ret
              exact ⟨rfl, HB.out _⟩
          · have e : arOf 1 d = d.a1 := rfl
            rw [e] at *
            by_cases hs : d.a1.sy < d.a1.bs.length
            · rw [if_pos ⟨rfl, hs⟩]
              have y3 : decide ((d.a1.sy : Int) < (d.a1.bs.length : Int)) = true := by simpa using hs
              generalize (d.a1.sy : Int) = s0 at *
              generalize (d.a1.bs.length) = l0 at *
              clear h hd hd' ha hs hk2 hlt e
              go_enter Try.func57, Try.ntmps57
              go_upto_region 5 with (first | (go_at_call 41; refine HA.out.mono ?_; rintro e w1 ⟨rfl, rfl⟩))
              go_quiet (fail)
              go_wp2_with fail
              go_ret
              exact ⟨rfl, HB.out _⟩
            · rw [if_neg (fun h => hs h.2)]
              have y3 : decide ((d.a1.sy : Int) < (d.a1.bs.length : Int)) = false := by simpa using hs
              generalize (d.a1.sy : Int) = s0 at *
              generalize (d.a1.bs.length) = l0 at *
              clear h hd hd' ha hs hk2 hlt e
              go_enter Try.func57, Try.ntmps57
              go_upto_region 5 with (first | (go_at_call 41; refine HA.out.mono ?_; rintro e w1 ⟨rfl, rfl⟩))
              go_quiet (fail)
              go_wp2_with fail
              go_ret
              exact ⟨rfl, HB.out _⟩
        · rw [if_neg (fun h => h3 h.1)]
          have y3 : (k == 3) = false := by simpa using h3
          clear h hd hd' ha h2 h3
          go_enter Try.func57, Try.ntmps57
          go_upto_region 5 with (first | (go_at_call 41; refine HA.out.mono ?_; rintro e w1 ⟨rfl, rfl⟩))
          go_quiet (fail)
          go_wp2_with fail
          go_ret
          exact ⟨rfl, HB.out _⟩
  · have ha' : isA a = false := by simpa using ha
    rw [ha'] at HA
    rw [if_pos ha']
    clear h ha ha'
    go_enter Try.func57, Try.ntmps57
    go_wp2_with (first | (go_at_call 41; refine HA.out.mono ?_; rintro e w1 ⟨rfl, rfl⟩))
    go_ret
    exact ⟨rfl, Below.refl _ _⟩
theorem refusal_nil (k a : Int) (w : World) : Calls Try.prog 57 #[.pointer none, .int .i64 k, .int .i64 a] w fun e w' => e = .returned (.int .i64 7) ∧ w' = w := by
  go_enter Try.func57, Try.ntmps57
  go_wp2
  go_ret
  exact ⟨rfl, rfl⟩
def begE (k a : Int) (d : Dk) : Int := if refE k a d = 0 then spendE d else refE k a d
def begD (k a : Int) (d : Dk) : Dk := if refE k a d = 0 then spendD d else d
theorem begin_any {w : World} {B g : Nat} {v0 v1 : Value} {d : Dk} (h : PtV w B g v0 v1 d) (k a : Int) : Calls Try.prog 39 #[.pointer (some ⟨g, 0, none⟩), .int .i64 k, .int .i64 a] w fun e w' => e = .returned (.int .i64 (begE k a d)) ∧ Stp w w' B g v0 v1 (begD k a d) := by
  have HR := hid_in (refusal_any h k a)
  have HH := hid_in h
  unfold begE begD
  by_cases h0 : refE k a d = 0
  · rw [if_pos h0, if_pos h0]
    rw [h0] at HR
    clear h h0
    go_enter Try.func39, Try.ntmps39
    go_wp2_with (first | (go_at_call 57; refine HR.out.mono ?_; rintro e w1 ⟨rfl, hb1⟩; have HB1 := hid_in hb1; clear hb1) | (go_at_call 58; refine (spend_any (HH.out.below HB1.out)).mono ?_; rintro e w2 ⟨rfl, hs2⟩; have HS2 := hid_in hs2; clear hs2))
    go_ret
    exact ⟨rfl, Stp.ahead HB1.out HS2.out⟩
  · rw [if_neg h0, if_neg h0]
    have y0 : (refE k a d != 0) = true := by simpa using h0
    generalize refE k a d = r at *
    clear h h0
    go_enter Try.func39, Try.ntmps39
    go_wp2_with (first | (go_at_call 57; refine HR.out.mono ?_; rintro e w1 ⟨rfl, hb1⟩; have HB1 := hid_in hb1; clear hb1))
    go_ret
    exact ⟨rfl, Stp.of_below HH.out HB1.out⟩
theorem new_any (w : World) : Calls Try.prog 8 #[] w fun e w' => ∃ g, e = .returned (.pointer (some ⟨g, 0, none⟩)) ∧ PtV w' w.heap.size g (.slice none 0 0) (.slice none 0 0) newD ∧ Below w.heap.size w w' := by
  have HP : Hid (PtV (w.alloc (.cells (pcells (.slice none 0 0) (.slice none 0 0) newD).toArray 60)) w.heap.size w.heap.size (.slice none 0 0) (.slice none 0 0) newD) :=
    hid_in ⟨Row.new w _ 60, World.ownsRow_nil _ _ _ _, World.ownsRow_nil _ _ _ _, (fun h => by cases h), (fun h => by cases h), (fun q h => by cases h), Nat.le_refl _, newD_ok⟩
  go_enter Try.func8, Try.ntmps8
  go_wp2
  go_ret
  exact ⟨_, rfl, HP.out, (Below.refl _ _).alloc (Nat.le_refl _) _⟩
end Go.Proofs.Ytjjofjnhhajjjaa.Pt
namespace Go.Proofs.Ytjjofjnhhajjjaa.Pt
open Go.RowKit
open Nd (Row wp_world post_Row grownBy_setCell below_of_grown grownBy_trans grown_of_below grownBy_refl u8v Grew Moved Sl hid_in i5h)
def setAr (a : Int) (x : Ar) (d : Dk) : Dk := if a = 0 then { d with a0 := x } else { d with a1 := x }
theorem isA_cases {a : Int} (h : isA a = true) : a = 0 ∨ a = 1 := by simpa [isA] using h
theorem refE_isA {k a : Int} {d : Dk} (h : refE k a d = 0) : isA a = true := by
  unfold refE at h
  split at h
  · cases h
  · rename_i h1
    simpa using h1
theorem setAr_ok {a : Int} {x : Ar} {d : Dk} (h : d.ok) (hx : x.ok) : (setAr a x d).ok := by
  unfold setAr
  split
  · exact ⟨hx, h.o1, h.left⟩
  · exact ⟨h.o0, hx, h.left⟩
theorem spendD_ar (a : Int) (d : Dk) : arOf a (spendD d) = arOf a d := by
  unfold spendD arOf
  split <;> split <;> rfl
theorem begD_ar (k a b : Int) (d : Dk) : arOf b (begD k a d) = arOf b d := by
  unfold begD
  split
  · exact spendD_ar b d
  · rfl
theorem spendE_ar (a : Int) (x : Ar) (d : Dk) : spendE (setAr a x d) = spendE d := by
  unfold setAr spendE
  split <;> rfl
theorem begE_isA {k a : Int} {d : Dk} (h : begE k a d = 0) : isA a = true := by
  unfold begE at h
  split at h
  · rename_i h1
    exact refE_isA h1
  · exact refE_isA h
def synD (a : Int) (d : Dk) : Dk := if begE 1 a d = 0 then setAr a ⟨(arOf a d).bs, (arOf a d).bs.length⟩ (begD 1 a d) else begD 1 a d
theorem sync_any {w : World} {B g : Nat} {v0 v1 : Value} {d : Dk} (h : PtV w B g v0 v1 d) (a : Int) : Calls Try.prog 20 #[.pointer (some ⟨g, 0, none⟩), .int .i64 a] w fun e w' => e = .returned (.int .i64 (begE 1 a d)) ∧ Stp w w' B g v0 v1 (synD a d) := by
  have HB := hid_in (begin_any h 1 a)
  unfold synD
  by_cases h0 : begE 1 a d = 0
  · rw [if_pos h0]
    have HA := begE_isA h0
    rw [h0] at HB ⊢
    have hA0 := begD_ar 1 a 0 d
    have hA1 := begD_ar 1 a 1 d
    generalize begD 1 a d = d1 at *
    rcases isA_cases HA with rfl | rfl
    · have e : arOf 0 d = d1.a0 := hA0.symm
      rw [e]
      clear h h0 HA hA0 hA1 e
      go_enter Try.func20, Try.ntmps20
      go_upto_region 3 with (first | (go_at_call 39; refine HB.out.mono ?_; rintro e w1 ⟨rfl, hs1⟩; have HS1 := hid_in hs1; clear hs1))
      obtain ⟨u0, u1, hp, hg, hsub⟩ := HS1.out
      have HP := hid_in hp
      have HG := hid_in hg
      have HU := hid_in hsub
      have c0 := hp.row.cell 0
      have c1 := hp.row.cell 1
      have f1 := hp.row.frozen 1
      simp only [pcells, List.getElem?_cons_succ, List.getElem?_cons_zero] at c0 c1
      obtain ⟨p0, q0, hv0, -, -⟩ := own_some hp.w0
      subst hv0
      obtain ⟨l0, HL0⟩ : ∃ l, Hid (d1.a0.bs.length = l) := ⟨_, hid_in rfl⟩
      rw [HL0.out] at c0
      have S2 := hid_in (HP.out.set (d' := setAr 0 ⟨d1.a0.bs, d1.a0.bs.length⟩ d1) 1 (.int .i64 (l0 : Int)) (by rw [← HL0.out]; rfl) rfl rfl (setAr_ok HP.out.ok ⟨Nat.le_refl _, HP.out.ok.o0.2⟩))
      generalize (d1.a0.sy : Int) = s0 at *
      clear hp hg hsub HS1
      go_region
      go_wp2
      go_ret
      exact ⟨rfl, Stp.trans HP.out HG.out HU.out (S2.out.behind (Below.refl _ _).drew)⟩
    · have e : arOf 1 d = d1.a1 := hA1.symm
      rw [e]
      clear h h0 HA hA0 hA1 e
      go_enter Try.func20, Try.ntmps20
      go_upto_region 3 with (first | (go_at_call 39; refine HB.out.mono ?_; rintro e w1 ⟨rfl, hs1⟩; have HS1 := hid_in hs1; clear hs1))
      obtain ⟨u0, u1, hp, hg, hsub⟩ := HS1.out
      have HP := hid_in hp
      have HG := hid_in hg
      have HU := hid_in hsub
      have c0 := hp.row.cell 2
      have c1 := hp.row.cell 3
      have f1 := hp.row.frozen 3
      simp only [pcells, List.getElem?_cons_succ, List.getElem?_cons_zero] at c0 c1
      obtain ⟨p0, q0, hv0, -, -⟩ := own_some hp.w1
      subst hv0
      obtain ⟨l0, HL0⟩ : ∃ l, Hid (d1.a1.bs.length = l) := ⟨_, hid_in rfl⟩
      rw [HL0.out] at c0
      have S2 := hid_in (HP.out.set (d' := setAr 1 ⟨d1.a1.bs, d1.a1.bs.length⟩ d1) 3 (.int .i64 (l0 : Int)) (by rw [← HL0.out]; rfl) rfl rfl (setAr_ok HP.out.ok ⟨Nat.le_refl _, HP.out.ok.o1.2⟩))
      generalize (d1.a1.sy : Int) = s0 at *
      clear hp hg hsub HS1
      go_region
      go_wp2
      go_ret
      exact ⟨rfl, Stp.trans HP.out HG.out HU.out (S2.out.behind (Below.refl _ _).drew)⟩
  · rw [if_neg h0]
    have y0 : (begE 1 a d == 0) = false := by simpa using h0
    generalize begE 1 a d = r at *
    clear h h0
    go_enter Try.func20, Try.ntmps20
    go_wp2_with (first | (go_at_call 39; refine HB.out.mono ?_; rintro e w1 ⟨rfl, hs1⟩; have HS1 := hid_in hs1; clear hs1))
    go_ret
    exact ⟨rfl, HS1.out⟩
theorem PtV.wipe0 {w : World} {B g : Nat} {v0 v1 : Value} {d : Dk} (h : PtV w B g v0 v1 d) : Stp w ((w.setCell ⟨g, 0, none⟩ (.slice none 0 0)).setCell ⟨g, 1, none⟩ (.int .i64 0)) B g v0 v1 (setAr 0 ⟨[], 0⟩ d) := by
  have hg := grownBy_trans (grownBy_setCell w ⟨g, 0, none⟩ (.slice none 0 0)) (grownBy_setCell (w.setCell ⟨g, 0, none⟩ (.slice none 0 0)) ⟨g, 1, none⟩ (.int .i64 0))
  refine ⟨.slice none 0 0, v1, ⟨(h.row.set_same 0 _).set_same 1 _, World.ownsRow_nil _ _ _ _, h.w1.kept hg (.inr h.n1), (fun e => by cases e), h.n1, (fun q e => by cases e), h.base, setAr_ok h.ok ⟨Nat.le_refl _, (fun b hb => by cases hb), by simp⟩⟩, (Grew.of_grown hg).mono (fun q hq => .inl (Option.some.inj hq)), fun k hk => ?_⟩
  rcases hk with h1 | h1 | h1
  · exact .inl (.inl h1)
  · cases h1
  · exact .inl (.inr (.inr h1))
theorem PtV.wipe1 {w : World} {B g : Nat} {v0 v1 : Value} {d : Dk} (h : PtV w B g v0 v1 d) : Stp w ((w.setCell ⟨g, 2, none⟩ (.slice none 0 0)).setCell ⟨g, 3, none⟩ (.int .i64 0)) B g v0 v1 (setAr 1 ⟨[], 0⟩ d) := by
  have hg := grownBy_trans (grownBy_setCell w ⟨g, 2, none⟩ (.slice none 0 0)) (grownBy_setCell (w.setCell ⟨g, 2, none⟩ (.slice none 0 0)) ⟨g, 3, none⟩ (.int .i64 0))
  refine ⟨v0, .slice none 0 0, ⟨(h.row.set_same 2 _).set_same 3 _, h.w0.kept hg (.inr h.n0), World.ownsRow_nil _ _ _ _, h.n0, (fun e => by cases e), (fun q _ e => by cases e), h.base, setAr_ok h.ok ⟨Nat.le_refl _, (fun b hb => by cases hb), by simp⟩⟩, (Grew.of_grown hg).mono (fun q hq => .inl (Option.some.inj hq)), fun k hk => ?_⟩
  rcases hk with h1 | h1 | h1
  · exact .inl (.inl h1)
  · exact .inl (.inr (.inl h1))
  · cases h1
def wipD (a : Int) (d : Dk) : Dk := if begE 2 a d = 0 then setAr a ⟨[], 0⟩ (begD 2 a d) else begD 2 a d
theorem wipe_any {w : World} {B g : Nat} {v0 v1 : Value} {d : Dk} (h : PtV w B g v0 v1 d) (a : Int) : Calls Try.prog 49 #[.pointer (some ⟨g, 0, none⟩), .int .i64 a] w fun e w' => e = .returned (.int .i64 (begE 2 a d)) ∧ Stp w w' B g v0 v1 (wipD a d) := by
  have HB := hid_in (begin_any h 2 a)
  unfold wipD
  by_cases h0 : begE 2 a d = 0
  · rw [if_pos h0]
    have HA := begE_isA h0
    rw [h0] at HB ⊢
    have hA0 := begD_ar 2 a 0 d
    have hA1 := begD_ar 2 a 1 d
    generalize begD 2 a d = d1 at *
    rcases isA_cases HA with rfl | rfl
    · clear h h0 HA hA0 hA1
      go_enter Try.func49, Try.ntmps49
      go_upto_region 3 with (first | (go_at_call 39; refine HB.out.mono ?_; rintro e w1 ⟨rfl, hs1⟩; have HS1 := hid_in hs1; clear hs1))
      obtain ⟨u0, u1, hp, hg, hsub⟩ := HS1.out
      have HP := hid_in hp
      have HG := hid_in hg
      have HU := hid_in hsub
      have c0 := hp.row.cell 0
      have c1 := hp.row.cell 1
      have f0 := hp.row.frozen 0
      have f1 := hp.row.frozen 1
      simp only [pcells, List.getElem?_cons_succ, List.getElem?_cons_zero] at c0 c1
      have S2 := hid_in (HP.out.wipe0)
      clear hp hg hsub HS1
      go_wp2
      go_ret
      exact ⟨rfl, Stp.trans HP.out HG.out HU.out S2.out⟩
    · clear h h0 HA hA0 hA1
      go_enter Try.func49, Try.ntmps49
      go_upto_region 3 with (first | (go_at_call 39; refine HB.out.mono ?_; rintro e w1 ⟨rfl, hs1⟩; have HS1 := hid_in hs1; clear hs1))
      obtain ⟨u0, u1, hp, hg, hsub⟩ := HS1.out
      have HP := hid_in hp
      have HG := hid_in hg
      have HU := hid_in hsub
      have c0 := hp.row.cell 2
      have c1 := hp.row.cell 3
      have f0 := hp.row.frozen 2
      have f1 := hp.row.frozen 3
      simp only [pcells, List.getElem?_cons_succ, List.getElem?_cons_zero] at c0 c1
      have S2 := hid_in (HP.out.wipe1)
      clear hp hg hsub HS1
      go_wp2
      go_ret
      exact ⟨rfl, Stp.trans HP.out HG.out HU.out S2.out⟩
  · rw [if_neg h0]
    have y0 : (begE 2 a d == 0) = false := by simpa using h0
    generalize begE 2 a d = r at *
    clear h h0
    go_enter Try.func49, Try.ntmps49
    go_wp2_with (first | (go_at_call 39; refine HB.out.mono ?_; rintro e w1 ⟨rfl, hs1⟩; have HS1 := hid_in hs1; clear hs1))
    go_ret
    exact ⟨rfl, HS1.out⟩
def oth (d : Dk) : Int := 1 - liv d.live
def fliD (d : Dk) : Dk := if begE 3 (oth d) d = 0 then { begD 3 (oth d) d with live := !d.live } else begD 3 (oth d) d
theorem liv_not (b : Bool) : liv (!b) = 1 - liv b := by cases b <;> rfl
theorem liv_range (b : Bool) : 0 ≤ liv b ∧ liv b ≤ 1 := by cases b <;> decide
theorem flip_any {w : World} {B g : Nat} {v0 v1 : Value} {d : Dk} (h : PtV w B g v0 v1 d) : Calls Try.prog 53 #[.pointer (some ⟨g, 0, none⟩)] w fun e w' => e = .returned (.int .i64 (begE 3 (oth d) d)) ∧ Stp w w' B g v0 v1 (fliD d) := by
  have HL := hid_in (live_any h)
  have HB := hid_in (begin_any h 3 (oth d))
  have hl := liv_range d.live
  have z1 : wrap64 (1 - liv d.live) = oth d := by unfold wrap64 oth; omega
  have z2 : IntKind.i64.wrap (1 - liv d.live) = oth d := by rw [IntKind.wrap_i64]; unfold oth; omega
  have hn : liv (!d.live) = oth d := liv_not d.live
  unfold fliD
  by_cases h0 : begE 3 (oth d) d = 0
  · rw [if_pos h0]
    rw [h0] at HB ⊢
    have HN := hid_in hn
    generalize begD 3 (oth d) d = d1 at *
    generalize oth d = o at *
    generalize liv d.live = l at *
    generalize (!d.live) = nl at *
    clear h h0 hl hn
    go_enter Try.func53, Try.ntmps53
    go_upto_region 4 with (first | (go_at_call 26; refine HL.out.mono ?_; rintro e w1 ⟨rfl, rfl⟩) | (go_at_call 39; refine HB.out.mono ?_; rintro e w2 ⟨rfl, hs1⟩; have HS1 := hid_in hs1; clear hs1))
    obtain ⟨u0, u1, hp, hg, hsub⟩ := HS1.out
    have HP := hid_in hp
    have HG := hid_in hg
    have HU := hid_in hsub
    have c4 := hp.row.cell 4
    have f4 := hp.row.frozen 4
    simp only [pcells, List.getElem?_cons_succ, List.getElem?_cons_zero] at c4
    have S2 := hid_in (HP.out.set (d' := { d1 with live := nl }) 4 (.int .i64 o) (by rw [← HN.out]; rfl) rfl rfl ⟨HP.out.ok.o0, HP.out.ok.o1, HP.out.ok.left⟩)
    generalize liv d1.live = l1 at *
    clear hp hg hsub HS1
    go_wp2
    go_ret
    exact ⟨rfl, Stp.trans HP.out HG.out HU.out S2.out⟩
  · rw [if_neg h0]
    have y0 : (begE 3 (oth d) d == 0) = false := by simpa using h0
    generalize begE 3 (oth d) d = r at *
    generalize begD 3 (oth d) d = d1 at *
    generalize oth d = o at *
    generalize liv d.live = l at *
    clear h h0 hl hn
    go_enter Try.func53, Try.ntmps53
    go_wp2_with (first | (go_at_call 26; refine HL.out.mono ?_; rintro e w1 ⟨rfl, rfl⟩) | (go_at_call 39; refine HB.out.mono ?_; rintro e w2 ⟨rfl, hs1⟩; have HS1 := hid_in hs1; clear hs1))
    go_ret
    exact ⟨rfl, HS1.out⟩
end Go.Proofs.Ytjjofjnhhajjjaa.Pt
