/-
  Append, Sync, Wipe, Flip. Append; Read.
-/
import Derived.Laws.Tables
import Derived.OwnWalk
import Derived.Lib.SlBytesConst
import Derived.Deep.RegionLaw
import Derived.Deep.CutRange
import Derived.Laws.StructEq
import Derived.Laws.CopyOwn
import Derived.Deep.DrawnRows
import Derived.Test.YtjjofjnhhajjjaaC00
import Derived.Test.YtjjofjnhhajjjaaC01
import Derived.Test.YtjjofjnhhajjjaaC02
import Derived.Test.YtjjofjnhhajjjaaC03
import Derived.Test.YtjjofjnhhajjjaaC04
import Derived.Test.YtjjofjnhhajjjaaC05
import Derived.Test.YtjjofjnhhajjjaaC06
import Derived.Test.YtjjofjnhhajjjaaC07
namespace Go.Proofs.Ytjjofjnhhajjjaa.Pt
open Go.RowKit
open Nd (Row wp_world post_Row grownBy_setCell below_of_grown grownBy_trans grown_of_below grownBy_refl u8v Grew Moved Sl hid_in i5h)
def setAr (a : Int) (x : Ar) (d : Dk) : Dk := if a = 0 then { d with a0 := x } else { d with a1 := x }
theorem isA_cases {a : Int} (h : isA a = true) : a = 0 ∨ a = 1 := by simpa [isA] using h
theorem refE_isA {k a : Int} {d : Dk} (h : refE k a d = 0) : isA a = true := by
  unfold refE at h
  split at h
  · cases h
  · rename_i h1
    simpa using h1
theorem setAr_ok {a : Int} {x : Ar} {d : Dk} (h : d.ok) (hx : x.ok) : (setAr a x d).ok := by
  unfold setAr
  split
  · exact ⟨hx, h.o1, h.left⟩
  · exact ⟨h.o0, hx, h.left⟩
theorem spendD_ar (a : Int) (d : Dk) : arOf a (spendD d) = arOf a d := by
  unfold spendD arOf
  split <;> split <;> rfl
theorem begD_ar (k a b : Int) (d : Dk) : arOf b (begD k a d) = arOf b d := by
  unfold begD
  split
  · exact spendD_ar b d
  · rfl
theorem spendE_ar (a : Int) (x : Ar) (d : Dk) : spendE (setAr a x d) = spendE d := by
  unfold setAr spendE
  split <;> rfl
theorem begE_isA {k a : Int} {d : Dk} (h : begE k a d = 0) : isA a = true := by
  unfold begE at h
  split at h
  · rename_i h1
    exact refE_isA h1
  · exact refE_isA h
def synD (a : Int) (d : Dk) : Dk := if begE 1 a d = 0 then setAr a ⟨(arOf a d).bs, (arOf a d).bs.length⟩ (begD 1 a d) else begD 1 a d
theorem sync_any {w : World} {B g : Nat} {v0 v1 : Value} {d : Dk} (h : PtV w B g v0 v1 d) (a : Int) : Calls Try.prog 20 #[.pointer (some ⟨g, 0, none⟩), .int .i64 a] w fun e w' => e = .returned (.int .i64 (begE 1 a d)) ∧ Stp w w' B g v0 v1 (synD a d) := by
  have HB := hid_in (begin_any h 1 a)
  unfold synD
  by_cases h0 : begE 1 a d = 0
  · rw [if_pos h0]
    have HA := begE_isA h0
    rw [h0] at HB ⊢
    have hA0 := begD_ar 1 a 0 d
    have hA1 := begD_ar 1 a 1 d
    generalize begD 1 a d = d1 at *
    rcases isA_cases HA with rfl | rfl
    · have e : arOf 0 d = d1.a0 := hA0.symm
      rw [e]
      clear h h0 HA hA0 hA1 e
      go_enter Try.func20, Try.ntmps20
      go_upto_region 3 with (first | (go_at_call 39; refine HB.out.mono ?_; rintro e w1 ⟨rfl, hs1⟩; have HS1 := hid_in hs1; clear hs1))
      obtain ⟨u0, u1, hp, hg, hsub⟩ := HS1.out
      have HP := hid_in hp
      have HG := hid_in hg
      have HU := hid_in hsub
      have c0 := hp.row.cell 0
      have c1 := hp.row.cell 1
      have f1 := hp.row.frozen 1
      simp only [pcells, List.getElem?_cons_succ, List.getElem?_cons_zero] at c0 c1
      obtain ⟨p0, q0, hv0, -, -⟩ := own_some hp.w0
      subst hv0
      obtain ⟨l0, HL0⟩ : ∃ l, Hid (d1.a0.bs.length = l) := ⟨_, hid_in rfl⟩
      rw [HL0.out] at c0
      have S2 := hid_in (HP.out.set (d' := setAr 0 ⟨d1.a0.bs, d1.a0.bs.length⟩ d1) 1 (.int .i64 (l0 : Int)) (by rw [← HL0.out]; rfl) rfl rfl (setAr_ok HP.out.ok ⟨Nat.le_refl _, HP.out.ok.o0.2⟩))
      generalize (d1.a0.sy : Int) = s0 at *
      clear hp hg hsub HS1
      go_region
      go_wp2
      go_ret
      exact ⟨rfl, Stp.trans HP.out HG.out HU.out (S2.out.behind (Below.refl _ _).drew)⟩
    · have e : arOf 1 d = d1.a1 := hA1.symm
      rw [e]
      clear h h0 HA hA0 hA1 e
      go_enter Try.func20, Try.ntmps20
      go_upto_region 3 with (first | (go_at_call 39; refine HB.out.mono ?_; rintro e w1 ⟨rfl, hs1⟩; have HS1 := hid_in hs1; clear hs1))
      obtain ⟨u0, u1, hp, hg, hsub⟩ := HS1.out
      have HP := hid_in hp
      have HG := hid_in hg
      have HU := hid_in hsub
      have c0 := hp.row.cell 2
      have c1 := hp.row.cell 3
      have f1 := hp.row.frozen 3
      simp only [pcells, List.getElem?_cons_succ, List.getElem?_cons_zero] at c0 c1
      obtain ⟨p0, q0, hv0, -, -⟩ := own_some hp.w1
      subst hv0
      obtain ⟨l0, HL0⟩ : ∃ l, Hid (d1.a1.bs.length = l) := ⟨_, hid_in rfl⟩
      rw [HL0.out] at c0
      have S2 := hid_in (HP.out.set (d' := setAr 1 ⟨d1.a1.bs, d1.a1.bs.length⟩ d1) 3 (.int .i64 (l0 : Int)) (by rw [← HL0.out]; rfl) rfl rfl (setAr_ok HP.out.ok ⟨Nat.le_refl _, HP.out.ok.o1.2⟩))
      generalize (d1.a1.sy : Int) = s0 at *
      clear hp hg hsub HS1
      go_region
      go_wp2
      go_ret
      exact ⟨rfl, Stp.trans HP.out HG.out HU.out (S2.out.behind (Below.refl _ _).drew)⟩
  · rw [if_neg h0]
    have y0 : (begE 1 a d == 0) = false := by simpa using h0
    generalize begE 1 a d = r at *
    clear h h0
    go_enter Try.func20, Try.ntmps20
    go_wp2_with (first | (go_at_call 39; refine HB.out.mono ?_; rintro e w1 ⟨rfl, hs1⟩; have HS1 := hid_in hs1; clear hs1))
    go_ret
    exact ⟨rfl, HS1.out⟩
theorem PtV.wipe0 {w : World} {B g : Nat} {v0 v1 : Value} {d : Dk} (h : PtV w B g v0 v1 d) : Stp w ((w.setCell ⟨g, 0, none⟩ (.slice none 0 0)).setCell ⟨g, 1, none⟩ (.int .i64 0)) B g v0 v1 (setAr 0 ⟨[], 0⟩ d) := by
  have hg := grownBy_trans (grownBy_setCell w ⟨g, 0, none⟩ (.slice none 0 0)) (grownBy_setCell (w.setCell ⟨g, 0, none⟩ (.slice none 0 0)) ⟨g, 1, none⟩ (.int .i64 0))
  refine ⟨.slice none 0 0, v1, ⟨(h.row.set_same 0 _).set_same 1 _, World.ownsRow_nil _ _ _ _, h.w1.kept hg (.inr h.n1), (fun e => by cases e), h.n1, (fun q e => by cases e), h.base, setAr_ok h.ok ⟨Nat.le_refl _, (fun b hb => by cases hb), by simp⟩⟩, (Grew.of_grown hg).mono (fun q hq => .inl (Option.some.inj hq)), fun k hk => ?_⟩
  rcases hk with h1 | h1 | h1
  · exact .inl (.inl h1)
  · cases h1
  · exact .inl (.inr (.inr h1))
theorem PtV.wipe1 {w : World} {B g : Nat} {v0 v1 : Value} {d : Dk} (h : PtV w B g v0 v1 d) : Stp w ((w.setCell ⟨g, 2, none⟩ (.slice none 0 0)).setCell ⟨g, 3, none⟩ (.int .i64 0)) B g v0 v1 (setAr 1 ⟨[], 0⟩ d) := by
  have hg := grownBy_trans (grownBy_setCell w ⟨g, 2, none⟩ (.slice none 0 0)) (grownBy_setCell (w.setCell ⟨g, 2, none⟩ (.slice none 0 0)) ⟨g, 3, none⟩ (.int .i64 0))
  refine ⟨v0, .slice none 0 0, ⟨(h.row.set_same 2 _).set_same 3 _, h.w0.kept hg (.inr h.n0), World.ownsRow_nil _ _ _ _, h.n0, (fun e => by cases e), (fun q _ e => by cases e), h.base, setAr_ok h.ok ⟨Nat.le_refl _, (fun b hb => by cases hb), by simp⟩⟩, (Grew.of_grown hg).mono (fun q hq => .inl (Option.some.inj hq)), fun k hk => ?_⟩
  rcases hk with h1 | h1 | h1
  · exact .inl (.inl h1)
  · exact .inl (.inr (.inl h1))
  · cases h1
def wipD (a : Int) (d : Dk) : Dk := if begE 2 a d = 0 then setAr a ⟨[], 0⟩ (begD 2 a d) else begD 2 a d
theorem wipe_any {w : World} {B g : Nat} {v0 v1 : Value} {d : Dk} (h : PtV w B g v0 v1 d) (a : Int) : Calls Try.prog 49 #[.pointer (some ⟨g, 0, none⟩), .int .i64 a] w fun e w' => e = .returned (.int .i64 (begE 2 a d)) ∧ Stp w w' B g v0 v1 (wipD a d) := by
  have HB := hid_in (begin_any h 2 a)
  unfold wipD
  by_cases h0 : begE 2 a d = 0
  · rw [if_pos h0]
    have HA := begE_isA h0
    rw [h0] at HB ⊢
    have hA0 := begD_ar 2 a 0 d
    have hA1 := begD_ar 2 a 1 d
    generalize begD 2 a d = d1 at *
    rcases isA_cases HA with rfl | rfl
    · clear h h0 HA hA0 hA1
      go_enter Try.func49, Try.ntmps49
      go_upto_region 3 with (first | (go_at_call 39; refine HB.out.mono ?_; rintro e w1 ⟨rfl, hs1⟩; have HS1 := hid_in hs1; clear hs1))
      obtain ⟨u0, u1, hp, hg, hsub⟩ := HS1.out
      have HP := hid_in hp
      have HG := hid_in hg
      have HU := hid_in hsub
      have c0 := hp.row.cell 0
      have c1 := hp.row.cell 1
      have f0 := hp.row.frozen 0
      have f1 := hp.row.frozen 1
      simp only [pcells, List.getElem?_cons_succ, List.getElem?_cons_zero] at c0 c1
      have S2 := hid_in (HP.out.wipe0)
      clear hp hg hsub HS1
      go_wp2
      go_ret
      exact ⟨rfl, Stp.trans HP.out HG.out HU.out S2.out⟩
    · clear h h0 HA hA0 hA1
      go_enter Try.func49, Try.ntmps49
      go_upto_region 3 with (first | (go_at_call 39; refine HB.out.mono ?_; rintro e w1 ⟨rfl, hs1⟩; have HS1 := hid_in hs1; clear hs1))
      obtain ⟨u0, u1, hp, hg, hsub⟩ := HS1.out
      have HP := hid_in hp
      have HG := hid_in hg
      have HU := hid_in hsub
      have c0 := hp.row.cell 2
      have c1 := hp.row.cell 3
      have f0 := hp.row.frozen 2
      have f1 := hp.row.frozen 3
      simp only [pcells, List.getElem?_cons_succ, List.getElem?_cons_zero] at c0 c1
      have S2 := hid_in (HP.out.wipe1)
      clear hp hg hsub HS1
      go_wp2
      go_ret
      exact ⟨rfl, Stp.trans HP.out HG.out HU.out S2.out⟩
  · rw [if_neg h0]
    have y0 : (begE 2 a d == 0) = false := by simpa using h0
    generalize begE 2 a d = r at *
    clear h h0
    go_enter Try.func49, Try.ntmps49
    go_wp2_with (first | (go_at_call 39; refine HB.out.mono ?_; rintro e w1 ⟨rfl, hs1⟩; have HS1 := hid_in hs1; clear hs1))
    go_ret
    exact ⟨rfl, HS1.out⟩
def oth (d : Dk) : Int := 1 - liv d.live
def fliD (d : Dk) : Dk := if begE 3 (oth d) d = 0 then { begD 3 (oth d) d with live := !d.live } else begD 3 (oth d) d
theorem liv_not (b : Bool) : liv (!b) = 1 - liv b := by cases b <;> rfl
theorem liv_range (b : Bool) : 0 ≤ liv b ∧ liv b ≤ 1 := by cases b <;> decide
theorem flip_any {w : World} {B g : Nat} {v0 v1 : Value} {d : Dk} (h : PtV w B g v0 v1 d) : Calls Try.prog 53 #[.pointer (some ⟨g, 0, none⟩)] w fun e w' => e = .returned (.int .i64 (begE 3 (oth d) d)) ∧ Stp w w' B g v0 v1 (fliD d) := by
  have HL := hid_in (live_any h)
  have HB := hid_in (begin_any h 3 (oth d))
  have hl := liv_range d.live
  have z1 : wrap64 (1 - liv d.live) = oth d := by unfold wrap64 oth; omega
  have z2 : IntKind.i64.wrap (1 - liv d.live) = oth d := by rw [IntKind.wrap_i64]; unfold oth; omega
  have hn : liv (!d.live) = oth d := liv_not d.live
  unfold fliD
  by_cases h0 : begE 3 (oth d) d = 0
  · rw [if_pos h0]
    rw [h0] at HB ⊢
    have HN := hid_in hn
    generalize begD 3 (oth d) d = d1 at *
    generalize oth d = o at *
    generalize liv d.live = l at *
    generalize (!d.live) = nl at *
    clear h h0 hl hn
    go_enter Try.func53, Try.ntmps53
    go_upto_region 4 with (first | (go_at_call 26; refine HL.out.mono ?_; rintro e w1 ⟨rfl, rfl⟩) | (go_at_call 39; refine HB.out.mono ?_; rintro e w2 ⟨rfl, hs1⟩; have HS1 := hid_in hs1; clear hs1))
    obtain ⟨u0, u1, hp, hg, hsub⟩ := HS1.out
    have HP := hid_in hp
    have HG := hid_in hg
    have HU := hid_in hsub
    have c4 := hp.row.cell 4
    have f4 := hp.row.frozen 4
    simp only [pcells, List.getElem?_cons_succ, List.getElem?_cons_zero] at c4
    have S2 := hid_in (HP.out.set (d' := { d1 with live := nl }) 4 (.int .i64 o) (by rw [← HN.out]; rfl) rfl rfl ⟨HP.out.ok.o0, HP.out.ok.o1, HP.out.ok.left⟩)
    generalize liv d1.live = l1 at *
    clear hp hg hsub HS1
    go_wp2
    go_ret
    exact ⟨rfl, Stp.trans HP.out HG.out HU.out S2.out⟩
  · rw [if_neg h0]
    have y0 : (begE 3 (oth d) d == 0) = false := by simpa using h0
    generalize begE 3 (oth d) d = r at *
    generalize begD 3 (oth d) d = d1 at *
    generalize oth d = o at *
    generalize liv d.live = l at *
    clear h h0 hl hn
    go_enter Try.func53, Try.ntmps53
    go_wp2_with (first | (go_at_call 26; refine HL.out.mono ?_; rintro e w1 ⟨rfl, rfl⟩) | (go_at_call 39; refine HB.out.mono ?_; rintro e w2 ⟨rfl, hs1⟩; have HS1 := hid_in hs1; clear hs1))
    go_ret
    exact ⟨rfl, HS1.out⟩
end Go.Proofs.Ytjjofjnhhajjjaa.Pt
namespace Go.Proofs.Ytjjofjnhhajjjaa.Pt
open Go.RowKit
open Nd (Row wp_world post_Row grownBy_setCell below_of_grown grownBy_trans grown_of_below grownBy_refl u8v Grew Moved Sl hid_in i5h)
theorem step_app34 {ops : Array Oper} {o : Oper} {a : Act} {K : Act → World → Prop} {Q : Exit → Act → World → Prop} {E : Prop} (w : World) (hgd : o.guard = none) (s x : Operand)
    (ho : o.op = .call { callee := .builtin .append, args := #[s, x], argTypes := #[54, 54] })
    (B : Nat) (v : Value) (n : Nat) (xs : List Value) (hs : a.eval s = v) (hown : w.ownsRow B 5 1 v n xs)
    (p : Option Addr) (m c : Nat) (news : List Value) (hx : a.eval x = .slice p m c) (hl : news.length = m) (hno : p = none → m = 0 ∧ c = 0) (hnews : ∀ ad, p = some ad → ∀ j u, news[j]? = some u → w.cell? (ad.add j) = some u) (h1 : ∀ u ∈ news, u.oneCell' = true)
    (hbytes : n + m ≤ 140737488355328) (hbase : B ≤ w.heap.size)
    (h : ∀ v' w', w'.ownsRow B 5 1 v' (n + m) (xs ++ news) → w.grownBy w' v.ownBlock → Moved w v v' → K (a.put o.dst v') w') :
    if Region.wanted o (yielded ops a.tmps) = true then Oper.wp Try.prog o a w K Q else E := by
  have hw : Region.wanted o (yielded ops a.tmps) = true := by simp [Region.wanted, hgd]
  rw [if_pos hw]
  exact wp_app34 w s x ho B v n xs hs hown p m c news hx hl hno hnews h1 hbytes hbase h
theorem PtV.app0 {w w1 : World} {B g : Nat} {v0 v1 v' : Value} {d : Dk} {xs : List Nat} (h : PtV w B g v0 v1 d) (hlt : ∀ x ∈ xs, x < 256) (hl : d.a0.bs.length + xs.length ≤ 140737488355328)
    (hown : w1.ownsRow B 5 1 v' (d.a0.bs.length + xs.length) (d.a0.bs.map u8v ++ xs.map u8v)) (hg1 : w.grownBy w1 v0.ownBlock) (hm : Moved w v0 v') : Stp w (w1.setCell ⟨g, 0, none⟩ v') B g v0 v1 (setAr 0 ⟨d.a0.bs ++ xs, d.a0.sy⟩ d) := by
  have hg := Grew.of_grown hg1
  have hs := grownBy_setCell w1 ⟨g, 0, none⟩ v'
  have hne : v'.ownBlock ≠ some g := by
    rcases hm with hm | ⟨q, hq, hqs⟩
    · rw [hm]; exact h.n0
    · rw [hq]; intro e; cases e; have := h.lt; omega
  have hap : ∀ q, v'.ownBlock = some q → v1.ownBlock ≠ some q := by
    intro q hq hq1
    rcases hm with hm | ⟨x, hx, hxs⟩
    · rw [hm] at hq; exact h.ap q hq hq1
    · rw [hx] at hq; cases hq; have := (h.w1.lt _ hq1).2; omega
  refine ⟨v', v1, ⟨(h.row.grew hg (fun e => h.n0 e.symm)).set_same 0 v', ?_, ?_, hne, h.n1, hap, h.base, setAr_ok h.ok ⟨?_, ?_, ?_⟩⟩, ?_, ?_⟩
  · show _ = _ ∧ _
    have e := hown.kept hs (.inr hne)
    rw [← List.map_append, ← List.length_append] at e
    exact e
  · exact (own_keepG h.w1 hg (fun q hq e => h.ap q e.symm hq)).kept hs (.inr h.n1)
  · have := h.ok.o0.1
    simp
    omega
  · intro b hb
    rcases List.mem_append.1 hb with hb | hb
    · exact h.ok.o0.2.1 b hb
    · exact hlt b hb
  · simpa using hl
  · refine (hg.mono (fun q hq => .inr (.inl hq))).trans (Grew.of_grown hs) (fun q _ hq => .inl (Option.some.inj hq))
  · rintro k (h1 | h1 | h1)
    · exact .inl (.inl h1)
    · rcases hm with hm | ⟨q, hq, hqs⟩
      · exact .inl (.inr (.inl (h1.trans hm)))
      · rw [hq] at h1; cases h1; exact .inr hqs
    · exact .inl (.inr (.inr h1))
theorem PtV.app1 {w w1 : World} {B g : Nat} {v0 v1 v' : Value} {d : Dk} {xs : List Nat} (h : PtV w B g v0 v1 d) (hlt : ∀ x ∈ xs, x < 256) (hl : d.a1.bs.length + xs.length ≤ 140737488355328)
    (hown : w1.ownsRow B 5 1 v' (d.a1.bs.length + xs.length) (d.a1.bs.map u8v ++ xs.map u8v)) (hg1 : w.grownBy w1 v1.ownBlock) (hm : Moved w v1 v') : Stp w (w1.setCell ⟨g, 2, none⟩ v') B g v0 v1 (setAr 1 ⟨d.a1.bs ++ xs, d.a1.sy⟩ d) := by
  have hg := Grew.of_grown hg1
  have hs := grownBy_setCell w1 ⟨g, 2, none⟩ v'
  have hne : v'.ownBlock ≠ some g := by
    rcases hm with hm | ⟨q, hq, hqs⟩
    · rw [hm]; exact h.n1
    · rw [hq]; intro e; cases e; have := h.lt; omega
  have hap : ∀ q, v'.ownBlock = some q → v0.ownBlock ≠ some q := by
    intro q hq hq1
    rcases hm with hm | ⟨x, hx, hxs⟩
    · rw [hm] at hq; exact h.ap q hq1 hq
    · rw [hx] at hq; cases hq; have := (h.w0.lt _ hq1).2; omega
  refine ⟨v0, v', ⟨(h.row.grew hg (fun e => h.n1 e.symm)).set_same 2 v', ?_, ?_, h.n0, hne, (fun q hq hq1 => hap q hq1 hq), h.base, setAr_ok h.ok ⟨?_, ?_, ?_⟩⟩, ?_, ?_⟩
  · exact (own_keepG h.w0 hg (fun q hq e => h.ap q hq e.symm)).kept hs (.inr h.n0)
  · show _ = _ ∧ _
    have e := hown.kept hs (.inr hne)
    rw [← List.map_append, ← List.length_append] at e
    exact e
  · have := h.ok.o1.1
    simp
    omega
  · intro b hb
    rcases List.mem_append.1 hb with hb | hb
    · exact h.ok.o1.2.1 b hb
    · exact hlt b hb
  · simpa using hl
  · refine (hg.mono (fun q hq => .inr (.inr hq))).trans (Grew.of_grown hs) (fun q _ hq => .inl (Option.some.inj hq))
  · rintro k (h1 | h1 | h1)
    · exact .inl (.inl h1)
    · exact .inl (.inr (.inl h1))
    · rcases hm with hm | ⟨q, hq, hqs⟩
      · exact .inl (.inr (.inr (h1.trans hm)))
      · rw [hq] at h1; cases h1; exact .inr hqs
def appE (a : Int) (d : Dk) : Int := if refE 0 a d = 0 then spendE d else refE 0 a d
def appD (a : Int) (xs : List Nat) (d : Dk) : Dk := if refE 0 a d = 0 then spendD (setAr a ⟨(arOf a d).bs ++ xs, (arOf a d).sy⟩ d) else d
set_option maxHeartbeats 1000000 in
set_option maxRecDepth 100000 in
theorem append_any {w : World} {B g : Nat} {v0 v1 : Value} {d : Dk} (h : PtV w B g v0 v1 d) (a : Int) (p : Option Addr) (xs : List Nat) (cap b off : Nat) (hsl : Sl w p xs cap b off) (hno : p = none → xs.length = 0 ∧ cap = 0) (hl : (arOf a d).bs.length + xs.length ≤ 140737488355328) :
    Calls Try.prog 51 #[.pointer (some ⟨g, 0, none⟩), .int .i64 a, .slice p xs.length cap] w fun e w' => e = .returned (.int .i64 (appE a d)) ∧ Stp w w' B g v0 v1 (appD a xs d) := by
  have HR := hid_in (refusal_any h 0 a)
  have HH := hid_in h
  have HSL := hid_in hsl
  clear hsl
  unfold appE appD
  by_cases h0 : refE 0 a d = 0
  · rw [if_pos h0, if_pos h0]
    have HA := refE_isA h0
    rw [h0] at HR
    rcases isA_cases HA with rfl | rfl
    · have e : arOf 0 d = d.a0 := rfl
      rw [e] at hl ⊢
      have es : ∀ x, spendE (setAr 0 x d) = spendE d := fun x => spendE_ar 0 x d
      rw [← es ⟨d.a0.bs ++ xs, d.a0.sy⟩]
      have HL := hid_in hl
      have hlt := HSL.out.lt
      have HLT := hid_in hlt
      obtain ⟨m, HM⟩ : ∃ m, Hid (xs.length = m) := ⟨_, hid_in rfl⟩
      have hlm : (xs.map u8v).length = m := by rw [List.length_map]; exact HM.out
      rw [HM.out] at hno
      obtain ⟨n, HN⟩ : ∃ n, Hid (d.a0.bs.length = n) := ⟨_, hid_in rfl⟩
      have hnm : n + m ≤ 140737488355328 := by rw [← HN.out, ← HM.out]; exact hl
      clear h h0 HA e es hlt hl
      rw [HM.out]
      go_enter Try.func51, Try.ntmps51
      go_upto_region 4 with (first | (go_at_call 57; refine HR.out.mono ?_; rintro e w1 ⟨rfl, hb1⟩; have HB1 := hid_in hb1; clear hb1))
      have HP := hid_in (HH.out.below HB1.out)
      have HPD := hid_in (HP.out.below (Below.refl _ w1).drew)
      have hown := HPD.out.w0
      rw [HN.out] at hown
      have hnews := (HSL.out.below (HB1.out.trans ((Below.refl _ w1).drew))).news
      have hbase : B ≤ w1.drew.heap.size := Nat.le_trans HPD.out.base (Nat.le_of_lt HPD.out.lt)
      have c0 := HP.out.row.cell 0
      have f0 := HP.out.row.frozen 0
      simp only [pcells, List.getElem?_cons_zero] at c0
      have HV := hid_in (own_some HP.out.w0)
      rw [HN.out] at HV
      obtain ⟨pv, cv, hv, -, -⟩ := HV.out
      have HVV := hid_in hv
      rw [hv] at c0 hown
      clear hv HV
      have hone := Nd.one_u8 xs
      go_region_law ((refine step_app34 _ (by rfl) _ _ (by rfl) B _ _ _ (by rfl) hown p m cap (xs.map u8v) (by rfl) hlm hno hnews hone hnm hbase ?_; intro v2 w2 hown2 hg2 hm2; obtain ⟨p2, c2, rfl, -, -⟩ := own_some hown2; rw [← HVV.out] at hg2 hm2; have HG2 := hid_in hg2; have HM2 := hid_in hm2; have hr2 := HPD.out.row.grew (Grew.of_grown hg2) (fun e => HPD.out.n0 e.symm); have k0 := hr2.cell 0; have k1 := hr2.frozen 0; simp only [pcells, List.getElem?_cons_zero] at k0; rw [HVV.out] at k0; have HW2 := hid_in hown2; clear hown2 hg2 hm2 hr2))
      have HS := hid_in (HPD.out.app0 (v' := .slice p2 (n + m) c2) (xs := xs) HLT.out (by rw [HN.out, HM.out]; exact hnm) (by rw [HN.out, HM.out]; rw [show d.a0.bs.map u8v = d.a0.bs.map u8v from rfl]; exact HW2.out) HG2.out HM2.out)
      obtain ⟨u0, u1, hp, hgg, hsub⟩ := HS.out
      have HP3 := hid_in hp
      have HG3 := hid_in hgg
      have HU3 := hid_in hsub
      clear hp hgg hsub k0 k1 c0 f0 hown hnews hone hlm hno
      go_wp2_with (first | (go_at_call 58; refine (spend_any HP3.out).mono ?_; rintro e w4 ⟨rfl, hs4⟩; have HS4 := hid_in hs4; clear hs4))
      go_ret
      exact ⟨rfl, Stp.ahead HB1.out (Stp.ahead (Below.refl _ w1).drew (Stp.trans HP3.out HG3.out HU3.out HS4.out))⟩
    · have e : arOf 1 d = d.a1 := rfl
      rw [e] at hl ⊢
      have es : ∀ x, spendE (setAr 1 x d) = spendE d := fun x => spendE_ar 1 x d
      rw [← es ⟨d.a1.bs ++ xs, d.a1.sy⟩]
      have HL := hid_in hl
      have hlt := HSL.out.lt
      have HLT := hid_in hlt
      obtain ⟨m, HM⟩ : ∃ m, Hid (xs.length = m) := ⟨_, hid_in rfl⟩
      have hlm : (xs.map u8v).length = m := by rw [List.length_map]; exact HM.out
      rw [HM.out] at hno
      obtain ⟨n, HN⟩ : ∃ n, Hid (d.a1.bs.length = n) := ⟨_, hid_in rfl⟩
      have hnm : n + m ≤ 140737488355328 := by rw [← HN.out, ← HM.out]; exact hl
      clear h h0 HA e es hlt hl
      rw [HM.out]
      go_enter Try.func51, Try.ntmps51
      go_upto_region 4 with (first | (go_at_call 57; refine HR.out.mono ?_; rintro e w1 ⟨rfl, hb1⟩; have HB1 := hid_in hb1; clear hb1))
      have HP := hid_in (HH.out.below HB1.out)
      have HPD := hid_in (HP.out.below (Below.refl _ w1).drew)
      have hown := HPD.out.w1
      rw [HN.out] at hown
      have hnews := (HSL.out.below (HB1.out.trans ((Below.refl _ w1).drew))).news
      have hbase : B ≤ w1.drew.heap.size := Nat.le_trans HPD.out.base (Nat.le_of_lt HPD.out.lt)
      have c0 := HP.out.row.cell 2
      have f0 := HP.out.row.frozen 2
      simp only [pcells, List.getElem?_cons_succ, List.getElem?_cons_zero] at c0
      have HV := hid_in (own_some HP.out.w1)
      rw [HN.out] at HV
      obtain ⟨pv, cv, hv, -, -⟩ := HV.out
      have HVV := hid_in hv
      rw [hv] at c0 hown
      clear hv HV
      have hone := Nd.one_u8 xs
      go_region_law ((refine step_app34 _ (by rfl) _ _ (by rfl) B _ _ _ (by rfl) hown p m cap (xs.map u8v) (by rfl) hlm hno hnews hone hnm hbase ?_; intro v2 w2 hown2 hg2 hm2; obtain ⟨p2, c2, rfl, -, -⟩ := own_some hown2; rw [← HVV.out] at hg2 hm2; have HG2 := hid_in hg2; have HM2 := hid_in hm2; have hr2 := HPD.out.row.grew (Grew.of_grown hg2) (fun e => HPD.out.n1 e.symm); have k0 := hr2.cell 2; have k1 := hr2.frozen 2; simp only [pcells, List.getElem?_cons_succ, List.getElem?_cons_zero] at k0; rw [HVV.out] at k0; have HW2 := hid_in hown2; clear hown2 hg2 hm2 hr2))
      have HS := hid_in (HPD.out.app1 (v' := .slice p2 (n + m) c2) (xs := xs) HLT.out (by rw [HN.out, HM.out]; exact hnm) (by rw [HN.out, HM.out]; rw [show d.a1.bs.map u8v = d.a1.bs.map u8v from rfl]; exact HW2.out) HG2.out HM2.out)
      obtain ⟨u0, u1, hp, hgg, hsub⟩ := HS.out
      have HP3 := hid_in hp
      have HG3 := hid_in hgg
      have HU3 := hid_in hsub
      clear hp hgg hsub k0 k1 c0 f0 hown hnews hone hlm hno
      go_wp2_with (first | (go_at_call 58; refine (spend_any HP3.out).mono ?_; rintro e w4 ⟨rfl, hs4⟩; have HS4 := hid_in hs4; clear hs4))
      go_ret
      exact ⟨rfl, Stp.ahead HB1.out (Stp.ahead (Below.refl _ w1).drew (Stp.trans HP3.out HG3.out HU3.out HS4.out))⟩
  · rw [if_neg h0, if_neg h0]
    have y0 : (refE 0 a d != 0) = true := by simpa using h0
    generalize refE 0 a d = r at *
    clear h h0 hl hno HSL
    go_enter Try.func51, Try.ntmps51
    go_wp2_with (first | (go_at_call 57; refine HR.out.mono ?_; rintro e w1 ⟨rfl, hb1⟩; have HB1 := hid_in hb1; clear hb1))
    go_ret
    exact ⟨rfl, Stp.of_below HH.out HB1.out⟩
theorem append_nil (a : Int) (v : Value) (w : World) : Calls Try.prog 51 #[.pointer none, .int .i64 a, v] w fun e w' => e = .returned (.int .i64 7) ∧ w' = w := by
  have HB := hid_in (refusal_nil 0 a w)
  go_enter Try.func51, Try.ntmps51
  go_wp2_with (first | (go_at_call 57; refine HB.out.mono ?_; rintro e w1 ⟨rfl, rfl⟩))
  go_ret
  exact ⟨rfl, rfl⟩
end Go.Proofs.Ytjjofjnhhajjjaa.Pt
