/-
  Read; the cut of an area.
-/
import Derived.Laws.Tables
import Derived.OwnWalk
import Derived.Lib.SlBytesConst
import Derived.Deep.RegionLaw
import Derived.Deep.CutRange
import Derived.Laws.StructEq
import Derived.Laws.CopyOwn
import Derived.Deep.DrawnRows
import Derived.Test.YtjjofjnhhajjjaaC00
import Derived.Test.YtjjofjnhhajjjaaC01
import Derived.Test.YtjjofjnhhajjjaaC02
import Derived.Test.YtjjofjnhhajjjaaC03
import Derived.Test.YtjjofjnhhajjjaaC04
import Derived.Test.YtjjofjnhhajjjaaC05
import Derived.Test.YtjjofjnhhajjjaaC06
import Derived.Test.YtjjofjnhhajjjaaC07
import Derived.Test.YtjjofjnhhajjjaaC08
namespace Go.Proofs.Ytjjofjnhhajjjaa.Pt
open Go.RowKit
open Nd (Row wp_world post_Row grownBy_setCell below_of_grown grownBy_trans grown_of_below grownBy_refl u8v Grew Moved Sl hid_in i5h)
def bytesOf (a : Int) (d : Dk) : List Nat := if isA a then (arOf a d).bs else []
theorem read_any {w : World} {B g : Nat} {v0 v1 : Value} {d : Dk} (h : PtV w B g v0 v1 d) (a : Int) : Calls Try.prog 24 #[.pointer (some ⟨g, 0, none⟩), .int .i64 a] w fun e w' => ∃ v, e = .returned v ∧ w'.ownsRow w.heap.size 5 1 v (bytesOf a d).length ((bytesOf a d).map u8v) ∧ Below w.heap.size w w' := by
  have HA := hid_in (isArea_any a w)
  unfold bytesOf
  by_cases ha : isA a = true
  · rw [if_pos ha]
    rw [ha] at HA
    rcases isA_cases ha with rfl | rfl
    · have e : arOf 0 d = d.a0 := rfl
      rw [e]
      have c0 := h.row.cell 0
      simp only [pcells, List.getElem?_cons_zero] at c0
      obtain ⟨p, cap, b, rfl, hsl, hno⟩ := Nd.own_sl h.ok.o0.2.1 h.w0
      have HC := hid_in (Nd.clone_any d.a0.bs p cap b 0 w hsl hno h.ok.o0.2.2)
      generalize d.a0.bs.length = l at *
      clear h ha e hsl hno
      go_enter Try.func24, Try.ntmps24
      go_wp2_with (first | (go_at_call 41; refine HA.out.mono ?_; rintro e w1 ⟨rfl, rfl⟩) | (go_at_call 29; refine HC.out.mono ?_; rintro e w1 ⟨v1, rfl, ho, hb⟩; have HO := hid_in ho; have HB := hid_in hb; clear ho hb))
      go_ret
      exact ⟨_, rfl, HO.out, HB.out⟩
    · have e : arOf 1 d = d.a1 := rfl
      rw [e]
      have c0 := h.row.cell 2
      simp only [pcells, List.getElem?_cons_succ, List.getElem?_cons_zero] at c0
      obtain ⟨p, cap, b, rfl, hsl, hno⟩ := Nd.own_sl h.ok.o1.2.1 h.w1
      have HC := hid_in (Nd.clone_any d.a1.bs p cap b 0 w hsl hno h.ok.o1.2.2)
      generalize d.a1.bs.length = l at *
      clear h ha e hsl hno
      go_enter Try.func24, Try.ntmps24
      go_wp2_with (first | (go_at_call 41; refine HA.out.mono ?_; rintro e w1 ⟨rfl, rfl⟩) | (go_at_call 29; refine HC.out.mono ?_; rintro e w1 ⟨v1, rfl, ho, hb⟩; have HO := hid_in ho; have HB := hid_in hb; clear ho hb))
      go_ret
      exact ⟨_, rfl, HO.out, HB.out⟩
  · rw [if_neg ha]
    have ha' : isA a = false := by simpa using ha
    rw [ha'] at HA
    clear h ha ha'
    go_enter Try.func24, Try.ntmps24
    go_wp2_with (first | (go_at_call 41; refine HA.out.mono ?_; rintro e w1 ⟨rfl, rfl⟩))
    go_ret
    exact ⟨_, rfl, World.ownsRow_nil _ _ _ _, Below.refl _ _⟩
theorem slice_own (p : Option Addr) (L C t : Nat) (ht : t ≤ C) (w : World) : (Instr.slice 54 (.slice p L C) none (some (.int .i64 (t : Int))) none).run Try.prog w = .ok (.slice p t C) w := by
  have hu : Try.prog.underlying 54 = some (.slice (Try.prog.elem 54)) := by kernel_rfl
  have he : Try.prog.elem 54 = 5 := by kernel_rfl
  have hsz : (sizeOf 5).run Try.prog w = .ok 1 w := by kernel_rfl
  rw [run_slice_h w 54 p L C hu .i64 (t : Int) (by omega) (by omega), he, hsz]
  rcases p with _ | ⟨b, o, s⟩ <;> simp [sliced, Addr.add]
/-- how many bytes are left of an area -/
def cutN (k : Int) (x : Ar) : Nat := x.sy + min k.toNat (x.bs.length - x.sy)
def cutAr (k : Int) (x : Ar) : Ar := ⟨x.bs.take (cutN k x), cutN k x⟩
theorem cutN_le {k : Int} {x : Ar} (h : x.ok) : cutN k x ≤ x.bs.length := by
  have := h.1
  unfold cutN
  omega
theorem PtV.trim0 {w : World} {B g n c : Nat} {p : Option Addr} {v1 : Value} {d : Dk} (h : PtV w B g (.slice p n c) v1 d) (hn : n = d.a0.bs.length) (ht : d.a0.sy ≤ n) : Stp w (w.setCell ⟨g, 0, none⟩ (.slice p d.a0.sy c)) B g (.slice p n c) v1 (setAr 0 ⟨d.a0.bs.take d.a0.sy, d.a0.sy⟩ d) := by
  subst hn
  have hs := grownBy_setCell w ⟨g, 0, none⟩ (.slice p d.a0.sy c)
  have hb : Value.ownBlock (.slice p d.a0.sy c) = Value.ownBlock (.slice p d.a0.bs.length c) := by cases p <;> rfl
  have hne : Value.ownBlock (.slice p d.a0.sy c) ≠ some g := by rw [hb]; exact h.n0
  have hl : (d.a0.bs.take d.a0.sy).length = d.a0.sy := by rw [List.length_take]; omega
  have how : (w.setCell ⟨g, 0, none⟩ (.slice p d.a0.sy c)).ownsRow B 5 1 (.slice p d.a0.sy c) (d.a0.bs.take d.a0.sy).length ((d.a0.bs.take d.a0.sy).map u8v) := by
    rw [hl, List.map_take]
    exact (own_less h.w0 ht).kept hs (.inr hne)
  refine ⟨.slice p d.a0.sy c, v1, ⟨h.row.set_same 0 _, how, h.w1.kept hs (.inr h.n1), hne, h.n1, (fun q e => h.ap q (hb.symm.trans e)), h.base, setAr_ok h.ok ⟨by rw [hl]; exact Nat.le_refl _, (fun b hb => h.ok.o0.2.1 b (List.mem_of_mem_take hb)), by rw [hl]; have := h.ok.o0.2.2; show d.a0.sy ≤ _; omega⟩⟩, (Grew.of_grown hs).mono (fun q hq => .inl (Option.some.inj hq)), fun k hk => .inl ?_⟩
  rcases hk with h1 | h1 | h1
  · exact .inl h1
  · exact .inr (.inl (h1.trans hb))
  · exact .inr (.inr h1)
theorem PtV.trim1 {w : World} {B g n c : Nat} {p : Option Addr} {v0 : Value} {d : Dk} (h : PtV w B g v0 (.slice p n c) d) (hn : n = d.a1.bs.length) (ht : d.a1.sy ≤ n) : Stp w (w.setCell ⟨g, 2, none⟩ (.slice p d.a1.sy c)) B g v0 (.slice p n c) (setAr 1 ⟨d.a1.bs.take d.a1.sy, d.a1.sy⟩ d) := by
  subst hn
  have hs := grownBy_setCell w ⟨g, 2, none⟩ (.slice p d.a1.sy c)
  have hb : Value.ownBlock (.slice p d.a1.sy c) = Value.ownBlock (.slice p d.a1.bs.length c) := by cases p <;> rfl
  have hne : Value.ownBlock (.slice p d.a1.sy c) ≠ some g := by rw [hb]; exact h.n1
  have hl : (d.a1.bs.take d.a1.sy).length = d.a1.sy := by rw [List.length_take]; omega
  have how : (w.setCell ⟨g, 2, none⟩ (.slice p d.a1.sy c)).ownsRow B 5 1 (.slice p d.a1.sy c) (d.a1.bs.take d.a1.sy).length ((d.a1.bs.take d.a1.sy).map u8v) := by
    rw [hl, List.map_take]
    exact (own_less h.w1 ht).kept hs (.inr hne)
  refine ⟨v0, .slice p d.a1.sy c, ⟨h.row.set_same 2 _, h.w0.kept hs (.inr h.n0), how, h.n0, hne, (fun q e e2 => h.ap q e (hb.symm.trans e2)), h.base, setAr_ok h.ok ⟨by rw [hl]; exact Nat.le_refl _, (fun b hb => h.ok.o1.2.1 b (List.mem_of_mem_take hb)), by rw [hl]; have := h.ok.o1.2.2; show d.a1.sy ≤ _; omega⟩⟩, (Grew.of_grown hs).mono (fun q hq => .inl (Option.some.inj hq)), fun k hk => .inl ?_⟩
  rcases hk with h1 | h1 | h1
  · exact .inl h1
  · exact .inr (.inl h1)
  · exact .inr (.inr (h1.trans hb))
set_option maxHeartbeats 2000000 in
set_option maxRecDepth 100000 in
theorem tcut0 {w : World} {B g : Nat} {v0 v1 : Value} {d : Dk} (h : PtV w B g v0 v1 d) (k : Int) : Calls Try.prog 33 #[.pointer (some ⟨g, 0, none⟩), .int .i64 k] w fun e w' => e = .returned (.tuple #[]) ∧ Stp w w' B g v0 v1 (setAr 0 (cutAr k d.a0) d) := by
  obtain ⟨p, c, hv, -, hnc⟩ := own_some h.w0
  subst hv
  have hok := h.ok.o0
  have ht := cutN_le (k := k) hok
  have hTD : Hid (cutN k d.a0 = d.a0.sy + min k.toNat (d.a0.bs.length - d.a0.sy)) := hid_in rfl
  have HC : Hid (setAr 0 (cutAr k d.a0) d = setAr 0 ⟨d.a0.bs.take (cutN k d.a0), cutN k d.a0⟩ d) := hid_in rfl
  rw [HC.out]
  clear HC
  generalize cutN k d.a0 = t at *
  have S1 := hid_in (h.set (d' := setAr 0 ⟨d.a0.bs, t⟩ d) 1 (.int .i64 (t : Int)) rfl rfl rfl (setAr_ok h.ok ⟨ht, hok.2⟩))
  have S2 : Hid (Stp w ((w.setCell ⟨g, 1, none⟩ (.int .i64 (t : Int))).setCell ⟨g, 0, none⟩ (.slice p t c)) B g (.slice p d.a0.bs.length c) v1 (setAr 0 ⟨d.a0.bs.take t, t⟩ d)) := by
    have hg := grownBy_setCell w ⟨g, 1, none⟩ (.int .i64 (t : Int))
    have hp : PtV (w.setCell ⟨g, 1, none⟩ (.int .i64 (t : Int))) B g (.slice p d.a0.bs.length c) v1 (setAr 0 ⟨d.a0.bs, t⟩ d) := ⟨h.row.set_same 1 _, h.w0.kept hg (.inr h.n0), h.w1.kept hg (.inr h.n1), h.n0, h.n1, h.ap, h.base, setAr_ok h.ok ⟨ht, hok.2⟩⟩
    exact Stp.trans hp ((Grew.of_grown hg).mono (fun q hq => .inl (Option.some.inj hq))) (fun q hq => .inl hq) (hp.trim0 rfl ht)
  have HSL := hid_in (fun W => slice_own p d.a0.bs.length c t (Nat.le_trans ht hnc) W)
  have c0 := h.row.cell 0
  have c1 := h.row.cell 1
  have f0 := h.row.frozen 0
  have f1 := h.row.frozen 1
  simp only [pcells, List.getElem?_cons_succ, List.getElem?_cons_zero] at c0 c1
  have hsl := hok.1
  have hle := hok.2.2
  have HSL2 := HSL.out
  generalize d.a0.bs.length = n at *
  generalize d.a0.sy = s at *
  have htc : (t : Int) ≤ (c : Int) := by omega
  have z5 : wrap64 (t : Int) = (t : Int) := by unfold wrap64; omega
  have z6 : IntKind.i64.wrap (t : Int) = (t : Int) := by rw [IntKind.wrap_i64]; omega
  obtain ⟨Y, hy⟩ : ∃ Y : Int, Y = (n : Int) - (s : Int) := ⟨_, rfl⟩
  have z1 : wrap64 ((n : Int) - (s : Int)) = Y := by rw [← hy]; unfold wrap64; omega
  have z2 : IntKind.i64.wrap ((n : Int) - (s : Int)) = Y := by rw [← hy, IntKind.wrap_i64]; omega
  have e0 := hTD.out
  have hY0 : 0 ≤ Y := by omega
  have hb : (t : Int) ≤ 140737488355328 := by omega
  have hb0 : 0 ≤ (t : Int) := by omega
  rcases Int.lt_trichotomy k 0 with hk | hk | hk
  · rcases Int.lt_trichotomy Y 0 with hy0 | hy0 | hy0
    · omega
    · subst hy0
      have et : (t : Int) = (s : Int) := by omega
      have z3 : wrap64 ((s : Int) + 0) = (t : Int) := by rw [show (s : Int) + 0 = (t : Int) by omega]; exact z5
      have z4 : IntKind.i64.wrap ((s : Int) + 0) = (t : Int) := by rw [show (s : Int) + 0 = (t : Int) by omega]; exact z6
      have z7 : wrap64 (s : Int) = (t : Int) := by rw [show (s : Int) = (t : Int) by omega]; exact z5
      have z8 : IntKind.i64.wrap (s : Int) = (t : Int) := by rw [show (s : Int) = (t : Int) by omega]; exact z6
      clear hb hb0 et e0 h hok ht hsl hle hy hY0
      clear hTD hnc HSL HSL2
      generalize (s : Int) = sI at *
      go_enter Try.func33, Try.ntmps33
      go_wp2
      go_region
      all_goals
        go_wp2
        go_region
        go_wp2
        go_end0
        exact ⟨rfl, S2.out.behind (Nd.below_drewN (Below.refl _ _) 2)⟩
    · have et : (t : Int) = (s : Int) := by omega
      have z3 : wrap64 ((s : Int) + 0) = (t : Int) := by rw [show (s : Int) + 0 = (t : Int) by omega]; exact z5
      have z4 : IntKind.i64.wrap ((s : Int) + 0) = (t : Int) := by rw [show (s : Int) + 0 = (t : Int) by omega]; exact z6
      have z7 : wrap64 (s : Int) = (t : Int) := by rw [show (s : Int) = (t : Int) by omega]; exact z5
      have z8 : IntKind.i64.wrap (s : Int) = (t : Int) := by rw [show (s : Int) = (t : Int) by omega]; exact z6
      clear hb hb0 et e0 h hok ht hsl hle hy 
      clear hTD hnc HSL HSL2
      generalize (s : Int) = sI at *
      go_enter Try.func33, Try.ntmps33
      go_wp2
      go_region
      all_goals
        go_wp2
        go_region
        go_wp2
        go_end0
        exact ⟨rfl, S2.out.behind (Nd.below_drewN (Below.refl _ _) 2)⟩
  · subst hk
    rcases Int.lt_trichotomy Y 0 with hy0 | hy0 | hy0
    · omega
    · subst hy0
      have et : (t : Int) = (s : Int) := by omega
      have z3 : wrap64 ((s : Int) + 0) = (t : Int) := by rw [show (s : Int) + 0 = (t : Int) by omega]; exact z5
      have z4 : IntKind.i64.wrap ((s : Int) + 0) = (t : Int) := by rw [show (s : Int) + 0 = (t : Int) by omega]; exact z6
      have z7 : wrap64 (s : Int) = (t : Int) := by rw [show (s : Int) = (t : Int) by omega]; exact z5
      have z8 : IntKind.i64.wrap (s : Int) = (t : Int) := by rw [show (s : Int) = (t : Int) by omega]; exact z6
      clear hb hb0 et e0 h hok ht hsl hle hy hY0
      clear hTD hnc HSL HSL2
      generalize (s : Int) = sI at *
      go_enter Try.func33, Try.ntmps33
      go_wp2
      go_region
      all_goals
        go_wp2
        go_region
        go_wp2
        go_end0
        exact ⟨rfl, S2.out.behind (Nd.below_drewN (Below.refl _ _) 2)⟩
    · have et : (t : Int) = (s : Int) := by omega
      have z3 : wrap64 ((s : Int) + 0) = (t : Int) := by rw [show (s : Int) + 0 = (t : Int) by omega]; exact z5
      have z4 : IntKind.i64.wrap ((s : Int) + 0) = (t : Int) := by rw [show (s : Int) + 0 = (t : Int) by omega]; exact z6
      have z7 : wrap64 (s : Int) = (t : Int) := by rw [show (s : Int) = (t : Int) by omega]; exact z5
      have z8 : IntKind.i64.wrap (s : Int) = (t : Int) := by rw [show (s : Int) = (t : Int) by omega]; exact z6
      clear hb hb0 et e0 h hok ht hsl hle hy 
      clear hTD hnc HSL HSL2
      generalize (s : Int) = sI at *
      go_enter Try.func33, Try.ntmps33
      go_wp2
      go_region
      all_goals
        go_wp2
        go_region
        go_wp2
        go_end0
        exact ⟨rfl, S2.out.behind (Nd.below_drewN (Below.refl _ _) 2)⟩
  · rcases Int.lt_trichotomy k Y with hky | hky | hky
    · have et : (t : Int) = (s : Int) + k := by omega
      have z3 : wrap64 ((s : Int) + k) = (t : Int) := by rw [show (s : Int) + k = (t : Int) by omega]; exact z5
      have z4 : IntKind.i64.wrap ((s : Int) + k) = (t : Int) := by rw [show (s : Int) + k = (t : Int) by omega]; exact z6
      clear hb hb0 et e0 h hok ht hsl hle hy 
      clear hTD hnc HSL HSL2
      generalize (s : Int) = sI at *
      go_enter Try.func33, Try.ntmps33
      go_wp2
      go_region
      all_goals
        go_wp2
        go_region
        go_wp2
        go_end0
        exact ⟨rfl, S2.out.behind (Nd.below_drewN (Below.refl _ _) 2)⟩
    · subst hky
      have et : (t : Int) = (s : Int) + k := by omega
      have z3 : wrap64 ((s : Int) + k) = (t : Int) := by rw [show (s : Int) + k = (t : Int) by omega]; exact z5
      have z4 : IntKind.i64.wrap ((s : Int) + k) = (t : Int) := by rw [show (s : Int) + k = (t : Int) by omega]; exact z6
      clear hb hb0 et e0 h hok ht hsl hle hy 
      clear hTD hnc HSL HSL2
      generalize (s : Int) = sI at *
      go_enter Try.func33, Try.ntmps33
      go_wp2
      go_region
      all_goals
        go_wp2
        go_region
        go_wp2
        go_end0
        exact ⟨rfl, S2.out.behind (Nd.below_drewN (Below.refl _ _) 2)⟩
    · have et : (t : Int) = (s : Int) + Y := by omega
      have z3 : wrap64 ((s : Int) + Y) = (t : Int) := by rw [show (s : Int) + Y = (t : Int) by omega]; exact z5
      have z4 : IntKind.i64.wrap ((s : Int) + Y) = (t : Int) := by rw [show (s : Int) + Y = (t : Int) by omega]; exact z6
      clear hb hb0 et e0 h hok ht hsl hle hy 
      clear hTD hnc HSL HSL2
      generalize (s : Int) = sI at *
      go_enter Try.func33, Try.ntmps33
      go_wp2
      go_region
      all_goals
        go_wp2
        go_region
        go_wp2
        go_end0
        exact ⟨rfl, S2.out.behind (Nd.below_drewN (Below.refl _ _) 2)⟩
set_option maxHeartbeats 2000000 in
set_option maxRecDepth 100000 in
theorem tcut1 {w : World} {B g : Nat} {v0 v1 : Value} {d : Dk} (h : PtV w B g v0 v1 d) (k : Int) : Calls Try.prog 33 #[.pointer (some ⟨g, 2, none⟩), .int .i64 k] w fun e w' => e = .returned (.tuple #[]) ∧ Stp w w' B g v0 v1 (setAr 1 (cutAr k d.a1) d) := by
  obtain ⟨p, c, hv, -, hnc⟩ := own_some h.w1
  subst hv
  have hok := h.ok.o1
  have ht := cutN_le (k := k) hok
  have hTD : Hid (cutN k d.a1 = d.a1.sy + min k.toNat (d.a1.bs.length - d.a1.sy)) := hid_in rfl
  have HC : Hid (setAr 1 (cutAr k d.a1) d = setAr 1 ⟨d.a1.bs.take (cutN k d.a1), cutN k d.a1⟩ d) := hid_in rfl
  rw [HC.out]
  clear HC
  generalize cutN k d.a1 = t at *
  have S1 := hid_in (h.set (d' := setAr 1 ⟨d.a1.bs, t⟩ d) 3 (.int .i64 (t : Int)) rfl rfl rfl (setAr_ok h.ok ⟨ht, hok.2⟩))
  have S2 : Hid (Stp w ((w.setCell ⟨g, 3, none⟩ (.int .i64 (t : Int))).setCell ⟨g, 2, none⟩ (.slice p t c)) B g v0 (.slice p d.a1.bs.length c) (setAr 1 ⟨d.a1.bs.take t, t⟩ d)) := by
    have hg := grownBy_setCell w ⟨g, 3, none⟩ (.int .i64 (t : Int))
    have hp : PtV (w.setCell ⟨g, 3, none⟩ (.int .i64 (t : Int))) B g v0 (.slice p d.a1.bs.length c) (setAr 1 ⟨d.a1.bs, t⟩ d) := ⟨h.row.set_same 3 _, h.w0.kept hg (.inr h.n0), h.w1.kept hg (.inr h.n1), h.n0, h.n1, h.ap, h.base, setAr_ok h.ok ⟨ht, hok.2⟩⟩
    exact Stp.trans hp ((Grew.of_grown hg).mono (fun q hq => .inl (Option.some.inj hq))) (fun q hq => .inl hq) (hp.trim1 rfl ht)
  have HSL := hid_in (fun W => slice_own p d.a1.bs.length c t (Nat.le_trans ht hnc) W)
  have c0 := h.row.cell 2
  have c1 := h.row.cell 3
  have f0 := h.row.frozen 2
  have f1 := h.row.frozen 3
  simp only [pcells, List.getElem?_cons_succ, List.getElem?_cons_zero] at c0 c1
  have hsl := hok.1
  have hle := hok.2.2
  have HSL2 := HSL.out
  generalize d.a1.bs.length = n at *
  generalize d.a1.sy = s at *
  have htc : (t : Int) ≤ (c : Int) := by omega
  have z5 : wrap64 (t : Int) = (t : Int) := by unfold wrap64; omega
  have z6 : IntKind.i64.wrap (t : Int) = (t : Int) := by rw [IntKind.wrap_i64]; omega
  obtain ⟨Y, hy⟩ : ∃ Y : Int, Y = (n : Int) - (s : Int) := ⟨_, rfl⟩
  have z1 : wrap64 ((n : Int) - (s : Int)) = Y := by rw [← hy]; unfold wrap64; omega
  have z2 : IntKind.i64.wrap ((n : Int) - (s : Int)) = Y := by rw [← hy, IntKind.wrap_i64]; omega
  have e0 := hTD.out
  have hY0 : 0 ≤ Y := by omega
  have hb : (t : Int) ≤ 140737488355328 := by omega
  have hb0 : 0 ≤ (t : Int) := by omega
  rcases Int.lt_trichotomy k 0 with hk | hk | hk
  · rcases Int.lt_trichotomy Y 0 with hy0 | hy0 | hy0
    · omega
    · subst hy0
      have et : (t : Int) = (s : Int) := by omega
      have z3 : wrap64 ((s : Int) + 0) = (t : Int) := by rw [show (s : Int) + 0 = (t : Int) by omega]; exact z5
      have z4 : IntKind.i64.wrap ((s : Int) + 0) = (t : Int) := by rw [show (s : Int) + 0 = (t : Int) by omega]; exact z6
      have z7 : wrap64 (s : Int) = (t : Int) := by rw [show (s : Int) = (t : Int) by omega]; exact z5
      have z8 : IntKind.i64.wrap (s : Int) = (t : Int) := by rw [show (s : Int) = (t : Int) by omega]; exact z6
      clear hb hb0 et e0 h hok ht hsl hle hy hY0
      clear hTD hnc HSL HSL2
      generalize (s : Int) = sI at *
      go_enter Try.func33, Try.ntmps33
      go_wp2
      go_region
      all_goals
        go_wp2
        go_region
        go_wp2
        go_end0
        exact ⟨rfl, S2.out.behind (Nd.below_drewN (Below.refl _ _) 2)⟩
    · have et : (t : Int) = (s : Int) := by omega
      have z3 : wrap64 ((s : Int) + 0) = (t : Int) := by rw [show (s : Int) + 0 = (t : Int) by omega]; exact z5
      have z4 : IntKind.i64.wrap ((s : Int) + 0) = (t : Int) := by rw [show (s : Int) + 0 = (t : Int) by omega]; exact z6
      have z7 : wrap64 (s : Int) = (t : Int) := by rw [show (s : Int) = (t : Int) by omega]; exact z5
      have z8 : IntKind.i64.wrap (s : Int) = (t : Int) := by rw [show (s : Int) = (t : Int) by omega]; exact z6
      clear hb hb0 et e0 h hok ht hsl hle hy 
      clear hTD hnc HSL HSL2
      generalize (s : Int) = sI at *
      go_enter Try.func33, Try.ntmps33
      go_wp2
      go_region
      all_goals
        go_wp2
        go_region
        go_wp2
        go_end0
        exact ⟨rfl, S2.out.behind (Nd.below_drewN (Below.refl _ _) 2)⟩
  · subst hk
    rcases Int.lt_trichotomy Y 0 with hy0 | hy0 | hy0
    · omega
    · subst hy0
      have et : (t : Int) = (s : Int) := by omega
      have z3 : wrap64 ((s : Int) + 0) = (t : Int) := by rw [show (s : Int) + 0 = (t : Int) by omega]; exact z5
      have z4 : IntKind.i64.wrap ((s : Int) + 0) = (t : Int) := by rw [show (s : Int) + 0 = (t : Int) by omega]; exact z6
      have z7 : wrap64 (s : Int) = (t : Int) := by rw [show (s : Int) = (t : Int) by omega]; exact z5
      have z8 : IntKind.i64.wrap (s : Int) = (t : Int) := by rw [show (s : Int) = (t : Int) by omega]; exact z6
      clear hb hb0 et e0 h hok ht hsl hle hy hY0
      clear hTD hnc HSL HSL2
      generalize (s : Int) = sI at *
      go_enter Try.func33, Try.ntmps33
      go_wp2
      go_region
      all_goals
        go_wp2
        go_region
        go_wp2
        go_end0
        exact ⟨rfl, S2.out.behind (Nd.below_drewN (Below.refl _ _) 2)⟩
    · have et : (t : Int) = (s : Int) := by omega
      have z3 : wrap64 ((s : Int) + 0) = (t : Int) := by rw [show (s : Int) + 0 = (t : Int) by omega]; exact z5
      have z4 : IntKind.i64.wrap ((s : Int) + 0) = (t : Int) := by rw [show (s : Int) + 0 = (t : Int) by omega]; exact z6
      have z7 : wrap64 (s : Int) = (t : Int) := by rw [show (s : Int) = (t : Int) by omega]; exact z5
      have z8 : IntKind.i64.wrap (s : Int) = (t : Int) := by rw [show (s : Int) = (t : Int) by omega]; exact z6
      clear hb hb0 et e0 h hok ht hsl hle hy 
      clear hTD hnc HSL HSL2
      generalize (s : Int) = sI at *
      go_enter Try.func33, Try.ntmps33
      go_wp2
      go_region
      all_goals
        go_wp2
        go_region
        go_wp2
        go_end0
        exact ⟨rfl, S2.out.behind (Nd.below_drewN (Below.refl _ _) 2)⟩
  · rcases Int.lt_trichotomy k Y with hky | hky | hky
    · have et : (t : Int) = (s : Int) + k := by omega
      have z3 : wrap64 ((s : Int) + k) = (t : Int) := by rw [show (s : Int) + k = (t : Int) by omega]; exact z5
      have z4 : IntKind.i64.wrap ((s : Int) + k) = (t : Int) := by rw [show (s : Int) + k = (t : Int) by omega]; exact z6
      clear hb hb0 et e0 h hok ht hsl hle hy 
      clear hTD hnc HSL HSL2
      generalize (s : Int) = sI at *
      go_enter Try.func33, Try.ntmps33
      go_wp2
      go_region
      all_goals
        go_wp2
        go_region
        go_wp2
        go_end0
        exact ⟨rfl, S2.out.behind (Nd.below_drewN (Below.refl _ _) 2)⟩
    · subst hky
      have et : (t : Int) = (s : Int) + k := by omega
      have z3 : wrap64 ((s : Int) + k) = (t : Int) := by rw [show (s : Int) + k = (t : Int) by omega]; exact z5
      have z4 : IntKind.i64.wrap ((s : Int) + k) = (t : Int) := by rw [show (s : Int) + k = (t : Int) by omega]; exact z6
      clear hb hb0 et e0 h hok ht hsl hle hy 
      clear hTD hnc HSL HSL2
      generalize (s : Int) = sI at *
      go_enter Try.func33, Try.ntmps33
      go_wp2
      go_region
      all_goals
        go_wp2
        go_region
        go_wp2
        go_end0
        exact ⟨rfl, S2.out.behind (Nd.below_drewN (Below.refl _ _) 2)⟩
    · have et : (t : Int) = (s : Int) + Y := by omega
      have z3 : wrap64 ((s : Int) + Y) = (t : Int) := by rw [show (s : Int) + Y = (t : Int) by omega]; exact z5
      have z4 : IntKind.i64.wrap ((s : Int) + Y) = (t : Int) := by rw [show (s : Int) + Y = (t : Int) by omega]; exact z6
      clear hb hb0 et e0 h hok ht hsl hle hy 
      clear hTD hnc HSL HSL2
      generalize (s : Int) = sI at *
      go_enter Try.func33, Try.ntmps33
      go_wp2
      go_region
      all_goals
        go_wp2
        go_region
        go_wp2
        go_end0
        exact ⟨rfl, S2.out.behind (Nd.below_drewN (Below.refl _ _) 2)⟩
end Go.Proofs.Ytjjofjnhhajjjaa.Pt
