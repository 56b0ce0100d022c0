/-
  goThrough, of no and of one item whose blob isn't there. goThrough and lookAt, of no and of one item. New, where the root isn't there. Want, of a carrier that wants one pair. Done; Offer of what isn't wanted.
-/
import Derived.Deep.CutRange
import Derived.Laws.EntriesVeiled
import Derived.RangeFuncNested
import Derived.Test.YtamaejlbojbbeaaGreatDoorQ00
import Derived.Test.YtamaejlbojbbeaaGreatDoorQ01
import Derived.Test.YtamaejlbojbbeaaGreatDoorQ02
import Derived.Test.YtamaejlbojbbeaaGreatDoorQ03
import Derived.Test.YtamaejlbojbbeaaGreatDoorQ04
import Derived.Test.YtamaejlbojbbeaaGreatDoorQ05
import Derived.Test.YtamaejlbojbbeaaGreatDoorQ06
import Derived.Test.YtamaejlbojbbeaaGreatDoorQ07
import Derived.Test.YtamaejlbojbbeaaGreatDoorQ08
import Derived.Test.YtamaejlbojbbeaaGreatDoorQ09
import Derived.Test.YtamaejlbojbbeaaGreatDoorQ10
import Derived.Test.YtamaejlbojbbeaaGreatDoorQ11
import Derived.Test.YtamaejlbojbbeaaGreatDoorQ12
import Derived.Test.YtamaejlbojbbeaaGreatDoorQ13
import Derived.Test.YtamaejlbojbbeaaGreatDoorQ14
import Derived.Test.YtamaejlbojbbeaaGreatDoorQ15
import Derived.Test.YtamaejlbojbbeaaGreatDoorQ24
import Derived.Test.YtamaejlbojbbeaaGreatDoorQ25
import Derived.Test.YtamaejlbojbbeaaGreatDoorQ26
namespace Go.Proofs.YtamaejlbojbbeaaGreatDoor.Tr
open Go.RowKit
open Sb (hid_in Row Sl T5 BL u8v Tab wp_world grownBy_setCell below_of_grown info39 one_u8 splice_all rowOf rowOf_row St Bs Kp)
/-- the pair of an item -/
def prOf (x : Nd.It) : List Nat × Int := (x.sum, x.kind)
theorem enter_nil (p : Option Addr) (cap : Nat) (a b e : Option Addr) (w : World) : Calls Tryz.prog 134 #[.slice p 0 cap, .pointer a, .pointer b, .pointer e] w fun e w' => e = .returned (.int .i64 0) ∧ w' = w := by
  go_enter Tryz.func134, Tryz.ntmps134
  go_wp2_with fail
  refine wp_loop_rounds 1 ?_
  rw [rounds_succ]
  go_wp2
  go_ret
  exact ⟨rfl, rfl⟩
set_option maxHeartbeats 2000000 in
set_option maxRecDepth 100000 in
theorem enter_one {B : Nat} {w : World} {c gs ms lm wm : Nat} {ov : Value} {M : List Nat → Option (List Nat)} {n : Nat} {q u : Int} {Lk : List (List Nat × Int)} (h : Cs B w c gs ms lm wm ov M n q u [] Lk) (lb vb eb : Nat) (h1 : Boxed w lb 121 (.map (some lm))) (h2 : Boxed w vb 148 (.func (.func 119) #[.pointer (some ⟨c, 0, none⟩)] #[]))
    (h3 : Boxed w eb 211 (.func (.func 134) #[] #[.pointer (some ⟨lb, 0, none⟩), .pointer (some ⟨vb, 0, none⟩), .pointer (some ⟨eb, 0, none⟩)])) (y : Nd.It) (hy : y.sum.length = 32) (ib io cap : Nat) (hr : w.rangeAt ib io y.cells) (hM : M y.sum = none) (hk : prOf y ∉ Lk) :
    Calls Tryz.prog 134 #[.slice (some ⟨ib, io, none⟩) 1 cap, .pointer (some ⟨lb, 0, none⟩), .pointer (some ⟨vb, 0, none⟩), .pointer (some ⟨eb, 0, none⟩)] w fun e w' => e = .returned (.int .i64 0) ∧ ∃ ov', Cs B w' c gs ms lm wm ov' M n q u [prOf y] (Lk ++ [prOf y]) ∧ Below B w w' := by
  have hpg : PG (prOf y) := hy
  obtain ⟨V, HV⟩ : ∃ V, Hid (V = y.cells) := ⟨_, hid_in rfl⟩
  obtain ⟨D, HD⟩ : ∃ D, Hid (D = y.sum.map u8v) := ⟨_, hid_in rfl⟩
  obtain ⟨X, HX⟩ : ∃ X, Hid (X = pcells (prOf y)) := ⟨_, hid_in rfl⟩
  obtain ⟨k, HKk⟩ : ∃ k, Hid (k = y.kind) := ⟨_, hid_in rfl⟩
  have HDL : Hid (D.length = 32) := hid_in (by rw [HD.out, List.length_map]; exact hy)
  have HVL : Hid (V.length = 34) := hid_in (by rw [HV.out]; simp [Nd.It.cells, hy])
  have HVD : Hid (V = [.string y.name, .int .i64 k] ++ D) := hid_in (by rw [HV.out, HD.out, HKk.out]; rfl)
  have HV1 : Hid (∀ v ∈ V, v.oneCell' = true) := hid_in (by
    intro v hv
    rw [HVD.out] at hv
    rcases List.mem_append.1 hv with hv | hv
    · simp at hv; rcases hv with rfl | rfl <;> rfl
    · rw [HD.out] at hv; exact one_u8 _ v hv)
  have HXL : Hid (X.length = 33) := hid_in (by rw [HX.out]; exact pcells_len hpg)
  have HX1 : Hid (∀ v ∈ X, v.oneCell' = true) := hid_in (by rw [HX.out]; exact pcells_one _)
  have HXD : Hid (X = D ++ [Value.int .i64 k]) := hid_in (by rw [HX.out, HD.out, HKk.out]; rfl)
  have HXP : Hid (pv (prOf y) = .agg X.toArray) := hid_in (by rw [HX.out]; rfl)
  rw [← HV.out] at hr
  have HR := hid_in hr
  have HBW := hid_in h.size
  have HC := hid_in h
  have H1 := hid_in h1
  have H2 := hid_in h2
  have H3 := hid_in h3
  have HPG := hid_in hpg
  have HM := hid_in hM
  have HNK := hid_in hk
  have HROWV : Hid (∀ W, Row W w.heap.size V 114 → W.cell? ⟨w.heap.size, 1, none⟩ = some (.int .i64 k) ∧ W.rangeAt w.heap.size 2 D) := hid_in (fun W hW => by
    refine ⟨by rw [hW.cell, HVD.out]; rfl, fun j v hv => ?_⟩
    rw [hW.cell, HVD.out, List.getElem?_append_right (by simp)]
    simpa using hv)
  clear h h1 h2 h3 hr hy hM hk hpg
  go_enter Tryz.func134, Tryz.ntmps134
  go_wp2_with fail
  refine wp_loop_rounds 2 ?_
  rw [rounds_succ]
  go_upto_region 5 with (first | (refine wpList_load_mid rfl 114 _ rfl ib _ rfl V _ HR.out Tryz.underlying114 rfl (by rw [Nd.info51, HVL.out]) ?_) | (refine Nd.wpList_store_new rfl rfl 114 34 _ _ rfl _ V Nd.info51 rfl HVL HV1 rfl rfl ?_; intro w5 hr5 hb5 hs5; have HR5 := hid_in hr5; have HB5 := hid_in hb5; have HS5 := hid_in hs5; have c1 := (HROWV.out _ hr5).1; have HRD := hid_in (HROWV.out _ hr5).2; clear hr5 hb5 hs5) | (refine wpList_load_mid rfl 30 _ rfl w.heap.size _ rfl D _ HRD.out Tryz.underlying30 rfl (by rw [info39, HDL.out]) ?_) | (refine wpList_buildP D HDL k X HXD rfl rfl ?_) | (refine Nd.wpList_store_new rfl rfl 140 33 _ _ rfl _ X info140 rfl HXL HX1 rfl rfl ?_; intro w6 hr6 hb6 hs6; have HR6 := hid_in hr6; have HB6 := hid_in hb6; have HS6 := hid_in hs6; clear hb6 hs6))
  obtain ⟨w7, HW7⟩ : ∃ w7, Hid (w6.alloc (.cells #[] 151) = w7) := ⟨_, hid_in rfl⟩
  have b06 : Below w.heap.size w w6 := HB5.out.trans (HB6.out.mono HB5.out.size)
  have b67 : Below w6.heap.size w6 w7 := by rw [← HW7.out]; exact (Below.refl _ _).alloc (Nat.le_refl _) _
  have b07 := b06.trans (b67.mono b06.size)
  have cL6 : w6.cell? ⟨lb, 0, none⟩ = some (.map (some lm)) := ((Kt.below b06).boxed H1.out (by decide) (by decide)).cell
  have cL7 : w7.cell? ⟨lb, 0, none⟩ = some (.map (some lm)) := ((Kt.below b07).boxed H1.out (by decide) (by decide)).cell
  have hlk : (Instr.lookup 121 (.map (some lm)) (.agg X.toArray) true).run Tryz.prog w6 = .ok (.tuple #[.agg #[], .bool false]) w6 := by
    rw [← HXP.out]
    exact (HC.out.below b06).lk.look _ HPG.out false (by simp [HNK.out])
  have hC7 := HC.out.below b07
  obtain ⟨w8, hmu, hps8, hg8, hs8⟩ := hC7.lk.add (prOf y) HPG.out
  rw [HXP.out] at hmu
  have hC8 := hC7.look hg8 hps8
  have hr7 := HR6.out.below b67 HR6.out.lt
  obtain ⟨es8, cl8, hm8⟩ := hC7.lk.map
  have hkt8 : Kt w w8 := (Kt.below b07).trans (Kt.map hg8 hm8)
  have hr8 : Row w8 w5.heap.size X 140 := hr7.grown hg8 (fun e => row_ne_map hr7 hm8 (Option.some.inj e))
  have cV8 : w8.cell? ⟨vb, 0, none⟩ = some (.func (.func 119) #[.pointer (some ⟨c, 0, none⟩)] #[]) := (hkt8.boxed H2.out (by decide) (by decide)).cell
  have HVI := hid_in (visit_lack hC8 (prOf y) HPG.out X HX HM.out)
  have HB8 : Hid (Below B w w8) := hid_in ((b07.mono HBW.out).trans ⟨hg8.os, hg8.tape, hg8.output, hg8.size, fun j hj => hg8.block j (by have := b07.size; have := HBW.out; omega) (fun e => by
    have h7 : j = lm := Option.some.inj e
    have := hC7.bs.2.2.2.1
    omega)⟩)
  have HKT8 := hid_in hkt8
  have HR8 := hid_in hr8
  clear b06 b67 b07 hC7 hC8 hps8 hg8 hs8 hkt8 hr8 hm8 c1
  go_upto_region 7 with (first | (refine Sb.wpList_load_Row rfl 140 _ rfl w5.heap.size rfl 140 _ hr6 _ Tryz.underlying140 rfl 33 info140 HXL.out ?_))
  refine wp_world HW7.out ?_
  clear hlk hr6 cL6 HW7
  go_upto_region 8 with (first | (refine Sb.wpList_load_Row rfl 140 _ rfl w5.heap.size rfl 140 _ hr7 _ Tryz.underlying140 rfl 33 info140 HXL.out ?_))
  clear hmu hr7 cL7
  have hr8 := HR8.out
  go_upto_region 11 with (first | (refine Sb.wpList_load_Row rfl 140 _ rfl w5.heap.size rfl 140 _ hr8 _ Tryz.underlying140 rfl 33 info140 HXL.out ?_) | (go_at_call 119; refine HVI.out.mono ?_; rintro e w9 ⟨rfl, ov', hC9, hB9, hK9⟩; have HC9 := hid_in hC9; have HB9 := hid_in hB9; have cE9 := ((HKT8.out.trans hK9).boxed H3.out (by decide) (by decide)).cell; clear hC9 hB9 hK9))
  clear cV8 hr8
  go_wp2_with (first | (go_at_call 134; refine (enter_nil none 0 _ _ _ _).mono ?_; rintro e w10 ⟨rfl, rfl⟩))
  rw [rounds_succ]
  go_wp2
  go_ret
  exact ⟨rfl, _, HC9.out, HB8.out.trans HB9.out⟩
end Go.Proofs.YtamaejlbojbbeaaGreatDoor.Tr
namespace Go.Proofs.YtamaejlbojbbeaaGreatDoor.Tr
open Go.RowKit
open Sb (hid_in Row Sl T5 BL u8v Tab wp_world grownBy_setCell below_of_grown info39 one_u8 splice_all rowOf rowOf_row St Bs Kp)
/-- the world in which goThrough's closure is called -/
theorem go_world (w : World) (lm : Nat) (fv : Value) : ∃ W3 W4, Hid (((w.alloc (.cells #[.map (some lm)] 121)).alloc (.cells #[fv] 148)).alloc (.cells #[.nilFunc] 211) = W3) ∧ Boxed W3 (w.heap.size + 1 + 1) 211 .nilFunc ∧
    Hid (W3.setCell ⟨w.heap.size + 1 + 1, 0, none⟩ (.func (.func 134) #[] #[.pointer (some ⟨w.heap.size, 0, none⟩), .pointer (some ⟨w.heap.size + 1, 0, none⟩), .pointer (some ⟨w.heap.size + 1 + 1, 0, none⟩)]) = W4) ∧
    Below w.heap.size w W4 ∧ Boxed W4 w.heap.size 121 (.map (some lm)) ∧ Boxed W4 (w.heap.size + 1) 148 fv ∧ Boxed W4 (w.heap.size + 1 + 1) 211 (.func (.func 134) #[] #[.pointer (some ⟨w.heap.size, 0, none⟩), .pointer (some ⟨w.heap.size + 1, 0, none⟩), .pointer (some ⟨w.heap.size + 1 + 1, 0, none⟩)]) := by
  obtain ⟨W3, HW3⟩ : ∃ W3, Hid (((w.alloc (.cells #[.map (some lm)] 121)).alloc (.cells #[fv] 148)).alloc (.cells #[.nilFunc] 211) = W3) := ⟨_, hid_in rfl⟩
  have hB3 : Below w.heap.size w W3 := by rw [← HW3.out]; exact (((Below.refl _ _).alloc (Nat.le_refl _) _).alloc (by simp) _).alloc (by simp; omega) _
  have h0 : Boxed W3 w.heap.size 121 (.map (some lm)) := by rw [← HW3.out]; exact ((Boxed.new w 121 _).alloc _).alloc _
  have h1 : Boxed W3 (w.heap.size + 1) 148 fv := by
    rw [← HW3.out]
    have h := Boxed.new (w.alloc (.cells #[.map (some lm)] 121)) 148 fv
    rw [World.size_alloc] at h
    exact h.alloc _
  have h2 : Boxed W3 (w.heap.size + 1 + 1) 211 .nilFunc := by
    rw [← HW3.out]
    have h := Boxed.new ((w.alloc (.cells #[.map (some lm)] 121)).alloc (.cells #[fv] 148)) 211 .nilFunc
    simp only [World.size_alloc] at h
    exact h
  refine ⟨W3, _, HW3, h2, hid_in rfl, hB3.setCell (by simp; omega) _, h0.other (by omega) _, h1.other (by omega) _, h2.set _⟩
set_option maxHeartbeats 1000000 in
theorem through_nil (w : World) (lm : Nat) (p : Option Addr) (cap : Nat) (fn : Fn) (bd : Array Value) : Calls Tryz.prog 76 #[.map (some lm), .slice p 0 cap, .func fn bd #[]] w fun e w' => e = .returned (.int .i64 0) ∧ Below w.heap.size w w' := by
  obtain ⟨W3, W4, HW3, h2, HW4, hb, -, -, b2⟩ := go_world w lm (.func fn bd #[])
  have c3 := h2.cell
  have f3 := h2.frozen
  have c4 := b2.cell
  have HB := hid_in hb
  clear hb h2 b2
  go_enter Tryz.func76, Tryz.ntmps76
  go_upto_region 2 with fail
  refine wp_world HW3.out ?_
  clear HW3
  go_upto_region 3 with fail
  refine wp_world HW4.out ?_
  clear HW4 c3 f3
  go_wp2_with (first | (go_at_call 134; refine (enter_nil p cap _ _ _ _).mono ?_; rintro e w10 ⟨rfl, rfl⟩))
  go_ret
  exact ⟨rfl, HB.out⟩
set_option maxHeartbeats 1000000 in
theorem through_one {B : Nat} {w : World} {c gs ms lm wm : Nat} {ov : Value} {M : List Nat → Option (List Nat)} {n : Nat} {q u : Int} {Lk : List (List Nat × Int)} (h : Cs B w c gs ms lm wm ov M n q u [] Lk) (y : Nd.It) (hy : y.sum.length = 32) (ib io cap : Nat) (hr : w.rangeAt ib io y.cells) (hib : ib < w.heap.size) (hM : M y.sum = none) (hk : prOf y ∉ Lk) :
    Calls Tryz.prog 76 #[.map (some lm), .slice (some ⟨ib, io, none⟩) 1 cap, .func (.func 119) #[.pointer (some ⟨c, 0, none⟩)] #[]] w fun e w' => e = .returned (.int .i64 0) ∧ ∃ ov', Cs B w' c gs ms lm wm ov' M n q u [prOf y] (Lk ++ [prOf y]) ∧ Below B w w' := by
  obtain ⟨W3, W4, HW3, h2, HW4, hb, b0, b1, b2⟩ := go_world w lm (.func (.func 119) #[.pointer (some ⟨c, 0, none⟩)] #[])
  have HE := hid_in (enter_one (h.below hb) _ _ _ b0 b1 b2 y hy ib io cap (Nd.rangeAt_below hr hb hib) hM hk)
  have HB := hid_in (hb.mono h.size)
  have c3 := h2.cell
  have f3 := h2.frozen
  have c4 := b2.cell
  clear h hy hr hib hM hk hb h2 b0 b1 b2
  go_enter Tryz.func76, Tryz.ntmps76
  go_upto_region 2 with fail
  refine wp_world HW3.out ?_
  clear HW3
  go_upto_region 3 with fail
  refine wp_world HW4.out ?_
  clear HW4 c3 f3
  go_wp2_with (first | (go_at_call 134; refine HE.out.mono ?_; rintro e w10 ⟨rfl, ov', hC, hB10⟩; have HC := hid_in hC; have HB10 := hid_in hB10; clear hC hB10))
  go_ret
  exact ⟨rfl, _, HC.out, HB.out.trans HB10.out⟩
theorem lookAt_nil {W : World} {c lm : Nat} {v0 v2 v3 v4 : Value} (h : Row W c [v0, .map (some lm), v2, v3, v4] 124) (p : Option Addr) (cap : Nat) : Calls Tryz.prog 61 #[.pointer (some ⟨c, 0, none⟩), .slice p 0 cap] W fun e w' => e = .returned (.tuple #[]) ∧ Below W.heap.size W w' := by
  have c1 : W.cell? ⟨c, 1, none⟩ = some (.map (some lm)) := h.cell 1
  have HT := hid_in (through_nil W lm p cap (.func 119) #[.pointer (some ⟨c, 0, none⟩)])
  clear h
  go_enter Tryz.func61, Tryz.ntmps61
  go_wp2_with (first | (go_at_call 76; refine HT.out.mono ?_; rintro e w2 ⟨rfl, hb2⟩; have HB2 := hid_in hb2; clear hb2))
  refine bodyPost_end (results_none rfl _ _ _) rfl ?_
  exact ⟨rfl, HB2.out⟩
theorem lookAt_one {B : Nat} {w : World} {c gs ms lm wm : Nat} {ov : Value} {M : List Nat → Option (List Nat)} {n : Nat} {q u : Int} {Lk : List (List Nat × Int)} (h : Cs B w c gs ms lm wm ov M n q u [] Lk) (y : Nd.It) (hy : y.sum.length = 32) (ib io cap : Nat) (hr : w.rangeAt ib io y.cells) (hib : ib < w.heap.size) (hM : M y.sum = none) (hk : prOf y ∉ Lk) :
    Calls Tryz.prog 61 #[.pointer (some ⟨c, 0, none⟩), .slice (some ⟨ib, io, none⟩) 1 cap] w fun e w' => e = .returned (.tuple #[]) ∧ ∃ ov', Cs B w' c gs ms lm wm ov' M n q u [prOf y] (Lk ++ [prOf y]) ∧ Below B w w' := by
  have c1 : w.cell? ⟨c, 1, none⟩ = some (.map (some lm)) := h.row.cell 1
  have HT := hid_in (through_one h y hy ib io cap hr hib hM hk)
  clear h hy hr hib hM hk
  go_enter Tryz.func61, Tryz.ntmps61
  go_wp2_with (first | (go_at_call 76; refine HT.out.mono ?_; rintro e w2 ⟨rfl, ov', hC, hb2⟩; have HC := hid_in hC; have HB2 := hid_in hb2; clear hC hb2))
  refine bodyPost_end (results_none rfl _ _ _) rfl ?_
  exact ⟨rfl, _, HC.out, HB2.out⟩
end Go.Proofs.YtamaejlbojbbeaaGreatDoor.Tr
namespace Go.Proofs.YtamaejlbojbbeaaGreatDoor.Tr
open Go.RowKit
open Sb (hid_in Row Sl T5 BL u8v Tab wp_world grownBy_setCell below_of_grown info39 one_u8 splice_all rowOf rowOf_row St Bs Kp)
theorem build_root (D : List Value) (hD : D.length = 32) (k : Int) (w : World) : (Instr.build 114 #[(1, .int .i64 k), (2, .agg D.toArray)]).run Tryz.prog w = .ok (.agg (Value.string ⟨#[]⟩ :: Value.int .i64 k :: D).toArray) w := by
  obtain ⟨d0, d1, d2, d3, d4, d5, d6, d7, d8, d9, d10, d11, d12, d13, d14, d15, d16, d17, d18, d19, d20, d21, d22, d23, d24, d25, d26, d27, d28, d29, d30, d31, rfl⟩ := Nd.list32 D hD
  exact run_build w 114 _ _ (by kernel_rfl)
set_option maxHeartbeats 2000000 in
set_option maxRecDepth 100000 in
theorem new_lack {B : Nat} {w : World} {gs ms : Nat} {M : List Nat → Option (List Nat)} {n : Nat} {q u : Int} (h : St w gs ms M n q u) (hg : B ≤ gs) (hm : B ≤ ms) (d : List Nat) (hd : d.length = 32) (V : List Value) (HV : Hid (V = d.map u8v)) (hM : M d = none) :
    Calls Tryz.prog 23 #[.pointer (some ⟨gs, 0, none⟩), .agg V.toArray, .int .i64 3] w fun e w' => ∃ c lm wm ov, e = .returned (.tuple #[.pointer (some ⟨c, 0, none⟩), .int .i64 0]) ∧ Cs B w' c gs ms lm wm ov M n q u [(d, 3)] [(d, 3)] ∧ Below B w w' := by
  have HVL : Hid (V.length = 32) := hid_in (by rw [HV.out, List.length_map]; exact hd)
  obtain ⟨E, HE⟩ : ∃ E, Hid (E = Value.string ⟨#[]⟩ :: Value.int .i64 3 :: V) := ⟨_, hid_in rfl⟩
  have HEL : Hid (E.length = 34) := hid_in (by rw [HE.out]; simp [HVL.out])
  obtain ⟨y, HY⟩ : ∃ y, Hid (y = Nd.It.mk ⟨#[]⟩ 3 d) := ⟨_, hid_in rfl⟩
  have HEY : Hid (E = y.cells) := hid_in (by rw [HE.out, HY.out, HV.out]; rfl)
  have HBD : Hid (∀ W, (Instr.build 114 #[(1, .int .i64 3), (2, .agg V.toArray)]).run Tryz.prog W = .ok (.agg E.toArray) W) := hid_in (fun W => by rw [HE.out]; exact build_root V HVL.out 3 W)
  have HBW : Hid (B ≤ w.heap.size) := hid_in (Nat.le_trans hg (Nat.le_of_lt h.glt))
  have HCK := hid_in (fun W => check_dir gs W)
  obtain ⟨w1, HW1⟩ : ∃ w1, Hid (w.alloc (.cells V.toArray 30) = w1) := ⟨_, hid_in rfl⟩
  have hb1 : Below w.heap.size w w1 := by rw [← HW1.out]; exact (Below.refl _ _).alloc (Nat.le_refl _) _
  have hr1 : Row w1 w.heap.size V 30 := by rw [← HW1.out]; exact Row.new w V 30
  obtain ⟨w4, HW4⟩ : ∃ w4, Hid (((w1.alloc (.map #[] 0)).alloc (.map #[] 0)).alloc (.cells #[.pointer (some ⟨gs, 0, none⟩), .map (some w1.heap.size), .map (some (w1.heap.size + 1)), .slice none 0 0, .bool false] 124) = w4) := ⟨_, hid_in rfl⟩
  have hb4 : Below w1.heap.size w1 w4 := by rw [← HW4.out]; exact (((Below.refl _ _).alloc (Nat.le_refl _) _).alloc (by simp) _).alloc (by simp; omega) _
  have hr4 := hr1.below hb4 hr1.lt
  have hC4 : Cs B w4 (w1.heap.size + 1 + 1) gs ms w1.heap.size (w1.heap.size + 1) (.slice none 0 0) M n q u [] [] := by
    have hms := h.mlt
    have h1s : w.heap.size ≤ w1.heap.size := hb1.size
    have hBw := HBW.out
    refine ⟨?_, Od.nil _ _, ?_, ?_, (h.below hb1).below hb4, by simp, ⟨by omega, hg, hm, by omega, by omega⟩, by omega, by omega, by omega⟩
    · rw [← HW4.out]; exact Row.newAt _ _ [.pointer (some ⟨gs, 0, none⟩), .map (some w1.heap.size), .map (some (w1.heap.size + 1)), .slice none 0 0, .bool false] 124 (by simp)
    · rw [← HW4.out]
      exact ((PS.new w1).below ((Below.refl _ _).alloc (Nat.le_refl _) (.map #[] 0))).below ((Below.refl _ _).alloc (Nat.le_refl _) _)
    · rw [← HW4.out]
      have h5 := (PW.new (w1.alloc (.map #[] 0))).of_block (((Below.refl ((w1.alloc (.map #[] 0)).alloc (.map #[] 0)).heap.size _).alloc (Nat.le_refl _) (.cells #[.pointer (some ⟨gs, 0, none⟩), .map (some w1.heap.size), .map (some (w1.heap.size + 1)), .slice none 0 0, .bool false] 124)).block _ (by simp))
      simpa using h5
  obtain ⟨w5, HW5⟩ : ∃ w5, Hid (w4.alloc (.cells E.toArray 114) = w5) := ⟨_, hid_in rfl⟩
  have hb5 : Below w4.heap.size w4 w5 := by rw [← HW5.out]; exact (Below.refl _ _).alloc (Nat.le_refl _) _
  have hr5 : Row w5 w4.heap.size E 114 := by rw [← HW5.out]; exact Row.new w4 E 114
  have HLA := hid_in (lookAt_one (hC4.below hb5) y (by rw [HY.out]; exact hd) w4.heap.size 0 1 (by rw [← HEY.out]; exact range_row hr5) (hr5.lt) (by rw [HY.out]; exact hM) (by simp))
  have HPY : Hid (prOf y = (d, 3)) := hid_in (by rw [HY.out]; rfl)
  rw [HPY.out] at HLA
  have HB5 : Hid (Below B w w5) := hid_in (((hb1.mono HBW.out).trans (hb4.mono (Nat.le_trans HBW.out hb1.size))).trans (hb5.mono (Nat.le_trans HBW.out (Nat.le_trans hb1.size hb4.size))))
  have HB1 := hid_in hb1
  clear h hg hm hd hM hb1 hb4 hb5 hr5 hC4 hr1
  have hm1 : ∀ w', (Instr.makeMap 121 none).run Tryz.prog w' = .ok (.map (some w'.heap.size)) (w'.alloc (.map #[] 0)) := fun w' => run_makeMap 121 w'
  go_enter Tryz.func23, Tryz.ntmps23
  go_upto_region 1 with fail
  refine wp_world HW1.out ?_
  clear HW1
  go_upto_region 5 with (first | (go_at_call 60; refine (HCK.out _).mono ?_; rintro e w2 ⟨rfl, rfl⟩))
  refine wp_world HW4.out ?_
  clear HW4
  go_wp2_with (first | (refine Sb.wpList_load_Row rfl 30 _ rfl w.heap.size rfl 30 _ hr4 _ Tryz.underlying30 rfl 32 info39 HVL.out ?_; simp only [Act.put, List.setIfInBounds_toArray, List.set_cons_zero, List.set_cons_succ]) | (refine Nd.wpList_build rfl 114 _ rfl #[(1, .int .i64 3), (2, .agg V.toArray)] (by simp only [List.map_toArray, List.map_cons, List.map_nil]; rfl) _ (HBD.out _) ?_; simp only [Act.put, List.setIfInBounds_toArray, List.set_cons_zero, List.set_cons_succ]) | ((with_reducible refine Nd.wpList_slice29 E HEL ?hx ?_); (case hx => rfl); simp only [Act.put, List.setIfInBounds_toArray, List.set_cons_zero, List.set_cons_succ]; rw [HW5.out]) | (go_at_call 61; refine HLA.out.mono ?_; rintro e w6 ⟨rfl, ov', hC6, hb6⟩; have HC6 := hid_in hC6; have HB6 := hid_in hb6; clear hC6 hb6))
  go_ret2
  exact ⟨_, _, _, _, rfl, HC6.out, HB5.out.trans HB6.out⟩
end Go.Proofs.YtamaejlbojbbeaaGreatDoor.Tr
namespace Go.Proofs.YtamaejlbojbbeaaGreatDoor.Tr
open Go.RowKit
open Sb (hid_in Row Sl T5 BL u8v Tab wp_world grownBy_setCell below_of_grown info39 one_u8 splice_all rowOf rowOf_row St Bs Kp)
theorem od_range {B : Nat} {W : World} {ov : Value} {x : List Nat × Int} (h : Od B W ov [x]) : ∃ b off cap, ov = .slice (some ⟨b, off, none⟩) 1 cap ∧ b < W.heap.size ∧ W.rangeAt b off (pcells x) := by
  rcases h with ⟨_, h⟩ | ⟨b, off, cap, cur, rfl, _, h2, _, _, h5⟩
  · cases h
  · refine ⟨b, off, cap, rfl, (Array.getElem?_eq_some_iff.1 h2).1, fun j v hv => ?_⟩
    rw [cell_of_row _ _ _ _ _ _ h2]
    exact h5 j v (by simpa using hv)
set_option maxHeartbeats 2000000 in
set_option maxRecDepth 100000 in
theorem want_one {B : Nat} {w : World} {c gs ms lm wm : Nat} {ov : Value} {M : List Nat → Option (List Nat)} {n : Nat} {q u : Int} {x : List Nat × Int} {Lk : List (List Nat × Int)} (h : Cs B w c gs ms lm wm ov M n q u [x] Lk) (D : List Value) (HD : Hid (D = x.1.map u8v)) :
    Calls Tryz.prog 33 #[.pointer (some ⟨c, 0, none⟩), .int .i64 9] w fun e w' => ∃ b cap, e = .returned (.slice (some ⟨b, 0, none⟩) 1 cap) ∧ w'.ownsRow w.heap.size 30 32 (.slice (some ⟨b, 0, none⟩) 1 cap) 1 D ∧ Below w.heap.size w w' := by
  have hx : PG x := h.ok x (by simp)
  obtain ⟨X, HX⟩ : ∃ X, Hid (X = pcells x) := ⟨_, hid_in rfl⟩
  have HDL : Hid (D.length = 32) := hid_in (by rw [HD.out, List.length_map]; exact hx)
  have HD1 : Hid (∀ v ∈ D, v.oneCell' = true) := hid_in (by rw [HD.out]; exact one_u8 _)
  have HXL : Hid (X.length = 33) := hid_in (by rw [HX.out]; exact pcells_len hx)
  have HX1 : Hid (∀ v ∈ X, v.oneCell' = true) := hid_in (by rw [HX.out]; exact pcells_one _)
  have HXD : Hid (X = D ++ [Value.int .i64 x.2]) := hid_in (by rw [HX.out, HD.out]; rfl)
  obtain ⟨i30, z30, hi, hs, hb, hz, hzc⟩ := info30h
  obtain ⟨b, off, cap, hov, hbl, hrg⟩ := od_range h.od
  have c3 : w.cell? ⟨c, 3, none⟩ = some (.slice (some ⟨b, off, none⟩) 1 cap) := by rw [← hov]; exact h.row.cell 3
  rw [← HX.out] at hrg
  obtain ⟨w1, HW1⟩ : ∃ w1, Hid (w.alloc (.map #[] 0) = w1) := ⟨_, hid_in rfl⟩
  have hb1 : Below w.heap.size w w1 := by rw [← HW1.out]; exact (Below.refl _ _).alloc (Nat.le_refl _) _
  have hm1 : MapI Sb.dv (fun d => d.length = 32) w1 w.heap.size (fun _ => none) 0 := by rw [← HW1.out]; exact MapI.new _ _ w
  have c31 := (hb1.cell (p := ⟨c, 3, none⟩) h.row.lt).trans c3
  have HRG := hid_in (Nd.rangeAt_below hrg hb1 hbl)
  have HCW := hid_in (h.cw.below hb1)
  have HM1 := hid_in hm1
  have HB1 := hid_in hb1
  have HPG := hid_in hx
  have HDV : Hid (Sb.dv x.1 = .agg D.toArray) := hid_in (by rw [HD.out]; rfl)
  clear h hov hbl hrg c3 hb1 hm1 hx
  have hmm : ∀ w', (Instr.makeMap 150 none).run Tryz.prog w' = .ok (.map (some w'.heap.size)) (w'.alloc (.map #[] 0)) := fun w' => run_makeMap 150 w'
  go_enter Tryz.func33, Tryz.ntmps33
  go_upto_region 5 with fail
  refine wp_world HW1.out ?_
  clear HW1 hmm
  go_wp2_with fail
  refine wp_loop_rounds 2 ?_
  rw [rounds_succ]
  go_upto_region 9 with (first | (refine wpList_load_mid rfl 140 _ rfl b _ rfl X _ HRG.out Tryz.underlying140 rfl (by rw [info140, HXL.out]) ?_) | (refine Nd.wpList_store_new rfl rfl 140 33 _ _ rfl _ X info140 rfl HXL HX1 rfl rfl ?_; intro w5 hr5 hb5 hs5; have HR5 := hid_in hr5; have HB5 := hid_in hb5; clear hr5 hb5 hs5))
  obtain ⟨w6, HW6⟩ : ∃ w6, Hid (w5.alloc (.cells #[] 151) = w6) := ⟨_, hid_in rfl⟩
  have hb6 : Below w5.heap.size w5 w6 := by rw [← HW6.out]; exact (Below.refl _ _).alloc (Nat.le_refl _) _
  have b16 := HB5.out.trans (hb6.mono HB5.out.size)
  have hm5 := HM1.out.of_block (HB5.out.block _ HM1.out.lt)
  have hr6 := HR5.out.below hb6 HR5.out.lt
  have HRD5 : Hid (w5.rangeAt w1.heap.size 0 D) := hid_in (by have := range_row HR5.out; rw [HXD.out] at this; exact range_left this)
  have hlk : (Instr.lookup 150 (.map (some w.heap.size)) (.agg D.toArray) true).run Tryz.prog w5 = .ok (.tuple #[.agg #[], .bool false]) w5 := by
    have := hm5.look keyDigest 150 151 Tryz.underlying150 (.agg #[]) (Sb.zero100 _) x.1 HPG.out
    rw [HDV.out] at this
    exact this
  have HWA := hid_in (wants_any (HCW.out.below b16) x HPG.out X HX true (by simp))
  have HM6 := hid_in (hm5.of_block (hb6.block _ hm5.lt))
  have HR6 := hid_in hr6
  have HB16 := hid_in b16
  clear hm5 hr6 hb6 b16 c31
  go_upto_region 10 with (first | (refine wpList_load_mid rfl 30 _ rfl w1.heap.size _ rfl D _ HRD5.out Tryz.underlying30 rfl (by rw [info39, HDL.out]) ?_))
  refine wp_world HW6.out ?_
  clear HW6 hlk HRD5
  go_upto_region 11 with (first | (refine Sb.wpList_load_RowG (by rfl) 140 _ rfl w1.heap.size rfl 140 _ HR6.out _ Tryz.underlying140 rfl 33 info140 HXL.out ?_) | (go_at_call 77; refine HWA.out.mono ?_; rintro e w7 ⟨rfl, hb7⟩; have HB7 := hid_in hb7; clear hb7))
  obtain ⟨w8, hmu, hm8, hg8, hs8⟩ := (HM6.out.of_block (HB7.out.block _ HM6.out.lt)).store keyDigest 150 151 Tryz.underlying150 x.1 HPG.out (.agg #[])
  rw [HDV.out] at hmu
  have hr7 := HR6.out.below HB7.out HR6.out.lt
  have HRD7 : Hid (w7.rangeAt w1.heap.size 0 D) := hid_in (by have := range_row hr7; rw [HXD.out] at this; exact range_left this)
  obtain ⟨es6, cl6, hmm6, _⟩ := HM6.out.of_block (HB7.out.block _ HM6.out.lt)
  have hr8 := hr7.grown hg8 (fun e => row_ne_map hr7 hmm6 (Option.some.inj e))
  have HRD8 : Hid (w8.rangeAt w1.heap.size 0 D) := hid_in (by have := range_row hr8; rw [HXD.out] at this; exact range_left this)
  have b17 : Below w1.heap.size w1 w7 := HB16.out.trans (HB7.out.mono HB16.out.size)
  have HB8 : Hid (Below w.heap.size w w8) := hid_in (by
    refine (HB1.out.trans (b17.mono HB1.out.size)).trans ⟨hg8.os, hg8.tape, hg8.output, hg8.size, fun j hj => hg8.block j (by have := HB1.out.size; have := b17.size; omega) (fun e => ?_)⟩
    have h7 : j = w.heap.size := Option.some.inj e
    omega)
  clear hm8 hg8 hs8 hr7 hr8 hmm6 b17
  go_upto_region 12 with (first | (refine wpList_load_mid rfl 30 _ rfl w1.heap.size _ rfl D _ HRD7.out Tryz.underlying30 rfl (by rw [info39, HDL.out]) ?_))
  clear hmu HRD7
  have hnb : w.heap.size ≤ (w8.alloc (.cells D.toArray 30)).heap.size := by have := HB8.out.size; simp; omega
  have HNB := hid_in hnb
  have HNW := hid_in (World.news_of_block (heap_alloc_new w8 (.cells D.toArray 30)))
  clear hnb
  go_upto_region 13 with (first | (refine wpList_load_mid rfl 30 _ rfl w1.heap.size _ rfl D _ HRD8.out Tryz.underlying30 rfl (by rw [info39, HDL.out]) ?_; simp only [Act.put, List.setIfInBounds_toArray, List.set_cons_zero, List.set_cons_succ]) | ((with_reducible refine Nd.wpList_slice1 rfl 48 _ rfl _ _ _ ?hx (Nd.slice28 D HDL.out _) ?_); (case hx => rfl); simp only [Act.put, List.setIfInBounds_toArray, List.set_cons_zero, List.set_cons_succ]) | (at_builtin; refine wpList_append_lies _ rfl (.tmp 45) (.tmp 48) 48 rfl w.heap.size 30 i30 z30 32 32 Tryz.underlying48 hi.out hz.out hs.out hb.out hzc.out (by decide) (.slice none 0 0) 0 [] rfl (World.ownsRow_nil _ _ _ _) ⟨w8.heap.size, 0, none⟩ 1 1 D rfl (by rw [HDL.out]) HNW.out HD1.out (by decide) (by decide) (by decide) HNB.out _ rfl ?_; intro g cap9 w9 hown hgr hat hlt; have HOWN := hid_in hown; have HGR := hid_in hgr; clear hown hgr hat hlt))
  go_wp2_with fail
  rw [rounds_succ]
  go_wp2
  go_ret
  refine ⟨g, cap9, rfl, by simpa using HOWN.out, ?_⟩
  exact HB8.out.trans (((Below.refl w8.heap.size w8).alloc (Nat.le_refl _) _).mono HB8.out.size |>.trans ⟨HGR.out.os, HGR.out.tape, HGR.out.output, HGR.out.size, fun k hk => HGR.out.block k (by have := HNB.out; omega) (by simp [Value.ownBlock])⟩)
end Go.Proofs.YtamaejlbojbbeaaGreatDoor.Tr
namespace Go.Proofs.YtamaejlbojbbeaaGreatDoor.Tr
open Go.RowKit
open Sb (hid_in Row Sl T5 BL u8v Tab wp_world grownBy_setCell below_of_grown info39 one_u8 splice_all rowOf rowOf_row St Bs Kp)
theorem PW.len {W : World} {m : Nat} {S : List (List Nat × Int)} (h : PW W m S) (ty : TypeId) : (Builtin.len_ #[121] ty #[.map (some m)]).run Tryz.prog W = .ok (.int .i64 (S.length : Int)) W := by
  obtain ⟨V, hV, _⟩ := h
  exact hV.len 140 121 151 Tryz.underlying121 ty
theorem done_no {B : Nat} {w : World} {c gs ms lm wm : Nat} {ov : Value} {M : List Nat → Option (List Nat)} {n : Nat} {q u : Int} {x : List Nat × Int} {Lk : List (List Nat × Int)} (h : Cs B w c gs ms lm wm ov M n q u [x] Lk) :
    Calls Tryz.prog 35 #[.pointer (some ⟨c, 0, none⟩)] w fun e w' => e = .returned (.bool false) ∧ w' = w := by
  have c2 : w.cell? ⟨c, 2, none⟩ = some (.map (some wm)) := h.row.cell 2
  have c4 : w.cell? ⟨c, 4, none⟩ = some (.bool false) := h.row.cell 4
  have hl := fun ty => h.wt.len ty
  simp only [List.length_cons, List.length_nil] at hl
  clear h
  go_enter Tryz.func35, Tryz.ntmps35
  go_wp2
  go_ret
  exact ⟨rfl, rfl⟩
theorem done_yes {B : Nat} {w : World} {c gs ms lm wm : Nat} {ov : Value} {M : List Nat → Option (List Nat)} {n : Nat} {q u : Int} {Lk : List (List Nat × Int)} (h : Cs B w c gs ms lm wm ov M n q u [] Lk) :
    Calls Tryz.prog 35 #[.pointer (some ⟨c, 0, none⟩)] w fun e w' => e = .returned (.bool true) ∧ w' = w := by
  have c2 : w.cell? ⟨c, 2, none⟩ = some (.map (some wm)) := h.row.cell 2
  have c4 : w.cell? ⟨c, 4, none⟩ = some (.bool false) := h.row.cell 4
  have hl := fun ty => h.wt.len ty
  simp only [List.length_nil] at hl
  clear h
  go_enter Tryz.func35, Tryz.ntmps35
  go_wp2
  go_ret
  exact ⟨rfl, rfl⟩
set_option maxHeartbeats 2000000 in
set_option maxRecDepth 100000 in
theorem offer_foreign {w : World} {c wm : Nat} {v0 v1 v3 v4 : Value} {T : List (List Nat × Int)} (h : Cw w c wm v0 v1 v3 v4 T) (htab : Tab w) (bs : List Nat) (p : Option Addr) (b off cap : Nat) (hs : Sl w p bs cap b off) (hl : bs.length < 1152921504606846000) (hn : wantL T (Sb.Sha.sum bs) 3 = []) :
    Calls Tryz.prog 27 #[.pointer (some ⟨c, 0, none⟩), .slice p bs.length cap] w fun e w' => e = .returned (.int .i64 80) ∧ Below w.heap.size w w' := by
  obtain ⟨V, HV⟩ : ∃ V, Hid (V = (Sb.Sha.sum bs).map u8v) := ⟨_, hid_in rfl⟩
  obtain ⟨Z, hz, hzl⟩ := Sb.zero39
  have HZL := hid_in hzl
  have HVL : Hid (V.length = 32) := hid_in (by rw [HV.out, List.length_map, Sb.sum_length])
  have HV1 : Hid (∀ v ∈ V, v.oneCell' = true) := hid_in (by rw [HV.out]; exact one_u8 _)
  have HSM := hid_in (Sb.sum_V bs V HV p b off cap w htab hs hl)
  have HWB := hid_in (fun W (hW : Below w.heap.size w W) => wantedBy_any (h.below hW) (Sb.Sha.sum bs) (Sb.sum_length _) V HV)
  rw [hn] at HWB
  simp only [List.length_nil, List.map_nil, List.flatten_nil] at HWB
  obtain ⟨bn, Hbn⟩ : ∃ bn, Hid (bs.length = bn) := ⟨_, hid_in rfl⟩
  rw [Hbn.out] at HSM ⊢
  clear h htab hs hl hn hzl
  go_enter Tryz.func27, Tryz.ntmps27
  go_upto_region 5 with (first | (go_at_call 65; refine HSM.out.mono ?_; rintro e w2 ⟨rfl, hb2⟩; have HB2 := hid_in hb2; clear hb2) | (refine Sb.wpList_store_new rfl _ _ rfl Z V HZL HVL HV1 rfl rfl ?_; intro w3 hr3 hb3; have HB3 := hid_in (HB2.out.trans (hb3.mono HB2.out.size)); clear hb3) | (refine Sb.wpList_load_Row rfl 30 _ rfl w2.heap.size rfl 30 _ hr3 _ Tryz.underlying30 rfl 32 info39 HVL.out ?_) | (go_at_call 66; refine (HWB.out _ HB3.out).mono ?_; rintro e w4 ⟨v, rfl, hown, hb4⟩; obtain ⟨qq, cc, rfl⟩ := own_shape hown; have HB4 := hid_in hb4; clear hb4 hown))
  go_wp2
  go_ret
  exact ⟨rfl, HB3.out.trans (HB4.out.mono HB3.out.size)⟩
end Go.Proofs.YtamaejlbojbbeaaGreatDoor.Tr
