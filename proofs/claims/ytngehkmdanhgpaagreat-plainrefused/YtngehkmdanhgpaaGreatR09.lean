/-
  The walk of the reference's Insert: a file where its path belongs. Files of two lists that read as the same files. A row of paths of the call's own; one more path behind it.
-/
import Derived.Lib.SlBytesConst
import Derived.Laws.CopyOwn
import Derived.Deep.RegionLaw
import Derived.Deep.DrawnRows
import Derived.Lib.AppendZeros
import Derived.Laws.Tables
import Derived.Test.YtngehkmdanhgpaaGreatR00
import Derived.Test.YtngehkmdanhgpaaGreatR01
import Derived.Test.YtngehkmdanhgpaaGreatR02
import Derived.Test.YtngehkmdanhgpaaGreatR03
import Derived.Test.YtngehkmdanhgpaaGreatR04
import Derived.Test.YtngehkmdanhgpaaGreatR05
import Derived.Test.YtngehkmdanhgpaaGreatR06
import Derived.Test.YtngehkmdanhgpaaGreatR07
import Derived.Test.YtngehkmdanhgpaaGreatR08
namespace Go.Proofs.YtngehkmdanhgpaaGreat.Rf
open Go.RowKit
open Vp (Str B bl Val cmpL parseS showS)
/-- does the one come ahead of the other? -/
def ahead (g f : Fil) : Prop := cmpL (nmsOf g.path) (nmsOf f.path) < 0
instance (g f : Fil) : Decidable (ahead g f) := by unfold ahead; infer_instance
theorem fls_one (w : World) (f : Fil) : Fls (w.alloc (.cells #[.string f.path, .bool f.dir, .string f.data] 48)) (.slice (some ⟨w.heap.size, 0, none⟩) 1 1) [f] := by
  have hr := Nd.Row.new w [.string f.path, .bool f.dir, .string f.data] 48
  refine ⟨_, 1, w.heap.size, 0, rfl, by simp, by omega, fun _ => ⟨rfl, by simp⟩, fun j u hj => ?_, fun e => by cases e⟩
  rw [Nat.zero_add, hr.cell]
  simpa [fcells, Fil.cells] using hj
theorem Fls.path {w : World} {v : Value} {fs : List Fil} {i : Nat} {g : Fil} (h : Fls w v fs) (hi : fs[i]? = some g) : ∃ b o cap, v = .slice (some ⟨b, o, none⟩) fs.length cap ∧ w.cell? ⟨b, o + i * 3, none⟩ = some (.string g.path) := by
  obtain ⟨p, cap, b, o, h1, h2, h3, h4, h5, h6⟩ := h
  have hne : fs ≠ [] := by rintro rfl; simp at hi
  obtain ⟨rfl, _⟩ := h4 hne
  exact ⟨b, o, cap, h1, h5 _ _ (fcells_at hi 0 _ rfl)⟩
theorem FO.mono {w : World} {B B' : Nat} {v : Value} {fs : List Fil} (h : FO w B v fs) (hb : B' ≤ B) : FO w B' v fs := by
  obtain ⟨h1, h2 | ⟨g, cap, cur, hv, hB, r⟩⟩ := h
  · exact ⟨h1, .inl h2⟩
  · exact ⟨h1, .inr ⟨g, cap, cur, hv, Nat.le_trans hb hB, r⟩⟩
theorem FO.step {w w' a : World} {B : Nat} {v : Value} {fs : List Fil} (h : FO w B v fs) (hb : Below B a w) (hB : B ≤ w.heap.size) (hg : w.grownBy w' v.ownBlock) : Below B a w' :=
  hb.grown hg hB (fun k e => (Nd.own_geK h k e).1)
end Go.Proofs.YtngehkmdanhgpaaGreat.Rf
namespace Go.Proofs.YtngehkmdanhgpaaGreat.Rf
open Go.RowKit
open Nd (take_put)
theorem info81 : (Tryz.prog.info? 48).map (·.size) = some 3 := by kernel_rfl
theorem below_drew (w : World) : Below w.heap.size w w.drew := (Below.refl _ _).drew
theorem Fls.range {w : World} {b o : Nat} {fs : List Fil} (h : ∀ j u, (fcells fs)[j]? = some u → w.cell? ⟨b, o + j, none⟩ = some u) (i : Nat) (f : Fil) (hi : fs[i]? = some f) : w.rangeAt b (o + i * 3) f.cells := fun j u hj => by
  rw [Nat.add_assoc]
  exact h _ _ (fcells_at hi j u hj)
theorem eq81 (f : Fil) (w : World) : (Op.equalIn 10000 48 (.agg f.cells.toArray) (.agg f.cells.toArray)).run Tryz.prog w = .ok true w := by
  have hst : Tryz.prog.stoodInHeld 48 = false := by kernel_rfl
  have p0 : (part 9 f.cells.toArray 0).run Tryz.prog w = .ok (.string f.path) w := by kernel_rfl
  have p1 : (part 4 f.cells.toArray 1).run Tryz.prog w = .ok (.bool f.dir) w := by kernel_rfl
  have p2 : (part 9 f.cells.toArray 2).run Tryz.prog w = .ok (.string f.data) w := by kernel_rfl
  have e9 : ∀ s : ByteArray, (Op.equalIn 9999 9 (.string s) (.string s)).run Tryz.prog w = .ok true w := fun s => by
    show (Op.equalIn (9998 + 1) 9 (.string s) (.string s)).run Tryz.prog w = .ok true w
    rw [Op.equalIn]
    simp [Sem.run_bind, run_underlying Tryz.underlying9, Result.andThen, Sem.run_pure]
    exact (Nd.ba_beq s s).2 rfl
  have e4 : ∀ s : Bool, (Op.equalIn 9999 4 (.bool s) (.bool s)).run Tryz.prog w = .ok true w := fun s => by
    show (Op.equalIn (9998 + 1) 4 (.bool s) (.bool s)).run Tryz.prog w = .ok true w
    rw [Op.equalIn]
    simp [Sem.run_bind, run_underlying Tryz.underlying4, Result.andThen, Sem.run_pure]
  show (Op.equalIn (9999 + 1) 48 (.agg f.cells.toArray) (.agg f.cells.toArray)).run Tryz.prog w = .ok true w
  rw [Op.equalIn]
  simp only [Sem.run_bind, run_underlying Tryz.underlying48, Result.andThen_ok]
  simp [hst, p0, p1, p2, e9, e4, Result.andThen, Sem.run_bind, Sem.run_pure]
set_option maxHeartbeats 2000000 in
set_option maxRecDepth 100000 in
theorem files_same (fs : List Fil) (va vb : Value) (w : World) (ha : Fls w va fs) (hb : Fls w vb fs) :
    Calls Tryz.prog 12 #[va, vb] w fun e w' => e = .returned (.bool true) ∧ Below w.heap.size w w' := by
  obtain ⟨p1, c1, b1, o1, rfl, h11, h12, h13, h14', _⟩ := ha
  have h14 := Fls.range h14'
  obtain ⟨p2, c2, b2, o2, rfl, h21, h22, h23, h24', _⟩ := hb
  have h24 := Fls.range h24'
  have HEL : Hid (∀ (i : Nat) f, fs[i]? = some f → p1 = some ⟨b1, o1, none⟩ ∧ p2 = some ⟨b2, o2, none⟩ ∧ ∀ W, Below w.heap.size w W → W.rangeAt b1 (o1 + i * 3) f.cells ∧ W.rangeAt b2 (o2 + i * 3) f.cells) := hid_in (fun i f hi => by
    have hne : fs ≠ [] := by rintro rfl; simp at hi
    exact ⟨(h13 hne).1, (h23 hne).1, fun W hW => ⟨Nd.rangeAt_below (h14 i f hi) hW (h13 hne).2, Nd.rangeAt_below (h24 i f hi) hW (h23 hne).2⟩⟩)
  obtain ⟨N, HN⟩ : ∃ N, Hid (fs.length = N) := ⟨_, hid_in rfl⟩
  rw [HN.out]
  have HNL : Hid (N ≤ 9223372036854775807) := hid_in (by rw [← HN.out]; omega)
  clear h11 h12 h13 h14 h14' h21 h22 h23 h24 h24'
  go_enter Tryz.func12, Tryz.ntmps12
  go_upto_region 4 with fail
  go_loopw [5] (fun vi W => ∃ i : Nat, i ≤ N ∧ vi = .int .i64 (i : Int) ∧ Hid (Below w.heap.size w W)) (fun vi _ => N - (intOf vi).toNat)
  case atStart => exact ⟨0, by omega, rfl, hid_in (Below.refl _ _)⟩
  case round =>
    obtain ⟨i, hi, rfl, hbw⟩ := hrel
    by_cases hlt : i < N
    · obtain ⟨f, hf⟩ : ∃ f, fs[i]? = some f := ⟨_, List.getElem?_eq_getElem (by rw [HN.out]; exact hlt)⟩
      obtain ⟨rfl, rfl, hW⟩ := HEL.out i f hf
      obtain ⟨X, HX⟩ : ∃ X, Hid (X = f.cells) := ⟨_, hid_in rfl⟩
      have HXL : Hid (X.length = 3) := hid_in (by rw [HX.out]; rfl)
      have heq : ∀ W, (Op.equalIn 10000 48 (.agg X.toArray) (.agg X.toArray)).run Tryz.prog W = .ok true W := fun W => by rw [HX.out]; exact eq81 f W
      have HBD : Hid (Below w.heap.size w wr.drew) := hid_in (hbw.out.trans ((below_drew wr).mono hbw.out.size))
      have HK : Hid (wr.drew.rangeAt b1 (o1 + i * 3) X ∧ wr.drew.rangeAt b2 (o2 + i * 3) X) := hid_in (by rw [HX.out]; exact hW _ HBD.out)
      have hlt2 : (i : Int) < (N : Int) := by omega
      have HIL := hid_in hlt
      have hN : (N : Int) ≤ 9223372036854775807 := by have := HNL.out; omega
      clear hW hf hi hlt
      go_upto_region 6 with fail
      refine wp_region_held_drew (S := fun W' => W'.rangeAt b1 (o1 + i * 3) X ∧ W'.rangeAt b2 (o2 + i * 3) X) (by kernel_rfl) HK.out (fun hHeld => ?_)
      refine take_put (i := 0) (d := 17) (v := ?_) rfl rfl (by kernel_rfl) (by kernel_rfl) (by kernel_rfl) (fun _ _ _ h => h) (Or.inl ⟨by kernel_rfl, ?_⟩) hHeld ?_
      rotate_left
      · (intro w hSw; (try dsimp only at hSw); go_simp; (try with_reducible rfl))
      simp only [Act.put, List.setIfInBounds_toArray, List.set_cons_zero, List.set_cons_succ]
      refine take_put (i := 1) (d := 18) (v := ?_) rfl rfl (by kernel_rfl) (by kernel_rfl) (by kernel_rfl) (fun _ _ _ h => h) (Or.inl ⟨by kernel_rfl, ?_⟩) hHeld ?_
      rotate_left
      · (intro w hSw; (try dsimp only at hSw); go_simp; (try with_reducible rfl))
      simp only [Act.put, List.setIfInBounds_toArray, List.set_cons_zero, List.set_cons_succ]
      refine take_put (i := 2) (d := 19) (v := ?_) rfl rfl (by kernel_rfl) (by kernel_rfl) (by kernel_rfl) (fun _ _ _ h => h) (Or.inl ⟨by kernel_rfl, ?_⟩) hHeld ?_
      rotate_left
      · (intro w hSw; (try dsimp only at hSw); go_simp; (try with_reducible rfl))
      simp only [Act.put, List.setIfInBounds_toArray, List.set_cons_zero, List.set_cons_succ]
      refine take_put (i := 3) (d := 20) (v := .agg X.toArray) rfl rfl (by kernel_rfl) (by kernel_rfl) (by kernel_rfl) (fun _ _ _ h => h) (yieldsIf_load_mid (by rfl) 48 _ rfl _ _ rfl X _ (fun w hSw => hSw.1) Tryz.underlying48 rfl (by rw [info81, HXL.out])) hHeld ?_
      simp only [Act.put, List.setIfInBounds_toArray, List.set_cons_zero, List.set_cons_succ]
      refine take_put (i := 4) (d := 21) (v := ?_) rfl rfl (by kernel_rfl) (by kernel_rfl) (by kernel_rfl) (fun _ _ _ h => h) (Or.inl ⟨by kernel_rfl, ?_⟩) hHeld ?_
      rotate_left
      · (intro w hSw; (try dsimp only at hSw); go_simp; (try with_reducible rfl))
      simp only [Act.put, List.setIfInBounds_toArray, List.set_cons_zero, List.set_cons_succ]
      refine take_put (i := 5) (d := 22) (v := ?_) rfl rfl (by kernel_rfl) (by kernel_rfl) (by kernel_rfl) (fun _ _ _ h => h) (Or.inl ⟨by kernel_rfl, ?_⟩) hHeld ?_
      rotate_left
      · (intro w hSw; (try dsimp only at hSw); go_simp; (try with_reducible rfl))
      simp only [Act.put, List.setIfInBounds_toArray, List.set_cons_zero, List.set_cons_succ]
      refine take_put (i := 6) (d := 23) (v := ?_) rfl rfl (by kernel_rfl) (by kernel_rfl) (by kernel_rfl) (fun _ _ _ h => h) (Or.inl ⟨by kernel_rfl, ?_⟩) hHeld ?_
      rotate_left
      · (intro w hSw; (try dsimp only at hSw); go_simp; (try with_reducible rfl))
      simp only [Act.put, List.setIfInBounds_toArray, List.set_cons_zero, List.set_cons_succ]
      refine take_put (i := 7) (d := 24) (v := .agg X.toArray) rfl rfl (by kernel_rfl) (by kernel_rfl) (by kernel_rfl) (fun _ _ _ h => h) (yieldsIf_load_mid (by rfl) 48 _ rfl _ _ rfl X _ (fun w hSw => hSw.2) Tryz.underlying48 rfl (by rw [info81, HXL.out])) hHeld ?_
      simp only [Act.put, List.setIfInBounds_toArray, List.set_cons_zero, List.set_cons_succ]
      refine take_put (i := 8) (d := 25) (v := .bool false) rfl rfl (by kernel_rfl) (by kernel_rfl) (by kernel_rfl) (fun _ _ _ h => h) (Or.inl ⟨by kernel_rfl, fun w hSw => ?_⟩) hHeld ?_
      · (go_simp)
      simp only [Act.put, List.setIfInBounds_toArray, List.set_cons_zero, List.set_cons_succ]
      refine wpAnyH_done (by kernel_rfl) ?_ _
      clear heq HK
      go_wp2
      go_roundw
      case rel => exact ⟨i + 1, by have := HIL.out; omega, by go_num, HBD⟩
      case measure => have := HIL.out; simp [intOf]; omega
    · obtain rfl : N = i := by omega
      clear hi hlt
      go_wp2
      go_ret
      exact ⟨rfl, hbw.out⟩
end Go.Proofs.YtngehkmdanhgpaaGreat.Rf
namespace Go.Proofs.YtngehkmdanhgpaaGreat.Rf
open Go.RowKit
open Vp (Str B bl Val cmpL parseS showS sv)
/-- names in a row of their own -/
def Nm (w : World) (v : Value) (xs : List Str) : Prop := w.ownsRow 0 9 1 v xs.length (xs.map sv)
theorem own0 {w : World} {base n size : Nat} {e : TypeId} {v : Value} {xs : List Value} (h : w.ownsRow base e size v n xs) : w.ownsRow 0 e size v n xs := by
  refine ⟨h.1, ?_⟩
  rcases h.2 with h | ⟨g, cap, cur, h1, _, h3⟩
  · exact .inl h
  · exact .inr ⟨g, cap, cur, h1, Nat.zero_le _, h3⟩
theorem Nm.of {w : World} {base : Nat} {v : Value} {xs : List Str} (h : Vp.Nms w base v xs) : Nm w v xs := own0 h
theorem Nm.val {w : World} {v : Value} {xs : List Str} (h : Nm w v xs) : Val w v xs := Vp.Nms.val (base := 0) h
theorem Nm.below {w w' : World} {v : Value} {xs : List Str} (h : Nm w v xs) (hb : Below w.heap.size w w') : Nm w' v xs := Nd.own_belowK h hb
theorem Nm.form {w : World} {v : Value} {xs : List Str} (h : Nm w v xs) : ∃ p c, v = .slice p xs.length c := Vp.Nms.shape (base := 0) h
/-- what grows in a row of another type leaves names as they are -/
theorem Nm.grown {w w' : World} {v r : Value} {xs : List Str} {B n : Nat} {us : List Value} (h : Nm w v xs) (ho : w.ownsRow B 35 1 r n us) (hg : w.grownBy w' r.ownBlock) : Nm w' v xs := by
  obtain ⟨h1, h2 | ⟨g, cap, cur, rfl, hB, hh, rest⟩⟩ := h
  · exact ⟨h1, .inl h2⟩
  · refine ⟨h1, .inr ⟨g, cap, cur, rfl, hB, ?_, rest⟩⟩
    have hlt : g < w.heap.size := (Array.getElem?_eq_some_iff.1 hh).1
    rw [hg.block g hlt (fun e => ?_)]
    · exact hh
    · obtain ⟨_, ⟨rfl, _⟩ | ⟨g', cap', cur', rfl, _, hh', _⟩⟩ := ho
      · cases e
      · have e2 : g = g' := by simpa [Value.ownBlock] using e
        subst e2
        rw [hh] at hh'
        simp at hh'
/-- a row of paths of the call's own -/
def PO (w : World) (B : Nat) (v : Value) (ps : List (List Str)) : Prop := ∃ us : List Value, us.length = ps.length ∧ w.ownsRow B 35 1 v ps.length us ∧ ∀ (i : Nat) x, ps[i]? = some x → ∃ u, us[i]? = some u ∧ Nm w u x
theorem PO.nil (w : World) (B : Nat) : PO w B (.slice none 0 0) [] := ⟨[], rfl, World.ownsRow_nil _ _ _ _, fun i x h => by simp at h⟩
theorem PO.below {w w' : World} {B : Nat} {v : Value} {ps : List (List Str)} (h : PO w B v ps) (hb : Below w.heap.size w w') : PO w' B v ps := by
  obtain ⟨us, h1, h2, h3⟩ := h
  refine ⟨us, h1, Nd.own_belowK h2 hb, fun i x hx => ?_⟩
  obtain ⟨u, h4, h5⟩ := h3 i x hx
  exact ⟨u, h4, h5.below hb⟩
theorem PO.own {w : World} {B : Nat} {v : Value} {ps : List (List Str)} (h : PO w B v ps) (k : Nat) (hk : v.ownBlock = some k) : B ≤ k ∧ k < w.heap.size := by
  obtain ⟨us, _, h2, _⟩ := h
  exact Nd.own_geK h2 k hk
end Go.Proofs.YtngehkmdanhgpaaGreat.Rf
