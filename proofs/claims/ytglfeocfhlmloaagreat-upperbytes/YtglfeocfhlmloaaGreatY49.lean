/-
  The walk of play: a script on both.
-/
import Derived.Deep.CutRange
import Derived.Laws.CopyOwn
import Derived.Shelf.SlMaps.Clone
import Derived.Deep.RegionLaw
import Derived.Deep.DrawnRows
import Derived.Laws.Tables
import Derived.Test.YtglfeocfhlmloaaGreatY00
import Derived.Test.YtglfeocfhlmloaaGreatY01
import Derived.Test.YtglfeocfhlmloaaGreatY02
import Derived.Test.YtglfeocfhlmloaaGreatY03
import Derived.Test.YtglfeocfhlmloaaGreatY04
import Derived.Test.YtglfeocfhlmloaaGreatY05
import Derived.Test.YtglfeocfhlmloaaGreatY06
import Derived.Test.YtglfeocfhlmloaaGreatY07
import Derived.Test.YtglfeocfhlmloaaGreatY08
import Derived.Test.YtglfeocfhlmloaaGreatY09
import Derived.Test.YtglfeocfhlmloaaGreatY10
import Derived.Test.YtglfeocfhlmloaaGreatY11
import Derived.Test.YtglfeocfhlmloaaGreatY12
import Derived.Test.YtglfeocfhlmloaaGreatY13
import Derived.Test.YtglfeocfhlmloaaGreatY14
import Derived.Test.YtglfeocfhlmloaaGreatY15
import Derived.Test.YtglfeocfhlmloaaGreatY16
import Derived.Test.YtglfeocfhlmloaaGreatY17
import Derived.Test.YtglfeocfhlmloaaGreatY18
import Derived.Test.YtglfeocfhlmloaaGreatY19
import Derived.Test.YtglfeocfhlmloaaGreatY20
import Derived.Test.YtglfeocfhlmloaaGreatY21
import Derived.Test.YtglfeocfhlmloaaGreatY22
import Derived.Test.YtglfeocfhlmloaaGreatY23
import Derived.Test.YtglfeocfhlmloaaGreatY24
import Derived.Test.YtglfeocfhlmloaaGreatY25
import Derived.Test.YtglfeocfhlmloaaGreatY26
import Derived.Test.YtglfeocfhlmloaaGreatY27
import Derived.Test.YtglfeocfhlmloaaGreatY28
import Derived.Test.YtglfeocfhlmloaaGreatY29
import Derived.Test.YtglfeocfhlmloaaGreatY30
import Derived.Test.YtglfeocfhlmloaaGreatY31
import Derived.Test.YtglfeocfhlmloaaGreatY32
import Derived.Test.YtglfeocfhlmloaaGreatY33
import Derived.Test.YtglfeocfhlmloaaGreatY34
import Derived.Test.YtglfeocfhlmloaaGreatY35
import Derived.Test.YtglfeocfhlmloaaGreatY36
import Derived.Test.YtglfeocfhlmloaaGreatY37
import Derived.Test.YtglfeocfhlmloaaGreatY38
import Derived.Test.YtglfeocfhlmloaaGreatY39
import Derived.Test.YtglfeocfhlmloaaGreatY40
import Derived.Test.YtglfeocfhlmloaaGreatY41
import Derived.Test.YtglfeocfhlmloaaGreatY42
import Derived.Test.YtglfeocfhlmloaaGreatY43
import Derived.Test.YtglfeocfhlmloaaGreatY45
import Derived.Test.YtglfeocfhlmloaaGreatY47
import Derived.Test.YtglfeocfhlmloaaGreatY48
namespace Go.Proofs.YtglfeocfhlmloaaGreat.Up
open Go.RowKit
open Vp (Str B bl Val cmpL parseS showS withinS IsPath checkS)
open Nd (take_put Row wp_world post_Row post_Row2 grownBy_setCell below_of_grown)
theorem fsa_ck {w w' : World} {g m : Nat} {N Z : Int} {A : List Ent} (h : FsA w g m N Z A) (hg : w.grownBy w' (some m)) : CK w w' := by
  obtain ⟨L, h1, _⟩ := h
  exact ck_map h1.map hg
theorem fsa_ref {w w' : World} {g m r : Nat} {N Z : Int} {A : List Ent} {N' Z' : Int} {es : List Ent} (h : FsA w g m N Z A) (hr : RU w r N' Z' es) (hg : w.grownBy w' (some r)) : FsA w' g m N Z A := by
  obtain ⟨L, h1, h2⟩ := h
  obtain ⟨v, hrow, _⟩ := hr.ex
  refine ⟨L, h1.grown hg (fun k e => ?_), h2⟩
  obtain rfl := Option.some.inj e
  unfold Row at hrow
  refine ⟨?_, ?_, fun cs fr e2 => ?_⟩
  · rintro rfl
    obtain ⟨es, clock, hb, _⟩ := h1.map.ex
    rw [hb] at hrow
    cases hrow
  · rintro rfl
    have h3 := h1.row
    unfold Row at h3
    rw [h3] at hrow
    cases hrow
  · rw [hrow] at e2
    cases e2
/-- both have the same -/
def PlayR (a : World) (g m r : Nat) (N Z : Int) (W : World) : Prop := ∃ A es, FsA W g m N Z A ∧ TreeA A ∧ OrdA A es ∧ RU W r N Z es ∧ Below a.heap.size a W
set_option maxHeartbeats 8000000 in
set_option maxRecDepth 100000 in
theorem play_any (a w : World) (g m r : Nat) (N Z : Int) (hP : PlayR a g m r N Z w) (hm : a.heap.size ≤ m) (hr : a.heap.size ≤ r) (ss : List Stp) (v : Value) (h : Stps a v ss) (hps : ∀ x ∈ ss, x.path.size ≤ 9223372036854775807) :
    Calls Tryz.prog 8 #[.pointer (some ⟨g, 0, none⟩), .pointer (some ⟨r, 0, none⟩), v] w fun e w' => e = .returned (.bool true) ∧ PlayR a g m r N Z w' := by
  obtain ⟨p, c, rfl, hl, hat⟩ := stps_at h
  have HAT := hid_in hat
  have HPS := hid_in hps
  have HM := hid_in hm
  have HR := hid_in hr
  have HP := hid_in hP
  have hM : (ss.length : Int) ≤ 9223372036854775807 := by omega
  generalize hn : ss.length = M at *
  have HNN := hid_in hn
  obtain ⟨K, HK⟩ : ∃ K, Hid (K = min M 200) := ⟨_, hid_in rfl⟩
  clear h hat hl hps hn hP hm hr
  go_enter Tryz.func8, Tryz.ntmps8
  go_wp2_with fail
  go_loopw [7] (fun vi W => ∃ i : Nat, i ≤ K ∧ vi = .int .i64 (i : Int) ∧ Hid (PlayR a g m r N Z W)) (fun vi _ => K - (intOf vi).toNat)
  case atStart => exact ⟨0, by omega, rfl, HP.out⟩
  case round =>
    obtain ⟨i, hi, rfl, hpr⟩ := hrel
    by_cases hlt : i < K
    · have hj1 : (i : Int) < (M : Int) := by have := HK.out; omega
      have hj2 : (i : Int) < 200 := by have := HK.out; omega
      have HLT := hid_in hlt
      have hlo : i < ss.length := by rw [HNN.out]; have := HK.out; omega
      obtain ⟨b, o, rfl, hcs⟩ := HAT.out (by intro e; rw [e] at hlo; simp at hlo)
      have HCS := hid_in (fun W (k : Below a.heap.size a W) => hcs W k i _ (List.getElem?_eq_getElem hlo))
      have hpx := HPS.out _ (List.getElem_mem hlo)
      obtain ⟨A, es, hF, hT, ho, hR, hb⟩ := hpr.out
      generalize ss[i] = x at *
      obtain ⟨xp, xk, xq, xd, xr, xv, xn⟩ := x
      simp only at HCS hpx
      obtain ⟨⟨np, nc, hnv⟩, -⟩ := HCS.out _ hb
      subst hnv
      have HXL := hid_in (rfl : xn.length = xn.length)
      generalize hxl : xn.length = xl at *
      obtain ⟨-, hval, a0, a1, a2, a3, a4, a5⟩ := HCS.out _ hb
      have hlA : A.length ≤ 100000 := by have := hT.len; omega
      have HT := hid_in hT
      have HO := hid_in ho
      have HTE := hid_in (hT.perm ho.1)
      have HGE : Hid (GoodL es) := hid_in (fun e he => ⟨(HTE.out.good e he).1, (HTE.out.good e he).2.1⟩)
      have HBD : Hid (Below a.heap.size a wr.drew) := hid_in hb.drew
      have hFd := hF.below (below_drew wr)
      have hRd := hR.below (below_drew wr)
      have HSTEP := hid_in (fun (W : World) (A' : List Ent) (hF4 : FsA W g m N Z A') (hg4 : wr.drew.grownBy W (some m)) => And.intro hF4 (And.intro (HBD.out.grown hg4 HBD.out.size (fun k e => by obtain rfl := Option.some.inj e; exact HM.out)) (And.intro (hRd.ck (fsa_ck hFd hg4)) trivial)))
      have HSTEP2 := hid_in (fun (W W' : World) (A' : List Ent) (hF4 : FsA W g m N Z A') (hb4 : Below a.heap.size a W) (hR4 : RU W r N Z es) (hg5 : W.grownBy W' (some r)) => And.intro (fsa_ref hF4 hR4 hg5) (hb4.grown hg5 hb4.size (fun k e => by obtain rfl := Option.some.inj e; exact HR.out)))
      rcases xr with _ | _
      · have HSP := hid_in (fun W (k : Below a.heap.size a W) => (by obtain ⟨-, -, h0, h1, h2, h3, -, -⟩ := HCS.out _ k; exact ⟨h0, h1, h2, h3⟩ : W.cell? ⟨b, o + i * 6, none⟩ = some (.string xp) ∧ W.cell? ⟨b, o + i * 6 + 1, none⟩ = some (.int .i64 xk) ∧ W.cell? ⟨b, o + i * 6 + 2, none⟩ = some (.bool xq) ∧ W.cell? ⟨b, o + i * 6 + 3, none⟩ = some (.string xd)))
        have HPU := hid_in (w_put hFd hlA xp xk xq xd hpx)
        have HRP : Hid (∀ W, RU W r N Z es → Calls Tryz.prog 20 #[.pointer (some ⟨r, 0, none⟩), .agg #[.string xp, .int .i64 xk, .bool xq, .string xd]] W fun e w' => PutP W r N Z es xp xk xq xd e w') := hid_in (fun W k => rput_any k HTE.out xp xk xq xd hpx)
        have HNX := hid_in (And.intro (tree_put HT.out xp xk xq xd) (ord_put HT.out HO.out xp xk xq xd))
        unfold PutP at HRP
        rw [putEA_perm HO.out.1 HT.out.nd] at HRP
        generalize putEA A xp xk xq xd = E at *
        generalize putU A xp xk xq xd = A2 at *
        generalize putO es xp xk xq xd = es2 at *
        clear hlo hcs hpx hF hT ho hR hb hpr hlt hi hval hlA hxl HXL a5 hFd hRd
        go_upto_region 7 with fail
        refine wp_region_held_drew (S := fun W => W.cell? ⟨b, o + i * 6, none⟩ = some (.string xp) ∧ W.cell? ⟨b, o + i * 6 + 1, none⟩ = some (.int .i64 xk) ∧ W.cell? ⟨b, o + i * 6 + 2, none⟩ = some (.bool xq) ∧ W.cell? ⟨b, o + i * 6 + 3, none⟩ = some (.string xd)) (by kernel_rfl) (HSP.out _ HBD.out) (fun hHeld => ?_)
        refine take_put (i := 0) (d := 38) (v := ?_) rfl rfl (by kernel_rfl) (by kernel_rfl) (by kernel_rfl) (fun _ _ _ h => h) (Or.inl ⟨by kernel_rfl, ?_⟩) hHeld ?_
        rotate_left
        · (intro w hSw; (try dsimp only at hSw); go_simp; (try with_reducible rfl))
        simp only [Act.put, List.setIfInBounds_toArray, List.set_cons_zero, List.set_cons_succ]
        refine take_put (i := 1) (d := 39) (v := ?_) rfl rfl (by kernel_rfl) (by kernel_rfl) (by kernel_rfl) (fun _ _ _ h => h) (Or.inl ⟨by kernel_rfl, ?_⟩) hHeld ?_
        rotate_left
        · (intro w hSw; (try dsimp only at hSw); go_simp; (try with_reducible rfl))
        simp only [Act.put, List.setIfInBounds_toArray, List.set_cons_zero, List.set_cons_succ]
        refine take_put (i := 2) (d := 40) (v := ?_) rfl rfl (by kernel_rfl) (by kernel_rfl) (by kernel_rfl) (fun _ _ _ h => h) (Or.inl ⟨by kernel_rfl, ?_⟩) hHeld ?_
        rotate_left
        · (intro w hSw; (try dsimp only at hSw); go_simp; (try with_reducible rfl))
        simp only [Act.put, List.setIfInBounds_toArray, List.set_cons_zero, List.set_cons_succ]
        refine take_put (i := 3) (d := 41) (v := ?_) rfl rfl (by kernel_rfl) (by kernel_rfl) (by kernel_rfl) (fun _ _ _ h => h) (Or.inl ⟨by kernel_rfl, ?_⟩) hHeld ?_
        rotate_left
        · (intro w hSw; (try dsimp only at hSw); go_simp; (try with_reducible rfl))
        simp only [Act.put, List.setIfInBounds_toArray, List.set_cons_zero, List.set_cons_succ]
        refine take_put (i := 4) (d := 42) (v := ?_) rfl rfl (by kernel_rfl) (by kernel_rfl) (by kernel_rfl) (fun _ _ _ h => h) (Or.inl ⟨by kernel_rfl, ?_⟩) hHeld ?_
        rotate_left
        · (intro w hSw; (try dsimp only at hSw); go_simp; (try with_reducible rfl))
        simp only [Act.put, List.setIfInBounds_toArray, List.set_cons_zero, List.set_cons_succ]
        refine take_put (i := 5) (d := 43) (v := ?_) rfl rfl (by kernel_rfl) (by kernel_rfl) (by kernel_rfl) (fun _ _ _ h => h) (Or.inl ⟨by kernel_rfl, ?_⟩) hHeld ?_
        rotate_left
        · (intro w hSw; (try dsimp only at hSw); go_simp; (try with_reducible rfl))
        simp only [Act.put, List.setIfInBounds_toArray, List.set_cons_zero, List.set_cons_succ]
        refine take_put (i := 7) (d := 45) (v := ?_) rfl rfl (by kernel_rfl) (by kernel_rfl) (by kernel_rfl) (fun _ _ _ h => h) (Or.inl ⟨by kernel_rfl, ?_⟩) hHeld ?_
        rotate_left
        · (intro w hSw; (try dsimp only at hSw); go_simp; (try with_reducible rfl))
        simp only [Act.put, List.setIfInBounds_toArray, List.set_cons_zero, List.set_cons_succ]
        refine take_put (i := 8) (d := 46) (v := ?_) rfl rfl (by kernel_rfl) (by kernel_rfl) (by kernel_rfl) (fun _ _ _ h => h) (Or.inl ⟨by kernel_rfl, ?_⟩) hHeld ?_
        rotate_left
        · (intro w hSw; (try dsimp only at hSw); go_simp; (try with_reducible rfl))
        simp only [Act.put, List.setIfInBounds_toArray, List.set_cons_zero, List.set_cons_succ]
        refine take_put (i := 9) (d := 47) (v := ?_) rfl rfl (by kernel_rfl) (by kernel_rfl) (by kernel_rfl) (fun _ _ _ h => h) (Or.inl ⟨by kernel_rfl, ?_⟩) hHeld ?_
        rotate_left
        · (intro w hSw; (try dsimp only at hSw); go_simp; (try with_reducible rfl))
        simp only [Act.put, List.setIfInBounds_toArray, List.set_cons_zero, List.set_cons_succ]
        refine take_put (i := 10) (d := 48) (v := ?_) rfl rfl (by kernel_rfl) (by kernel_rfl) (by kernel_rfl) (fun _ _ _ h => h) (Or.inl ⟨by kernel_rfl, ?_⟩) hHeld ?_
        rotate_left
        · (intro w hSw; (try dsimp only at hSw); go_simp; (try with_reducible rfl))
        simp only [Act.put, List.setIfInBounds_toArray, List.set_cons_zero, List.set_cons_succ]
        refine take_put (i := 11) (d := 49) (v := ?_) rfl rfl (by kernel_rfl) (by kernel_rfl) (by kernel_rfl) (fun _ _ _ h => h) (Or.inl ⟨by kernel_rfl, ?_⟩) hHeld ?_
        rotate_left
        · (intro w hSw; (try dsimp only at hSw); go_simp; (try with_reducible rfl))
        simp only [Act.put, List.setIfInBounds_toArray, List.set_cons_zero, List.set_cons_succ]
        refine take_put (i := 12) (d := 50) (v := ?_) rfl rfl (by kernel_rfl) (by kernel_rfl) (by kernel_rfl) (fun _ _ _ h => h) (Or.inl ⟨by kernel_rfl, ?_⟩) hHeld ?_
        rotate_left
        · (intro w hSw; (try dsimp only at hSw); go_simp; (try with_reducible rfl))
        simp only [Act.put, List.setIfInBounds_toArray, List.set_cons_zero, List.set_cons_succ]
        refine wpAnyH_ready (rs := [6]) (by kernel_rfl) (by simp) ?_
        refine AllReadyH.cons rfl (fun K hK => ?_) AllReadyH.nil
        rw [if_pos (by rfl)]
        go_simp
        refine HPU.out.mono ?_
        rintro e w4 ⟨rfl, hF4, hg4⟩
        have HX4 := hid_in (HSTEP.out _ _ hF4 hg4)
        clear hF4 hg4
        go_simp
        refine hK.out _ _ (HSP.out _ HX4.out.2.1) (fun hHeld => ?_)
        clear hK K
        refine wpAnyH_ready (rs := [13]) (by kernel_rfl) (by simp) ?_
        refine AllReadyH.cons rfl (fun K hK => ?_) AllReadyH.nil
        rw [if_pos (by rfl)]
        go_simp
        refine (HRP.out _ HX4.out.2.2.1).mono ?_
        rintro e w5 ⟨rfl, hR5, hg5⟩
        have HX5 := hid_in (HSTEP2.out _ _ _ HX4.out.1 HX4.out.2.1 HX4.out.2.2.1 hg5)
        have HR5 := hid_in hR5
        clear hR5 hg5
        go_simp
        refine hK.out _ _ (HSP.out _ HX5.out.2) (fun hHeld => ?_)
        clear hK K
        refine take_put (i := 14) (d := 52) (v := .bool false) rfl rfl (by kernel_rfl) (by kernel_rfl) (by kernel_rfl) (fun _ _ _ h => h) (Or.inl ⟨by kernel_rfl, fun w hSw => ?_⟩) hHeld ?_
        · (go_simp)
        simp only [Act.put, List.setIfInBounds_toArray, List.set_cons_zero, List.set_cons_succ]
        refine wpAnyH_done (by kernel_rfl) ?_ _
        go_wp2_with fail
        refine ⟨⟨i + 1, by have := HLT.out; omega, by go_num, A2, es2, HX5.out.1, HNX.out.1, HNX.out.2, HR5.out, HX5.out.2⟩, by have := HLT.out; simp [intOf]; omega⟩
      · have HSQ := hid_in (fun W (k : Below a.heap.size a W) => (by obtain ⟨-, -, -, -, -, -, -, h5⟩ := HCS.out _ k; exact h5 : W.cell? ⟨b, o + i * 6 + 5, none⟩ = some (.slice np xl nc)))
        have HDU := hid_in (w_drop hFd hlA (hval.below (below_drew wr)))
        have HRD : Hid (∀ W, Below a.heap.size a W → RU W r N Z es → Calls Tryz.prog 19 #[.pointer (some ⟨r, 0, none⟩), .slice np xl nc] W fun e w' => e = .returned (.int .i64 ((A.length : Int) - ((A.filter (outE xn)).length : Int))) ∧ RU w' r N Z (es.filter (outE xn)) ∧ W.grownBy w' (some r)) := hid_in (fun W kb k => by
          obtain ⟨-, hv, -⟩ := HCS.out _ kb
          have h9 := rdrop_any k HGE.out (by have := HTE.out.len; omega) hv
          rw [HO.out.1.length_eq, (HO.out.1.filter _).length_eq] at h9
          exact h9)
        have HNX := hid_in (And.intro (tree_drop HT.out xn) (ord_drop HO.out xn))
        have hfl : ((A.filter (outE xn)).length : Int) ≤ (A.length : Int) := by have := List.length_filter_le (outE xn) A; omega
        have hal : (A.length : Int) ≤ 100000 := by omega
        generalize (A.length : Int) - ((A.filter (outE xn)).length : Int) = E at *
        generalize A.filter (outE xn) = A2 at *
        generalize es.filter (outE xn) = es2 at *
        clear hlo hcs hpx hF hT ho hR hb hpr hlt hi hval hlA hxl HXL a0 a1 a2 a3 hFd hRd hfl hal
        go_upto_region 5 with fail
        refine wp_region_held_drew (S := fun W => W.cell? ⟨b, o + i * 6 + 5, none⟩ = some (.slice np xl nc)) (by kernel_rfl) (HSQ.out _ HBD.out) (fun hHeld => ?_)
        refine take_put (i := 0) (d := 23) (v := ?_) rfl rfl (by kernel_rfl) (by kernel_rfl) (by kernel_rfl) (fun _ _ _ h => h) (Or.inl ⟨by kernel_rfl, ?_⟩) hHeld ?_
        rotate_left
        · (intro w hSw; (try dsimp only at hSw); go_simp; (try with_reducible rfl))
        simp only [Act.put, List.setIfInBounds_toArray, List.set_cons_zero, List.set_cons_succ]
        refine take_put (i := 1) (d := 24) (v := ?_) rfl rfl (by kernel_rfl) (by kernel_rfl) (by kernel_rfl) (fun _ _ _ h => h) (Or.inl ⟨by kernel_rfl, ?_⟩) hHeld ?_
        rotate_left
        · (intro w hSw; (try dsimp only at hSw); go_simp; (try with_reducible rfl))
        simp only [Act.put, List.setIfInBounds_toArray, List.set_cons_zero, List.set_cons_succ]
        refine take_put (i := 2) (d := 25) (v := ?_) rfl rfl (by kernel_rfl) (by kernel_rfl) (by kernel_rfl) (fun _ _ _ h => h) (Or.inl ⟨by kernel_rfl, ?_⟩) hHeld ?_
        rotate_left
        · (intro w hSw; (try dsimp only at hSw); go_simp; (try with_reducible rfl))
        simp only [Act.put, List.setIfInBounds_toArray, List.set_cons_zero, List.set_cons_succ]
        refine take_put (i := 3) (d := 26) (v := ?_) rfl rfl (by kernel_rfl) (by kernel_rfl) (by kernel_rfl) (fun _ _ _ h => h) (Or.inl ⟨by kernel_rfl, ?_⟩) hHeld ?_
        rotate_left
        · (intro w hSw; (try dsimp only at hSw); go_simp; (try with_reducible rfl))
        simp only [Act.put, List.setIfInBounds_toArray, List.set_cons_zero, List.set_cons_succ]
        refine take_put (i := 4) (d := 27) (v := ?_) rfl rfl (by kernel_rfl) (by kernel_rfl) (by kernel_rfl) (fun _ _ _ h => h) (Or.inl ⟨by kernel_rfl, ?_⟩) hHeld ?_
        rotate_left
        · (intro w hSw; (try dsimp only at hSw); go_simp; (try with_reducible rfl))
        simp only [Act.put, List.setIfInBounds_toArray, List.set_cons_zero, List.set_cons_succ]
        refine take_put (i := 5) (d := 28) (v := ?_) rfl rfl (by kernel_rfl) (by kernel_rfl) (by kernel_rfl) (fun _ _ _ h => h) (Or.inl ⟨by kernel_rfl, ?_⟩) hHeld ?_
        rotate_left
        · (intro w hSw; (try dsimp only at hSw); go_simp; (try with_reducible rfl))
        simp only [Act.put, List.setIfInBounds_toArray, List.set_cons_zero, List.set_cons_succ]
        refine take_put (i := 7) (d := 30) (v := ?_) rfl rfl (by kernel_rfl) (by kernel_rfl) (by kernel_rfl) (fun _ _ _ h => h) (Or.inl ⟨by kernel_rfl, ?_⟩) hHeld ?_
        rotate_left
        · (intro w hSw; (try dsimp only at hSw); go_simp; (try with_reducible rfl))
        simp only [Act.put, List.setIfInBounds_toArray, List.set_cons_zero, List.set_cons_succ]
        refine take_put (i := 8) (d := 31) (v := ?_) rfl rfl (by kernel_rfl) (by kernel_rfl) (by kernel_rfl) (fun _ _ _ h => h) (Or.inl ⟨by kernel_rfl, ?_⟩) hHeld ?_
        rotate_left
        · (intro w hSw; (try dsimp only at hSw); go_simp; (try with_reducible rfl))
        simp only [Act.put, List.setIfInBounds_toArray, List.set_cons_zero, List.set_cons_succ]
        refine take_put (i := 9) (d := 32) (v := ?_) rfl rfl (by kernel_rfl) (by kernel_rfl) (by kernel_rfl) (fun _ _ _ h => h) (Or.inl ⟨by kernel_rfl, ?_⟩) hHeld ?_
        rotate_left
        · (intro w hSw; (try dsimp only at hSw); go_simp; (try with_reducible rfl))
        simp only [Act.put, List.setIfInBounds_toArray, List.set_cons_zero, List.set_cons_succ]
        refine take_put (i := 10) (d := 33) (v := ?_) rfl rfl (by kernel_rfl) (by kernel_rfl) (by kernel_rfl) (fun _ _ _ h => h) (Or.inl ⟨by kernel_rfl, ?_⟩) hHeld ?_
        rotate_left
        · (intro w hSw; (try dsimp only at hSw); go_simp; (try with_reducible rfl))
        simp only [Act.put, List.setIfInBounds_toArray, List.set_cons_zero, List.set_cons_succ]
        refine take_put (i := 11) (d := 34) (v := ?_) rfl rfl (by kernel_rfl) (by kernel_rfl) (by kernel_rfl) (fun _ _ _ h => h) (Or.inl ⟨by kernel_rfl, ?_⟩) hHeld ?_
        rotate_left
        · (intro w hSw; (try dsimp only at hSw); go_simp; (try with_reducible rfl))
        simp only [Act.put, List.setIfInBounds_toArray, List.set_cons_zero, List.set_cons_succ]
        refine take_put (i := 12) (d := 35) (v := ?_) rfl rfl (by kernel_rfl) (by kernel_rfl) (by kernel_rfl) (fun _ _ _ h => h) (Or.inl ⟨by kernel_rfl, ?_⟩) hHeld ?_
        rotate_left
        · (intro w hSw; (try dsimp only at hSw); go_simp; (try with_reducible rfl))
        simp only [Act.put, List.setIfInBounds_toArray, List.set_cons_zero, List.set_cons_succ]
        refine wpAnyH_ready (rs := [6]) (by kernel_rfl) (by simp) ?_
        refine AllReadyH.cons rfl (fun K hK => ?_) AllReadyH.nil
        rw [if_pos (by rfl)]
        go_simp
        refine HDU.out.mono ?_
        rintro e w4 ⟨rfl, hF4, hg4⟩
        have HX4 := hid_in (HSTEP.out _ _ hF4 hg4)
        clear hF4 hg4
        go_simp
        refine hK.out _ _ (HSQ.out _ HX4.out.2.1) (fun hHeld => ?_)
        clear hK K
        refine wpAnyH_ready (rs := [13]) (by kernel_rfl) (by simp) ?_
        refine AllReadyH.cons rfl (fun K hK => ?_) AllReadyH.nil
        rw [if_pos (by rfl)]
        go_simp
        refine (HRD.out _ HX4.out.2.1 HX4.out.2.2.1).mono ?_
        rintro e w5 ⟨rfl, hR5, hg5⟩
        have HX5 := hid_in (HSTEP2.out _ _ _ HX4.out.1 HX4.out.2.1 HX4.out.2.2.1 hg5)
        have HR5 := hid_in hR5
        clear hR5 hg5
        go_simp
        refine hK.out _ _ (HSQ.out _ HX5.out.2) (fun hHeld => ?_)
        clear hK K
        refine take_put (i := 14) (d := 37) (v := .bool false) rfl rfl (by kernel_rfl) (by kernel_rfl) (by kernel_rfl) (fun _ _ _ h => h) (Or.inl ⟨by kernel_rfl, fun w hSw => ?_⟩) hHeld ?_
        · (go_simp)
        simp only [Act.put, List.setIfInBounds_toArray, List.set_cons_zero, List.set_cons_succ]
        refine wpAnyH_done (by kernel_rfl) ?_ _
        go_wp2_with fail
        refine ⟨⟨i + 1, by have := HLT.out; omega, by go_num, A2, es2, HX5.out.1, HNX.out.1, HNX.out.2, HR5.out, HX5.out.2⟩, by have := HLT.out; simp [intOf]; omega⟩
    · have hiK : i = K := by omega
      by_cases hM2 : i < M
      · have hj1 : (i : Int) < (M : Int) := by omega
        have hj2 : ¬ (i : Int) < 200 := by have := HK.out; omega
        go_wp2_with fail
        go_ret
        exact ⟨rfl, hpr.out⟩
      · have hj1 : ¬ (i : Int) < (M : Int) := by omega
        go_wp2_with fail
        go_ret
        exact ⟨rfl, hpr.out⟩
end Go.Proofs.YtglfeocfhlmloaaGreat.Up
