/-
  The walk of PlainPlays.
-/
import Derived.Laws.CopyOwn
import Derived.Deep.RegionLaw
import Derived.Deep.DrawnRows
import Derived.Deep.CutRange
import Derived.Lib.SlBytesConst
import Derived.Lib.AppendZeros
import Derived.Laws.Tables
import Derived.Test.YtngehkmdanhgpaaGreatQ00
import Derived.Test.YtngehkmdanhgpaaGreatQ01
import Derived.Test.YtngehkmdanhgpaaGreatQ02
import Derived.Test.YtngehkmdanhgpaaGreatQ03
import Derived.Test.YtngehkmdanhgpaaGreatQ04
import Derived.Test.YtngehkmdanhgpaaGreatQ05
import Derived.Test.YtngehkmdanhgpaaGreatQ06
import Derived.Test.YtngehkmdanhgpaaGreatQ07
import Derived.Test.YtngehkmdanhgpaaGreatQ08
import Derived.Test.YtngehkmdanhgpaaGreatQ09
import Derived.Test.YtngehkmdanhgpaaGreatQ10
import Derived.Test.YtngehkmdanhgpaaGreatQ11
import Derived.Test.YtngehkmdanhgpaaGreatQ12
import Derived.Test.YtngehkmdanhgpaaGreatQ13
import Derived.Test.YtngehkmdanhgpaaGreatQ14
import Derived.Test.YtngehkmdanhgpaaGreatQ15
import Derived.Test.YtngehkmdanhgpaaGreatQ16
import Derived.Test.YtngehkmdanhgpaaGreatQ17
import Derived.Test.YtngehkmdanhgpaaGreatQ18
import Derived.Test.YtngehkmdanhgpaaGreatQ19
import Derived.Test.YtngehkmdanhgpaaGreatQ20
import Derived.Test.YtngehkmdanhgpaaGreatQ21
import Derived.Test.YtngehkmdanhgpaaGreatQ22
import Derived.Test.YtngehkmdanhgpaaGreatQ23
import Derived.Test.YtngehkmdanhgpaaGreatQ24
import Derived.Test.YtngehkmdanhgpaaGreatQ25
import Derived.Test.YtngehkmdanhgpaaGreatQ26
import Derived.Test.YtngehkmdanhgpaaGreatQ27
import Derived.Test.YtngehkmdanhgpaaGreatQ28
import Derived.Test.YtngehkmdanhgpaaGreatQ29
import Derived.Test.YtngehkmdanhgpaaGreatQ30
import Derived.Test.YtngehkmdanhgpaaGreatQ31
import Derived.Test.YtngehkmdanhgpaaGreatQ32
import Derived.Test.YtngehkmdanhgpaaGreatQ33
import Derived.Test.YtngehkmdanhgpaaGreatQ34
import Derived.Test.YtngehkmdanhgpaaGreatQ35
import Derived.Test.YtngehkmdanhgpaaGreatQ36
import Derived.Test.YtngehkmdanhgpaaGreatQ37
import Derived.Test.YtngehkmdanhgpaaGreatQ38
import Derived.Test.YtngehkmdanhgpaaGreatQ39
import Derived.Test.YtngehkmdanhgpaaGreatQ40
import Derived.Test.YtngehkmdanhgpaaGreatQ41
import Derived.Test.YtngehkmdanhgpaaGreatQ42
import Derived.Test.YtngehkmdanhgpaaGreatQ43
import Derived.Test.YtngehkmdanhgpaaGreatQ44
import Derived.Test.YtngehkmdanhgpaaGreatQ45
import Derived.Test.YtngehkmdanhgpaaGreatQ46
import Derived.Test.YtngehkmdanhgpaaGreatQ47
import Derived.Test.YtngehkmdanhgpaaGreatQ48
import Derived.Test.YtngehkmdanhgpaaGreatQ49
import Derived.Test.YtngehkmdanhgpaaGreatQ50
namespace Go.Proofs.YtngehkmdanhgpaaGreat.Pl
open Go.RowKit
open Vp (Str B bl Val cmpL parseS showS splitS withinS IsPath)
open Nd (take_put Row wp_world post_Row post_Row2 grownBy_setCell below_of_grown Opn checkS)
open Rf (Fil Fls FO fcells)
theorem RF.map9 {w W : World} {r g m : Nat} {es A : List _} (h : RF w r es) (k : FsA w g m A) (hg : w.grownBy W (some m)) : RF W r es := by
  obtain ⟨ms, clock, hb⟩ := k.map_at
  obtain ⟨v, h1, h2⟩ := h.ex
  refine ⟨v, row_stays h1 k hg, ?_⟩
  obtain ⟨h0, ⟨rfl, h3⟩ | ⟨q, cap, cur, rfl, hB, hh, rest⟩⟩ := h2
  · exact ⟨h0, .inl ⟨rfl, h3⟩⟩
  · refine ⟨h0, .inr ⟨q, cap, cur, rfl, hB, ?_, rest⟩⟩
    rw [hg.block q (Array.getElem?_eq_some_iff.1 hh).1 (fun e => by obtain rfl := Option.some.inj e; rw [hb] at hh; cases hh)]
    exact hh
theorem FsA.ref9 {w W : World} {r g m : Nat} {es A : List Ent} (h : FsA w g m A) (k : RF w r es) (hg : w.grownBy W (some r)) : FsA W g m A := by
  obtain ⟨ms, clock, hb⟩ := h.map_at
  obtain ⟨v, k1, _⟩ := k.ex
  obtain ⟨L, h1, h2⟩ := h
  refine ⟨L, h1.grown hg (fun j e => ?_), h2⟩
  obtain rfl := Option.some.inj e
  unfold Row at k1
  refine ⟨fun e => ?_, fun e => ?_, fun cs fr e => ?_⟩
  · rw [e, hb] at k1
    cases k1
  · have hr := h1.row
    unfold Row at hr
    rw [e, hr] at k1
    cases k1
  · rw [k1] at e
    cases e
theorem nm_ref9 {w W : World} {r : Nat} {es : List Ent} {v : Value} {xs : List Str} (hn : Rf.Nm w v xs) (k : RF w r es) (hg : w.grownBy W (some r)) : Rf.Nm W v xs := by
  obtain ⟨u, k1, _⟩ := k.ex
  unfold Row at k1
  exact nm_kept hn (fun b cs fr e => by
    rw [hg.block b (Array.getElem?_eq_some_iff.1 e).1 (fun e2 => by obtain rfl := Option.some.inj e2; rw [k1] at e; cases e)]
    exact e)
theorem lists_ref {A es : List Ent} (h : Ref A es) (hA : (A.map (·.names)).Nodup) {l : List Fil} (k : Lists A l) : es.map Ent.fil = l := (Lists.one hA k ⟨es, rfl, h.perm, h.ord⟩ (List.Perm.refl _))
theorem w_newE {fs : List Fil} {v : Value} {W : World} (hv : Fls W v fs) (hn : fs.length ≤ 100) (hp : ∀ f ∈ fs, f.path.size ≤ 9223372036854775807) (hE : newE fs ≠ 0) :
    Calls Tryz.prog 10 #[v] W fun e w' => e = .returned (.tuple #[.pointer none, .int .i64 (newE fs)]) ∧ Below W.heap.size W w' := by
  refine (new_any fs _ W hv (by omega) hp).mono ?_
  rintro e w' ⟨hb, ⟨_, rfl⟩ | ⟨h0, _⟩⟩
  · exact ⟨rfl, hb⟩
  · exact absurd h0 hE
theorem w_new0 {fs : List Fil} {v : Value} {W : World} (hv : Fls W v fs) (hn : fs.length ≤ 100) (hp : ∀ f ∈ fs, f.path.size ≤ 9223372036854775807) (hE : newE fs = 0) :
    Calls Tryz.prog 10 #[v] W fun e w' => ∃ g m, e = .returned (.tuple #[.pointer (some ⟨g, 0, none⟩), .int .i64 0]) ∧ FsA w' g m (newA fs) ∧ W.heap.size ≤ m ∧ Below W.heap.size W w' := by
  refine (new_any fs _ W hv (by omega) hp).mono ?_
  rintro e w' ⟨hb, ⟨h0, _⟩ | ⟨_, g, m, L, rfl, hF, _, hm, hL⟩⟩
  · exact absurd hE h0
  · exact ⟨g, m, rfl, ⟨L, hF, hL⟩, hm, hb⟩
theorem r_newE {fs : List Fil} {v : Value} {W : World} (hv : Fls W v fs) (hn : fs.length ≤ 100) (hp : ∀ f ∈ fs, f.path.size ≤ 9223372036854775807 ∧ f.data.size ≤ 9223372036854775807) (hE : newE fs ≠ 0) :
    Calls Tryz.prog 11 #[v] W fun e w' => e = .returned (.tuple #[.pointer none, .int .i64 (newE fs)]) ∧ Below W.heap.size W w' := by
  refine (rnew_any W v fs hv (by omega) hp).mono ?_
  rintro e w' ⟨⟨k, _, h8, hc, rfl⟩ | ⟨hc | hc, _⟩, hb⟩
  · have h1 := chk_new hc
    rw [if_neg h8] at h1
    rw [h1]
    exact ⟨rfl, hb⟩
  · exact absurd (chk_new hc) hE
  · exact absurd (good_new hc) hE
theorem r_new0 {fs : List Fil} {v : Value} {W : World} (hv : Fls W v fs) (hn : fs.length ≤ 100) (hp : ∀ f ∈ fs, f.path.size ≤ 9223372036854775807 ∧ f.data.size ≤ 9223372036854775807) (hE : newE fs = 0) :
    Calls Tryz.prog 11 #[v] W fun e w' => ∃ r, e = .returned (.tuple #[.pointer (some ⟨r, 0, none⟩), .int .i64 0]) ∧ RF w' r (insAll [] (fs.map entOf)) ∧ W.heap.size ≤ r ∧ Below W.heap.size W w' := by
  refine (rnew_any W v fs hv (by omega) hp).mono ?_
  rintro e w' ⟨⟨k, h0, h8, hc, rfl⟩ | ⟨_, r, u, rfl, h1, h2, h3⟩, hb⟩
  · have h1 := chk_new hc
    rw [if_neg h8, hE] at h1
    exact absurd h1.symm h0
  · refine ⟨r, rfl, ⟨u, h1, ?_⟩, h3, hb⟩
    rw [(new_ref hE).1] at h2
    exact h2
/-- between two rounds -/
def ScP (w : World) (g m r : Nat) (i : Nat) (W : World) : Prop := ∃ A es, FsA W g m A ∧ RF W r es ∧ Ref A es ∧ Tree A ∧ Small A ∧ A.length ≤ 101 + i ∧ Below w.heap.size w W
set_option maxHeartbeats 40000000 in
set_option maxRecDepth 100000 in
theorem plays_any (fs : List Fil) (os : List Opn) (v u : Value) (w : World) (hf : Fls w v fs) (ho : Ops w u os) (hps : ∀ f ∈ fs, f.path.size ≤ 9223372036854775807 ∧ f.data.size ≤ 9223372036854775807) (hos : ∀ x ∈ os, x.path.size ≤ 9223372036854775807 ∧ x.dest.size ≤ 9223372036854775807) :
    Calls Tryz.prog 3 #[v, u] w fun e w' => e = .returned (.bool true) ∧ Below w.heap.size w w' := by
  obtain ⟨p0, c0, rfl⟩ := hf.form
  obtain ⟨p1, c1, b, o, rfl, hc0, hc1, hbo, hoc⟩ := id ho
  have hol : os.length ≤ 9223372036854775807 := by omega
  have HAW := hid_in (awake_any w)
  have HFI := hid_in (fun W (k : Below w.heap.size w W) => fitsO_any W _ _ fs os (hf.below k) (ho.below k))
  have HFS := hid_in (fun W v (hv : Fls W v fs) (k : Below w.heap.size w W) => Rf.files_same fs v _ W hv (hf.below k))
  have HFB := hid_in (fun W (k : Below w.heap.size w W) => hf.below k)
  have HOS := hid_in hos
  have HOL := hid_in hol
  have HOB := hid_in hbo
  have HPS := hid_in hps
  have HOC := hid_in (fun W (k : Below w.heap.size w W) i x (hi : os[i]? = some x) => rg_bel (hoc i x hi) k)
  clear hf ho hps hos hol hbo hoc hc0 hc1
  generalize hNf : fs.length = N at *
  have HNF := hid_in hNf
  generalize hM0 : os.length = M at *
  have HMM := hid_in hM0
  obtain ⟨K, HK⟩ : ∃ K, Hid (K = min M 60) := ⟨_, hid_in rfl⟩
  clear hM0 hNf
  go_enter Tryz.func3, Tryz.ntmps3
  go_upto_region 3 with (go_at_call 8; refine HAW.out.mono ?_; rintro e w1 ⟨rfl, hb1⟩; have HB1 := hid_in hb1; clear hb1)
  go_upto_region 5 with (go_at_call 9; refine (HFI.out _ HB1.out).mono ?_; rintro e w2 ⟨⟨t, rfl, ht⟩, hb2⟩; have HB2 := hid_in (HB1.out.trans (hb2.mono HB1.out.size)); clear hb2; have HT := hid_in ht; clear ht; rcases t with _ | _; (focus (go_wp2_with fail; go_ret; exact ⟨rfl, HB2.out⟩)))
  have hN : N ≤ 100 := by first | exact HT.out rfl | exact HT.out trivial | exact HT.out
  have HN := hid_in hN
  clear HT hN HAW HFI
  have HA3 : Hid (Below w2.heap.size w2 (w2.alloc (.cells #[] 48))) := hid_in ((Below.refl _ _).alloc (Nat.le_refl _) _)
  have HE3 := hid_in (Rf.own81 w2)
  have HF3 := hid_in (HFB.out _ (HB2.out.trans (HA3.out.mono HB2.out.size)))
  go_upto_region 6 with (first | (at_builtin; refine Rf.wpList_app81 w2.heap.size rfl (.tmp 17) (.tmp 18) rfl _ [] fs rfl HE3.out _ rfl HF3.out (by have := HN.out; have := HNF.out; simp only [List.length_nil]; omega) HA3.out.size ?_; intro v3 w3 ho3 hg3; obtain ⟨p3, c3, hv3⟩ := ho3.fls.form; rw [List.nil_append, HNF.out] at hv3; subst hv3; have HO3 := hid_in ho3; have HB3c := hid_in (HA3.out.grown hg3 HA3.out.size (fun k e => (Nd.own_geK HE3.out k e).1)); clear ho3 hg3; simp only [Act.put, List.setIfInBounds_toArray, List.set_cons_zero, List.set_cons_succ]))
  have HB3 := hid_in (HB2.out.trans (HB3c.out.mono HB2.out.size))
  have HL3 : Hid (Fls w3 (.slice p3 N c3) fs) := hid_in (by have h9 := HO3.out.fls; rw [List.nil_append] at h9; exact h9)
  have hN2 : fs.length ≤ 100 := by rw [HNF.out]; exact HN.out
  clear HA3 HE3 HF3 HO3 HB3c
  by_cases hE : newE fs = 0
  rotate_left
  · have hE2 : (newE fs != 0) = true := by simpa using hE
    have hE1 : (newE fs != newE fs) = false := by simp
    have HNW := hid_in (w_newE HL3.out hN2 (fun f hf => (HPS.out f hf).1) hE)
    have HRN := hid_in (fun W (k : Below w.heap.size w W) => r_newE (HFB.out W k) hN2 HPS.out hE)
    generalize newE fs = E at *
    clear hE hN2 HOC HOB HOS
    go_wp2_with (first | (go_at_call 10; refine HNW.out.mono ?_; rintro e w4 ⟨rfl, hb4⟩; have HX4 := hid_in hb4; have HB4 := hid_in (HB3.out.trans (hb4.mono HB3.out.size)); clear hb4) | (go_at_call 11; refine (HRN.out _ HB4.out).mono ?_; rintro e w5 ⟨rfl, hb5⟩; have HX5 := hid_in (HX4.out.trans (hb5.mono HX4.out.size)); have HB5 := hid_in (HB4.out.trans (hb5.mono HB4.out.size)); clear hb5) | (go_at_call 12; refine (HFS.out _ _ (HL3.out.below HX5.out) HB5.out).mono ?_; rintro e w6 ⟨rfl, hb6⟩; have HB6 := hid_in (HB5.out.trans (hb6.mono HB5.out.size)); clear hb6))
    go_ret
    exact ⟨rfl, HB6.out⟩
  have HNW := hid_in (w_new0 HL3.out hN2 (fun f hf => (HPS.out f hf).1) hE)
  have HRN := hid_in (fun W (k : Below w.heap.size w W) => r_new0 (HFB.out W k) hN2 HPS.out hE)
  have HT0 := hid_in (tree_new hE)
  have HS0 := hid_in (small_new hE)
  have HR0e := hid_in (new_ref hE).2
  have HL0 : Hid ((newA fs).length ≤ 101) := hid_in (by simp only [newA, List.length_cons, List.length_map]; omega)
  generalize newA fs = nA at *
  generalize insAll [] (fs.map entOf) = es0 at *
  clear hE hN2
  go_upto_region 12 with (first | (go_at_call 10; refine HNW.out.mono ?_; rintro e w4 ⟨g, m, rfl, hF4, hm, hb4⟩; have HF4 := hid_in hF4; have HM := hid_in (Nat.le_trans HB3.out.size hm); have HX4 := hid_in hb4; have HB4 := hid_in (HB3.out.trans (hb4.mono HB3.out.size)); clear hF4 hm hb4) | (go_at_call 11; refine (HRN.out _ HB4.out).mono ?_; rintro e w5 ⟨r, rfl, hr5, hm5, hb5⟩; have HR5 := hid_in hr5; have HF5 := hid_in (HF4.out.below hb5); have HR0 := hid_in (Nat.le_trans HB4.out.size hm5); have HX5 := hid_in (HX4.out.trans (hb5.mono HX4.out.size)); have HB5 := hid_in (HB4.out.trans (hb5.mono HB4.out.size)); clear hr5 hm5 hb5) | (go_at_call 12; refine (HFS.out _ _ (HL3.out.below HX5.out) HB5.out).mono ?_; rintro e w6 ⟨rfl, hb6⟩; have HB6 := hid_in (HB5.out.trans (hb6.mono HB5.out.size)); have HSC : Hid (ScP w g m r 0 w6) := hid_in ⟨nA, es0, HF5.out.below hb6, HR5.out.below hb6, HR0e.out, HT0.out, HS0.out, HL0.out, HB6.out⟩; clear hb6))
  clear HNW HRN HFS HFB HF4 HR5 HF5 HX5 HX4 HL3 HT0 HS0 HR0e HL0
  go_wp2
  go_loopw [10] (fun vi W => ∃ i : Nat, i ≤ K ∧ vi = .int .i64 (i : Int) ∧ Hid (ScP w g m r i W)) (fun vi _ => K - (intOf vi).toNat)
  case atStart => exact ⟨0, by omega, rfl, HSC.out⟩
  case round =>
    obtain ⟨i, hi, rfl, hsc⟩ := hrel
    have HI := hid_in hi
    have hM : (M : Int) ≤ 9223372036854775807 := by have := HOL.out; omega
    by_cases hlt : i < K
    · have hj1 : (i : Int) < (M : Int) := by have := HK.out; omega
      have hj2 : (i : Int) < 60 := by have := HK.out; omega
      have hj3 : ¬ (i : Int) < 0 := by omega
      have hj4 : 0 ≤ (i : Int) := by omega
      have hlo : i < os.length := by rw [HMM.out]; have := HK.out; omega
      have HI60 : Hid (i < 60) := hid_in (by have := HK.out; omega)
      obtain ⟨rfl, -⟩ := HOB.out (by intro e; rw [e] at hlo; simp at hlo)
      have HCS := hid_in (fun W (k : Below w.heap.size w W) => HOC.out W k i _ (List.getElem?_eq_getElem hlo))
      obtain ⟨A, es, hF, hR, hRe, hT, hS, hl, hb⟩ := hsc.out
      obtain ⟨s1, s2⟩ := HOS.out _ (List.getElem_mem hlo)
      have HST := hid_in (fun W g m (k : FsA W g m A) => stepT_any k hT hS (by have := HI60.out; omega) os[i].kind os[i].at_ os[i].size os[i].path os[i].dest os[i].data s1 s2)
      have hA := hF.one.1
      have hAg := hF.gp
      have HRD := hid_in (fun W (k : RF W r es) => rdo_ref k hRe hT hA hAg hS (by have := HI60.out; omega) os[i].kind os[i].at_ os[i].size os[i].path os[i].dest os[i].data s1 s2)
      have HLA := hid_in hl
      have HF := hid_in hF
      have HRF := hid_in hR
      have HB := hid_in hb
      have HLT := hid_in hlt
      generalize os[i] = x at *
      obtain ⟨xk, xp, xt, xd, xa, xz⟩ := x
      simp only at HST HRD
      unfold RDo at HRD
      clear s1 s2 hF hR hRe hT hS hl hb hA hAg hsc hlt hlo hi HOC HSC
      go_upto_region 15 with fail
      have HF : Hid (FsA wr.drew g m A) := hid_in (HF.out.below (Nd.below_drewN (Below.refl _ wr) 1))
      have HRF : Hid (RF wr.drew r es) := hid_in (HRF.out.below (Nd.below_drewN (Below.refl _ wr) 1))
      have HB : Hid (Below w.heap.size w wr.drew) := hid_in (Nd.below_drewN HB.out 1)
      refine wp_region_held_drew (S := fun W => W.rangeAt b (o + i * 6) ([.int .i64 xk, .string xp, .string xt, .string xd, .int .i64 xa, .int .i64 xz] : List Value)) (by kernel_rfl) (HCS.out _ HB.out) (fun hHeld => ?_)
      generalize wr.drew = wq at *
      refine take_put (i := 0) (d := 58) (v := ?_) rfl rfl (by kernel_rfl) (by kernel_rfl) (by kernel_rfl) (fun _ _ _ h => h) (Or.inl ⟨by kernel_rfl, ?_⟩) hHeld ?_
      rotate_left
      · (intro w hSw; (try dsimp only at hSw); go_simp; (try with_reducible rfl))
      simp only [Act.put, List.setIfInBounds_toArray, List.set_cons_zero, List.set_cons_succ]
      refine take_put (i := 1) (d := 59) (v := ?_) rfl rfl (by kernel_rfl) (by kernel_rfl) (by kernel_rfl) (fun _ _ _ h => h) (Or.inl ⟨by kernel_rfl, ?_⟩) hHeld ?_
      rotate_left
      · (intro w hSw; (try dsimp only at hSw); go_simp; (try with_reducible rfl))
      simp only [Act.put, List.setIfInBounds_toArray, List.set_cons_zero, List.set_cons_succ]
      refine take_put (i := 2) (d := 60) (v := ?_) rfl rfl (by kernel_rfl) (by kernel_rfl) (by kernel_rfl) (fun _ _ _ h => h) (Or.inl ⟨by kernel_rfl, ?_⟩) hHeld ?_
      rotate_left
      · (intro w hSw; (try dsimp only at hSw); go_simp; (try with_reducible rfl))
      simp only [Act.put, List.setIfInBounds_toArray, List.set_cons_zero, List.set_cons_succ]
      refine take_put (i := 3) (d := 61) (v := ?_) rfl rfl (by kernel_rfl) (by kernel_rfl) (by kernel_rfl) (fun _ _ _ h => h) (Or.inl ⟨by kernel_rfl, ?_⟩) hHeld ?_
      rotate_left
      · (intro w hSw; (try dsimp only at hSw); go_simp; (try with_reducible rfl))
      simp only [Act.put, List.setIfInBounds_toArray, List.set_cons_zero, List.set_cons_succ]
      refine take_put (i := 4) (d := 62) (v := .agg ([.int .i64 xk, .string xp, .string xt, .string xd, .int .i64 xa, .int .i64 xz] : List Value).toArray) rfl rfl (by kernel_rfl) (by kernel_rfl) (by kernel_rfl) (fun _ _ _ h => h) (yieldsIf_load_mid (by rfl) 40 _ rfl _ _ rfl ([.int .i64 xk, .string xp, .string xt, .string xd, .int .i64 xa, .int .i64 xz] : List Value) _ (fun w hSw => hSw) Tryz.underlying40 rfl info40r) hHeld ?_
      simp only [Act.put, List.setIfInBounds_toArray, List.set_cons_zero, List.set_cons_succ]
      refine take_put (i := 6) (d := 64) (v := ?_) rfl rfl (by kernel_rfl) (by kernel_rfl) (by kernel_rfl) (fun _ _ _ h => h) (Or.inl ⟨by kernel_rfl, ?_⟩) hHeld ?_
      rotate_left
      · (intro w hSw; (try dsimp only at hSw); go_simp; (try with_reducible rfl))
      simp only [Act.put, List.setIfInBounds_toArray, List.set_cons_zero, List.set_cons_succ]
      refine take_put (i := 7) (d := 65) (v := ?_) rfl rfl (by kernel_rfl) (by kernel_rfl) (by kernel_rfl) (fun _ _ _ h => h) (Or.inl ⟨by kernel_rfl, ?_⟩) hHeld ?_
      rotate_left
      · (intro w hSw; (try dsimp only at hSw); go_simp; (try with_reducible rfl))
      simp only [Act.put, List.setIfInBounds_toArray, List.set_cons_zero, List.set_cons_succ]
      refine take_put (i := 8) (d := 66) (v := ?_) rfl rfl (by kernel_rfl) (by kernel_rfl) (by kernel_rfl) (fun _ _ _ h => h) (Or.inl ⟨by kernel_rfl, ?_⟩) hHeld ?_
      rotate_left
      · (intro w hSw; (try dsimp only at hSw); go_simp; (try with_reducible rfl))
      simp only [Act.put, List.setIfInBounds_toArray, List.set_cons_zero, List.set_cons_succ]
      refine take_put (i := 9) (d := 67) (v := ?_) rfl rfl (by kernel_rfl) (by kernel_rfl) (by kernel_rfl) (fun _ _ _ h => h) (Or.inl ⟨by kernel_rfl, ?_⟩) hHeld ?_
      rotate_left
      · (intro w hSw; (try dsimp only at hSw); go_simp; (try with_reducible rfl))
      simp only [Act.put, List.setIfInBounds_toArray, List.set_cons_zero, List.set_cons_succ]
      refine take_put (i := 10) (d := 68) (v := .agg ([.int .i64 xk, .string xp, .string xt, .string xd, .int .i64 xa, .int .i64 xz] : List Value).toArray) rfl rfl (by kernel_rfl) (by kernel_rfl) (by kernel_rfl) (fun _ _ _ h => h) (yieldsIf_load_mid (by rfl) 40 _ rfl _ _ rfl ([.int .i64 xk, .string xp, .string xt, .string xd, .int .i64 xa, .int .i64 xz] : List Value) _ (fun w hSw => hSw) Tryz.underlying40 rfl info40r) hHeld ?_
      simp only [Act.put, List.setIfInBounds_toArray, List.set_cons_zero, List.set_cons_succ]
      refine wpAnyH_ready (rs := [5]) (by kernel_rfl) (by simp) ?_
      refine AllReadyH.cons rfl (fun K hK => ?_) AllReadyH.nil
      rw [if_pos (by rfl)]
      go_simp
      refine (HST.out _ _ _ HF.out).mono ?_
      rintro e w6 ⟨R, v6, C, rfl, hn6, hF6, hk6, hg6, ht6⟩
      obtain ⟨rc, rd, rs, rx, rn⟩ := R
      simp only at hn6
      obtain ⟨pn, cn, rfl⟩ := hn6.form
      have HN6 := hid_in hn6
      have HF6 := hid_in hF6
      have HK6 := hid_in hk6
      have HT6 := hid_in ht6
      have HR6 := hid_in (HRF.out.map9 HF.out hg6)
      have HB6 := hid_in (HB.out.grown hg6 HB.out.size (fun j e => by obtain rfl := Option.some.inj e; exact HM.out))
      clear hn6 hF6 hk6 hg6 ht6
      go_simp
      refine hK.out _ _ (HCS.out _ HB6.out) (fun hHeld => ?_)
      clear hK K
      refine wpAnyH_ready (rs := [11]) (by kernel_rfl) (by simp) ?_
      refine AllReadyH.cons rfl (fun K hK => ?_) AllReadyH.nil
      rw [if_pos (by rfl)]
      go_simp
      refine (HRD.out _ HR6.out).mono ?_
      rintro e w7 ⟨rc2, rd2, rs2, rx2, rn2, es7, v7, hm7, rfl, hn7, hr7, hg7⟩
      obtain ⟨hRR, hRef⟩ := hm7 _ _ HT6.out
      cases hRR
      obtain ⟨pn7, cn7, rfl⟩ := hn7.form
      have HRE := hid_in hRef
      have HN7 := hid_in hn7
      have HR7 := hid_in hr7
      have HF7 := hid_in (HF6.out.ref9 HR6.out hg7)
      have HN67 := hid_in (nm_ref9 HN6.out HR6.out hg7)
      have HB7 := hid_in (HB6.out.grown hg7 HB6.out.size (fun j e => by obtain rfl := Option.some.inj e; exact HR0.out))
      clear hn7 hr7 hg7 hRef hm7
      go_simp
      refine hK.out _ _ (HCS.out _ HB7.out) (fun hHeld => ?_)
      clear hK K
      refine wpAnyH_ready (rs := [12]) (by kernel_rfl) (by simp) ?_
      refine AllReadyH.cons rfl (fun K hK => ?_) AllReadyH.nil
      rw [if_pos (by rfl)]
      go_simp
      refine (same_rc _ _ _ _ _ _ _ _ HN67.out HN7.out).mono ?_
      rintro e w8 ⟨rfl, hb8⟩
      have HF8 := hid_in (HF7.out.below hb8)
      have HR8 := hid_in (HR7.out.below hb8)
      have HB8 := hid_in (HB7.out.trans (hb8.mono HB7.out.size))
      clear hb8
      go_simp
      refine hK.out _ _ (HCS.out _ HB8.out) (fun hHeld => ?_)
      clear hK K
      refine take_put (i := 13) (d := 71) (v := ?_) rfl rfl (by kernel_rfl) (by kernel_rfl) (by kernel_rfl) (fun _ _ _ h => h) (Or.inl ⟨by kernel_rfl, ?_⟩) hHeld ?_
      rotate_left
      · (intro w hSw; (try dsimp only at hSw); go_simp; (try with_reducible rfl))
      simp only [Act.put, List.setIfInBounds_toArray, List.set_cons_zero, List.set_cons_succ]
      refine wpAnyH_done (by kernel_rfl) ?_ _
      go_wp2_with fail
      refine ⟨⟨i + 1, by have := HLT.out; omega, by go_num, ⟨C, es7, HF8.out, HR8.out, HRE.out, HK6.out.tree, HK6.out.small, by have := HK6.out.len; have := HLA.out; omega, HB8.out⟩⟩, by have := HLT.out; simp [intOf]; omega⟩
    · have hiK : i = K := by have := HI.out; omega
      obtain ⟨A, es, hF, hR, hRe, hT, hS, hl, hb⟩ := hsc.out
      have HF := hid_in hF
      have HND := hid_in hF.one.1
      have HRE := hid_in hRe
      have HL := hid_in (Nat.le_trans hl (show 101 + i ≤ 200 by have := HK.out; omega))
      have HB := hid_in hb
      obtain ⟨lp, lc, hrow, hfo⟩ := hR.at9
      have HFO := hid_in hfo
      have m0 := hrow.cell 0
      simp only [List.getElem?_cons_zero] at m0
      clear hF hR hRe hT hS hl hb hsc hi HOC HOS hfo
      by_cases hj : i < M
      · have hj1 : (i : Int) < (M : Int) := by omega
        have hj2 : ¬ (i : Int) < 60 := by have := HK.out; omega
        clear hj hiK hlt
        go_upto_region 17 with fail
        have HF : Hid (FsA wr.drew g m A) := hid_in (HF.out.below (Nd.below_drewN (Below.refl _ wr) 1))
        have HB : Hid (Below w.heap.size w wr.drew) := hid_in (Nd.below_drewN HB.out 1)
        have HFO : Hid (FO wr.drew 0 (.slice lp es.length lc) (es.map Ent.fil)) := hid_in (HFO.out.below (Nd.below_drewN (Below.refl _ wr) 1))
        have hrow : Row wr.drew r [.slice lp es.length lc] 43 := hrow
        have m0 : wr.drew.cell? ⟨r, 0, none⟩ = some (.slice lp es.length lc) := m0
        refine wp_region_held_drew (S := fun W => W.cell? ⟨r, 0, none⟩ = some (.slice lp es.length lc)) (by kernel_rfl) m0 (fun hHeld => ?_)
        generalize wr.drew = wq at *
        refine take_put (i := 0) (d := 72) (v := ?_) rfl rfl (by kernel_rfl) (by kernel_rfl) (by kernel_rfl) (fun _ _ _ h => h) (Or.inl ⟨by kernel_rfl, ?_⟩) hHeld ?_
        rotate_left
        · (intro w hSw; (try dsimp only at hSw); go_simp; (try with_reducible rfl))
        simp only [Act.put, List.setIfInBounds_toArray, List.set_cons_zero, List.set_cons_succ]
        refine take_put (i := 2) (d := 74) (v := ?_) rfl rfl (by kernel_rfl) (by kernel_rfl) (by kernel_rfl) (fun _ _ _ h => h) (Or.inl ⟨by kernel_rfl, ?_⟩) hHeld ?_
        rotate_left
        · (intro w hSw; (try dsimp only at hSw); go_simp; (try with_reducible rfl))
        simp only [Act.put, List.setIfInBounds_toArray, List.set_cons_zero, List.set_cons_succ]
        refine take_put (i := 3) (d := 75) (v := ?_) rfl rfl (by kernel_rfl) (by kernel_rfl) (by kernel_rfl) (fun _ _ _ h => h) (Or.inl ⟨by kernel_rfl, ?_⟩) hHeld ?_
        rotate_left
        · (intro w hSw; (try dsimp only at hSw); go_simp; (try with_reducible rfl))
        simp only [Act.put, List.setIfInBounds_toArray, List.set_cons_zero, List.set_cons_succ]
        refine take_put (i := 4) (d := 76) (v := ?_) rfl rfl (by kernel_rfl) (by kernel_rfl) (by kernel_rfl) (fun _ _ _ h => h) (Or.inl ⟨by kernel_rfl, ?_⟩) hHeld ?_
        rotate_left
        · (intro w hSw; (try dsimp only at hSw); go_simp; (try with_reducible rfl))
        simp only [Act.put, List.setIfInBounds_toArray, List.set_cons_zero, List.set_cons_succ]
        refine take_put (i := 5) (d := 77) (v := ?_) rfl rfl (by kernel_rfl) (by kernel_rfl) (by kernel_rfl) (fun _ _ _ h => h) (Or.inl ⟨by kernel_rfl, ?_⟩) hHeld ?_
        rotate_left
        · (intro w hSw; (try dsimp only at hSw); go_simp; (try with_reducible rfl))
        simp only [Act.put, List.setIfInBounds_toArray, List.set_cons_zero, List.set_cons_succ]
        refine wpAnyH_ready (rs := [1]) (by kernel_rfl) (by simp) ?_
        refine AllReadyH.cons rfl (fun K hK => ?_) AllReadyH.nil
        rw [if_pos (by rfl)]
        go_simp
        refine (w_list HF.out (by have := HL.out; omega)).mono ?_
        rintro e w4 ⟨qp, qc, l, rfl, hw4, hl4, hF4, hb4⟩
        have HW4 := hid_in hw4
        have HE4 := hid_in (lists_ref HRE.out HND.out hl4)
        have HX4 := hid_in hb4
        have HB4 := hid_in (HB.out.trans (hb4.mono HB.out.size))
        have m4 := (hrow.below hb4 hrow.lt).cell 0
        simp only [List.getElem?_cons_zero] at m4
        clear hw4 hl4 hF4 hb4
        go_simp
        refine hK.out _ _ m4 (fun hHeld => ?_)
        clear hK K
        refine wpAnyH_ready (rs := [6]) (by kernel_rfl) (by simp) ?_
        refine AllReadyH.cons rfl (fun K hK => ?_) AllReadyH.nil
        rw [if_pos (by rfl)]
        go_simp
        refine (Rf.files_same l _ _ _ HW4.out (by rw [← HE4.out]; exact (HFO.out.below HX4.out).fls)).mono ?_
        rintro e w5 ⟨rfl, hb5⟩
        have HB5 := hid_in (HB4.out.trans (hb5.mono HB4.out.size))
        have m5 := (hrow.below (HX4.out.trans (hb5.mono HX4.out.size)) hrow.lt).cell 0
        simp only [List.getElem?_cons_zero] at m5
        clear hb5
        go_simp
        refine hK.out _ _ m5 (fun hHeld => ?_)
        clear hK K
        refine take_put (i := 7) (d := 4) (v := ?_) rfl rfl (by kernel_rfl) (by kernel_rfl) (by kernel_rfl) (fun _ _ _ h => h) (Or.inl ⟨by kernel_rfl, ?_⟩) hHeld ?_
        rotate_left
        · (intro w hSw; (try dsimp only at hSw); go_simp; (try with_reducible rfl))
        simp only [Act.put, List.setIfInBounds_toArray, List.set_cons_zero, List.set_cons_succ]
        refine wpAnyH_done (by kernel_rfl) ?_ _
        go_wp2_with fail
        go_ret
        exact ⟨rfl, HB5.out⟩
      · have hj1 : ¬ (i : Int) < (M : Int) := by omega
        clear hj hiK hlt
        go_upto_region 17 with fail
        have HF : Hid (FsA wr.drew g m A) := hid_in (HF.out.below (Nd.below_drewN (Below.refl _ wr) 1))
        have HB : Hid (Below w.heap.size w wr.drew) := hid_in (Nd.below_drewN HB.out 1)
        have HFO : Hid (FO wr.drew 0 (.slice lp es.length lc) (es.map Ent.fil)) := hid_in (HFO.out.below (Nd.below_drewN (Below.refl _ wr) 1))
        have hrow : Row wr.drew r [.slice lp es.length lc] 43 := hrow
        have m0 : wr.drew.cell? ⟨r, 0, none⟩ = some (.slice lp es.length lc) := m0
        refine wp_region_held_drew (S := fun W => W.cell? ⟨r, 0, none⟩ = some (.slice lp es.length lc)) (by kernel_rfl) m0 (fun hHeld => ?_)
        generalize wr.drew = wq at *
        refine take_put (i := 0) (d := 72) (v := ?_) rfl rfl (by kernel_rfl) (by kernel_rfl) (by kernel_rfl) (fun _ _ _ h => h) (Or.inl ⟨by kernel_rfl, ?_⟩) hHeld ?_
        rotate_left
        · (intro w hSw; (try dsimp only at hSw); go_simp; (try with_reducible rfl))
        simp only [Act.put, List.setIfInBounds_toArray, List.set_cons_zero, List.set_cons_succ]
        refine take_put (i := 2) (d := 74) (v := ?_) rfl rfl (by kernel_rfl) (by kernel_rfl) (by kernel_rfl) (fun _ _ _ h => h) (Or.inl ⟨by kernel_rfl, ?_⟩) hHeld ?_
        rotate_left
        · (intro w hSw; (try dsimp only at hSw); go_simp; (try with_reducible rfl))
        simp only [Act.put, List.setIfInBounds_toArray, List.set_cons_zero, List.set_cons_succ]
        refine take_put (i := 3) (d := 75) (v := ?_) rfl rfl (by kernel_rfl) (by kernel_rfl) (by kernel_rfl) (fun _ _ _ h => h) (Or.inl ⟨by kernel_rfl, ?_⟩) hHeld ?_
        rotate_left
        · (intro w hSw; (try dsimp only at hSw); go_simp; (try with_reducible rfl))
        simp only [Act.put, List.setIfInBounds_toArray, List.set_cons_zero, List.set_cons_succ]
        refine take_put (i := 4) (d := 76) (v := ?_) rfl rfl (by kernel_rfl) (by kernel_rfl) (by kernel_rfl) (fun _ _ _ h => h) (Or.inl ⟨by kernel_rfl, ?_⟩) hHeld ?_
        rotate_left
        · (intro w hSw; (try dsimp only at hSw); go_simp; (try with_reducible rfl))
        simp only [Act.put, List.setIfInBounds_toArray, List.set_cons_zero, List.set_cons_succ]
        refine take_put (i := 5) (d := 77) (v := ?_) rfl rfl (by kernel_rfl) (by kernel_rfl) (by kernel_rfl) (fun _ _ _ h => h) (Or.inl ⟨by kernel_rfl, ?_⟩) hHeld ?_
        rotate_left
        · (intro w hSw; (try dsimp only at hSw); go_simp; (try with_reducible rfl))
        simp only [Act.put, List.setIfInBounds_toArray, List.set_cons_zero, List.set_cons_succ]
        refine wpAnyH_ready (rs := [1]) (by kernel_rfl) (by simp) ?_
        refine AllReadyH.cons rfl (fun K hK => ?_) AllReadyH.nil
        rw [if_pos (by rfl)]
        go_simp
        refine (w_list HF.out (by have := HL.out; omega)).mono ?_
        rintro e w4 ⟨qp, qc, l, rfl, hw4, hl4, hF4, hb4⟩
        have HW4 := hid_in hw4
        have HE4 := hid_in (lists_ref HRE.out HND.out hl4)
        have HX4 := hid_in hb4
        have HB4 := hid_in (HB.out.trans (hb4.mono HB.out.size))
        have m4 := (hrow.below hb4 hrow.lt).cell 0
        simp only [List.getElem?_cons_zero] at m4
        clear hw4 hl4 hF4 hb4
        go_simp
        refine hK.out _ _ m4 (fun hHeld => ?_)
        clear hK K
        refine wpAnyH_ready (rs := [6]) (by kernel_rfl) (by simp) ?_
        refine AllReadyH.cons rfl (fun K hK => ?_) AllReadyH.nil
        rw [if_pos (by rfl)]
        go_simp
        refine (Rf.files_same l _ _ _ HW4.out (by rw [← HE4.out]; exact (HFO.out.below HX4.out).fls)).mono ?_
        rintro e w5 ⟨rfl, hb5⟩
        have HB5 := hid_in (HB4.out.trans (hb5.mono HB4.out.size))
        have m5 := (hrow.below (HX4.out.trans (hb5.mono HX4.out.size)) hrow.lt).cell 0
        simp only [List.getElem?_cons_zero] at m5
        clear hb5
        go_simp
        refine hK.out _ _ m5 (fun hHeld => ?_)
        clear hK K
        refine take_put (i := 7) (d := 4) (v := ?_) rfl rfl (by kernel_rfl) (by kernel_rfl) (by kernel_rfl) (fun _ _ _ h => h) (Or.inl ⟨by kernel_rfl, ?_⟩) hHeld ?_
        rotate_left
        · (intro w hSw; (try dsimp only at hSw); go_simp; (try with_reducible rfl))
        simp only [Act.put, List.setIfInBounds_toArray, List.set_cons_zero, List.set_cons_succ]
        refine wpAnyH_done (by kernel_rfl) ?_ _
        go_wp2_with fail
        go_ret
        exact ⟨rfl, HB5.out⟩
end Go.Proofs.YtngehkmdanhgpaaGreat.Pl
