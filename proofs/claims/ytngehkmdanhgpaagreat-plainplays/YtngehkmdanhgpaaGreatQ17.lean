/-
  The walks of add, mkdir, create. Texts: pieces of them, put together; the lesser of two numbers.
-/
import Derived.Lib.SlBytesConst
import Derived.Laws.CopyOwn
import Derived.Deep.RegionLaw
import Derived.Deep.DrawnRows
import Derived.Lib.AppendZeros
import Derived.Laws.Tables
import Derived.Test.YtngehkmdanhgpaaGreatQ00
import Derived.Test.YtngehkmdanhgpaaGreatQ01
import Derived.Test.YtngehkmdanhgpaaGreatQ02
import Derived.Test.YtngehkmdanhgpaaGreatQ03
import Derived.Test.YtngehkmdanhgpaaGreatQ04
import Derived.Test.YtngehkmdanhgpaaGreatQ05
import Derived.Test.YtngehkmdanhgpaaGreatQ06
import Derived.Test.YtngehkmdanhgpaaGreatQ07
import Derived.Test.YtngehkmdanhgpaaGreatQ08
import Derived.Test.YtngehkmdanhgpaaGreatQ09
import Derived.Test.YtngehkmdanhgpaaGreatQ10
import Derived.Test.YtngehkmdanhgpaaGreatQ11
import Derived.Test.YtngehkmdanhgpaaGreatQ12
import Derived.Test.YtngehkmdanhgpaaGreatQ13
import Derived.Test.YtngehkmdanhgpaaGreatQ14
import Derived.Test.YtngehkmdanhgpaaGreatQ15
import Derived.Test.YtngehkmdanhgpaaGreatQ16
namespace Go.Proofs.YtngehkmdanhgpaaGreat.Pl
open Go.RowKit
open Vp (Str B bl Val cmpL parseS showS splitS withinS IsPath)
open Nd (Row wp_world post_Row post_Row2 grownBy_setCell below_of_grown)
theorem Fs.set5 {W : World} {g m b : Nat} {L : List Spot} {vs : List Value} {t : TypeId} (h : Fs W g m L) (hr : Row W b vs t) (h9 : t ≠ 9) (hg : b ≠ g) (v0 v1 v2 v3 v4 : Value) : Fs (((((W.setCell ⟨b, 0, none⟩ v0).setCell ⟨b, 1, none⟩ v1).setCell ⟨b, 2, none⟩ v2).setCell ⟨b, 3, none⟩ v3).setCell ⟨b, 4, none⟩ v4) g m L := by
  have r1 := hr.set_same 0 v0
  have r2 := r1.set_same 1 v1
  have r3 := r2.set_same 2 v2
  have r4 := r3.set_same 3 v3
  exact ((((h.set hr h9 hg 0 v0).set r1 h9 hg 1 v1).set r2 h9 hg 2 v2).set r3 h9 hg 3 v3).set r4 h9 hg 4 v4
theorem grown_set {w W : World} {m b : Nat} (h : w.grownBy W (some m)) (hb : w.heap.size ≤ b) (j : Nat) (v : Value) : w.grownBy (W.setCell ⟨b, j, none⟩ v) (some m) :=
  World.grownBy.andThen h (grownBy_setCell W ⟨b, j, none⟩ v) (fun k e => .inl (by obtain rfl := Option.some.inj e; exact hb))
theorem grown_set5 {w W : World} {m b : Nat} (h : w.grownBy W (some m)) (hb : w.heap.size ≤ b) (v0 v1 v2 v3 v4 : Value) : w.grownBy (((((W.setCell ⟨b, 0, none⟩ v0).setCell ⟨b, 1, none⟩ v1).setCell ⟨b, 2, none⟩ v2).setCell ⟨b, 3, none⟩ v3).setCell ⟨b, 4, none⟩ v4) (some m) :=
  grown_set (grown_set (grown_set (grown_set (grown_set h hb 0 v0) hb 1 v1) hb 2 v2) hb 3 v3) hb 4 v4
theorem below_but {w W : World} (m : Nat) (h : Below w.heap.size w W) : w.grownBy W (some m) := (grown_of_below h).but _
theorem Row.map {w w' : World} {b m : Nat} {vs : List Value} {t : TypeId} {L : List Spot} (h : Row w b vs t) (hm : MapP w m L) (hg : w.grownBy w' (some m)) : Row w' b vs t := by
  refine Nd.Row.grown h hg ?_
  intro e
  obtain rfl := Option.some.inj e
  obtain ⟨es, clock, hb, _⟩ := hm.ex
  unfold Row at h
  rw [hb] at h
  cases h
def addE (A : List Ent) (xs : List Str) : Int := if xs = [] then 5 else if (findDA A xs.dropLast).2 ≠ 0 then (findDA A xs.dropLast).2 else if (entAt A xs).isSome then 5 else 0
def addA (A : List Ent) (xs : List Str) (d : Bool) : List Ent := if addE A xs = 0 then putA A ⟨xs, d, ⟨#[]⟩⟩ else A
theorem findD_sf {w : World} {m : Nat} {L : List Spot} (h : MapP w m L) (xs : List Str) : Sf (findD L xs).1 := by
  unfold findD
  split
  · exact ⟨_, _, _, rfl⟩
  · exact findP_sf h xs
theorem findF_sf {w : World} {m : Nat} {L : List Spot} (h : MapP w m L) (xs : List Str) : Sf (findF L xs).1 := by
  unfold findF
  split
  · exact ⟨_, _, _, rfl⟩
  · exact findP_sf h xs
set_option maxHeartbeats 4000000 in
set_option maxRecDepth 100000 in
theorem add_any {w : World} {g m : Nat} {L : List Spot} (h : Fs w g m L) {nv : Value} {xs : List Str} (hv : Rf.Nm w nv xs) (hx : Gp xs) (d : Bool) :
    Calls Tryz.prog 91 #[.pointer (some ⟨g, 0, none⟩), nv, .bool d] w fun e w' => e = .returned (Res.err (addE (L.map Spot.ent) xs)).val ∧ (∃ L', Fs w' g m L' ∧ L'.map Spot.ent = addA (L.map Spot.ent) xs d) ∧ w.grownBy w' (some m) := by
  have HV := hid_in hv
  obtain ⟨np, nc, rfl⟩ := hv.form
  have H := hid_in h
  have HX := hid_in hx
  have HG : Hid (w.heap.size ≠ g) := by have := h.row.lt; show _ ≠ _; omega
  obtain ⟨WA, HWA⟩ : ∃ WA, Hid (w.alloc (.cells #[.int .i64 0, .bool false, .int .i64 0, .string ⟨#[]⟩, .slice none 0 0] 37) = WA) := ⟨_, hid_in rfl⟩
  have HBA : Hid (Below w.heap.size w WA) := by rw [← HWA.out]; exact (Below.refl _ _).alloc (Nat.le_refl _) _
  have HRA : Hid (Row WA w.heap.size [.int .i64 0, .bool false, .int .i64 0, .string ⟨#[]⟩, .slice none 0 0] 37) := by rw [← HWA.out]; exact Row.new w [.int .i64 0, .bool false, .int .i64 0, .string ⟨#[]⟩, .slice none 0 0] 37
  have HE : Hid (addE (L.map Spot.ent) xs = if xs = [] then 5 else if (findDA (L.map Spot.ent) xs.dropLast).2 ≠ 0 then (findDA (L.map Spot.ent) xs.dropLast).2 else if (entAt (L.map Spot.ent) xs).isSome then 5 else 0) := rfl
  have HA : Hid (addA (L.map Spot.ent) xs d = if addE (L.map Spot.ent) xs = 0 then putA (L.map Spot.ent) ⟨xs, d, ⟨#[]⟩⟩ else L.map Spot.ent) := rfl
  obtain ⟨E, HEE⟩ : ∃ E, Hid (addE (L.map Spot.ent) xs = E) := ⟨_, hid_in rfl⟩
  obtain ⟨A', HAA⟩ : ∃ A', Hid (addA (L.map Spot.ent) xs d = A') := ⟨_, hid_in rfl⟩
  rw [HEE.out] at HE HA ⊢
  rw [HAA.out] at HA ⊢
  obtain ⟨nl, HNL⟩ : ∃ nl, Hid (xs.length = nl) := ⟨_, hid_in rfl⟩
  rw [HNL.out] at HV ⊢
  have HREF := hid_in (fun k W => refuse_any k W)
  simp only [Res.err, Res.val] at HREF ⊢
  clear h hv hx
  go_enter Tryz.func91, Tryz.ntmps91
  go_upto_region 1 with fail
  refine wp_world HWA.out ?_
  by_cases hne : xs = []
  · have hl : nl = 0 := by rw [← HNL.out, hne]; rfl
    have HEK : Hid (E = 5) := by show _ = _; rw [HE.out, if_pos hne]
    subst hl
    clear hne
    go_wp2_with (first | (go_at_call 30; refine (HREF.out _ _).mono ?_; rintro e w2 ⟨rfl, hb2⟩; obtain ⟨⟨g0, g1, g2, g3, g4⟩, k0, k1, k2, k3, k4⟩ := res_cells HRA.out hb2; have HR2 := hid_in (HRA.out.below hb2 HRA.out.lt); have HB2 := hid_in (HBA.out.trans (hb2.mono HBA.out.size)); clear hb2))
    refine post_Row 6 37 rfl w.heap.size rfl 37 [.int .i64 5, .bool false, .int .i64 0, .string ⟨#[]⟩, .slice none 0 0] (set5_row HR2.out rfl _ _ _ _ _) _ Tryz.underlying37 rfl 5 info37 rfl rfl ⟨by rw [HEK.out], ⟨L, (H.out.below HB2.out).set5 HR2.out (by decide) HG.out _ _ _ _ _, ?_⟩, grown_set5 (below_but m HB2.out) (Nat.le_refl _) _ _ _ _ _⟩
    rw [HA.out, HEK.out, if_neg (by decide)]
  · have hl : nl ≠ 0 := by rw [← HNL.out]; intro e; exact hne (List.length_eq_zero_iff.1 e)
    have k0 : ((nl : Int) == 0) = false := beq_eq_false_iff_ne.2 (by omega)
    have HDO := hid_in (dirOf_any (HV.out.below HBA.out).val HX.out)
    have HFD := hid_in (fun W (k : Below w.heap.size w W) v (kv : Val W v xs.dropLast) => findDir_any (H.out.below k) kv HX.out.dropLast)
    have hfe := (findD_ent L xs.dropLast).1
    have HE1 : Hid (E = if (findD L xs.dropLast).2 ≠ 0 then (findD L xs.dropLast).2 else if (entAt (L.map Spot.ent) xs).isSome then 5 else 0) := by show _ = _; rw [HE.out, if_neg hne, hfe]
    obtain ⟨qp, qn, qc, hsv⟩ := findD_sf H.out.map xs.dropLast
    generalize findD L xs.dropLast = r at *
    obtain ⟨⟨sv, sn, sp, sd, sx⟩, k⟩ := r
    simp only at hsv HE1
    subst hsv
    simp only [Spot.val] at HFD
    have HC4 : Hid ([Value.slice qp qn qc, .string sp, .bool sd, .string sx].length = 4) := rfl
    have HO4 : Hid (∀ v ∈ [Value.slice qp qn qc, .string sp, .bool sd, .string sx], v.oneCell' = true) := by
      intro v hv
      simp only [List.mem_cons, List.not_mem_nil, or_false] at hv
      rcases hv with rfl | rfl | rfl | rfl <;> rfl
    clear hne hl hfe HE
    go_upto_region 4 with (first | (go_at_call 54; refine HDO.out.mono ?_; rintro e w1 ⟨v1, rfl, hv1, hb1⟩; have HV1 := hid_in hv1; have HB1 := hid_in (HBA.out.trans (hb1.mono HBA.out.size)); have HC1 := hid_in hb1; clear hv1 hb1) | (go_at_call 96; refine (HFD.out _ HB1.out _ HV1.out).mono ?_; rintro e w2 ⟨rfl, hb2⟩; have HC2 := hid_in (HC1.out.trans (hb2.mono HC1.out.size)); clear hb2) | (refine Nd.wpList_store_new rfl rfl 63 4 _ _ rfl _ [Value.slice qp qn qc, .string sp, .bool sd, .string sx] info63 rfl HC4 HO4 rfl rfl ?_; intro w3 hr3 hb3 hs3; have HC3 := hid_in (HC2.out.trans (hb3.mono HC2.out.size)); clear hr3 hb3 hs3))
    have HB3 := hid_in (HBA.out.trans (HC3.out.mono HBA.out.size))
    by_cases hk : k = 0
    · subst hk
      have HE2 : Hid (E = if (entAt (L.map Spot.ent) xs).isSome then 5 else 0) := by show _ = _; rw [HE1.out, if_neg (by simp)]
      have HHAS := hid_in (has_any (H.out.below HB3.out) (HV.out.below HB3.out).val HX.out)
      have hse := spotAt_ent L xs
      cases hsp : spotAt L xs with
      | some t =>
        rw [hsp] at HHAS hse
        have HEK : Hid (E = 5) := by show _ = _; rw [HE2.out, ← hse]; rfl
        clear hsp hse
        go_wp2_with (first | (go_at_call 26; refine HHAS.out.mono ?_; rintro e w4 ⟨rfl, hb4⟩; have HC4' := hid_in (HC3.out.trans (hb4.mono HC3.out.size)); clear hb4) | (go_at_call 30; refine (HREF.out _ _).mono ?_; rintro e w5 ⟨rfl, hb5⟩; have hc5 := HC4'.out.trans (hb5.mono HC4'.out.size); obtain ⟨⟨g0, g1, g2, g3, g4⟩, q0, q1, q2, q3, q4⟩ := res_cells HRA.out hc5; have HR5 := hid_in (HRA.out.below hc5 HRA.out.lt); have HB5 := hid_in (HBA.out.trans (hc5.mono HBA.out.size)); clear hb5 hc5))
        refine post_Row 6 37 rfl w.heap.size rfl 37 [.int .i64 5, .bool false, .int .i64 0, .string ⟨#[]⟩, .slice none 0 0] (set5_row HR5.out rfl _ _ _ _ _) _ Tryz.underlying37 rfl 5 info37 rfl rfl ⟨by rw [HEK.out], ⟨L, (H.out.below HB5.out).set5 HR5.out (by decide) HG.out _ _ _ _ _, ?_⟩, grown_set5 (below_but m HB5.out) (Nat.le_refl _) _ _ _ _ _⟩
        rw [HA.out, HEK.out, if_neg (by decide)]
      | none =>
        rw [hsp] at HHAS hse
        have HEK : Hid (E = 0) := by show _ = _; rw [HE2.out, ← hse]; rfl
        have HPUT := hid_in (fun W (k : Below w.heap.size w W) => put_any (H.out.below k) (HV.out.below k) HX.out d ⟨#[]⟩)
        clear hsp hse
        go_wp2_with (first | (go_at_call 26; refine HHAS.out.mono ?_; rintro e w4 ⟨rfl, hb4⟩; have HC4' := hid_in (HC3.out.trans (hb4.mono HC3.out.size)); have HB4 := hid_in (HB3.out.trans (hb4.mono HB3.out.size)); clear hb4) | (go_at_call 25; refine (HPUT.out _ HB4.out).mono ?_; rintro e w5 ⟨rfl, hf5, hg5⟩; have hr5 := Row.map (HRA.out.below HC4'.out HRA.out.lt) (H.out.below HB4.out).map hg5; obtain ⟨⟨g0, g1, g2, g3, g4⟩, q0, q1, q2, q3, q4⟩ := res_cells hr5 (Below.refl _ w5); have HR5 := hid_in hr5; have HF5 := hid_in hf5; have HG5 := hid_in (grown_plus HB4.out hg5); clear hf5 hg5 hr5))
        refine post_Row 6 37 rfl w.heap.size rfl 37 [.int .i64 0, .bool false, .int .i64 0, .string ⟨#[]⟩, .slice none 0 0] (set5_row HR5.out rfl _ _ _ _ _) _ Tryz.underlying37 rfl 5 info37 rfl rfl ⟨by rw [HEK.out], ⟨_, HF5.out.set5 HR5.out (by decide) HG.out _ _ _ _ _, ?_⟩, grown_set5 HG5.out (Nat.le_refl _) _ _ _ _ _⟩
        rw [HA.out, HEK.out, if_pos rfl, putP_ent]
        rfl
    · have hk2 : (k != 0) = true := by simpa using hk
      have HEK : Hid (E = k) := by show _ = _; rw [HE1.out, if_pos hk]
      have HK0 := hid_in hk
      clear hk
      go_wp2_with (first | (go_at_call 30; refine (HREF.out _ _).mono ?_; rintro e w5 ⟨rfl, hb5⟩; have hc5 := HC3.out.trans (hb5.mono HC3.out.size); obtain ⟨⟨g0, g1, g2, g3, g4⟩, q0, q1, q2, q3, q4⟩ := res_cells HRA.out hc5; have HR5 := hid_in (HRA.out.below hc5 HRA.out.lt); have HB5 := hid_in (HBA.out.trans (hc5.mono HBA.out.size)); clear hb5 hc5))
      refine post_Row 6 37 rfl w.heap.size rfl 37 [.int .i64 k, .bool false, .int .i64 0, .string ⟨#[]⟩, .slice none 0 0] (set5_row HR5.out rfl _ _ _ _ _) _ Tryz.underlying37 rfl 5 info37 rfl rfl ⟨by rw [HEK.out], ⟨L, (H.out.below HB5.out).set5 HR5.out (by decide) HG.out _ _ _ _ _, ?_⟩, grown_set5 (below_but m HB5.out) (Nat.le_refl _) _ _ _ _ _⟩
      rw [HA.out, HEK.out, if_neg HK0.out]
end Go.Proofs.YtngehkmdanhgpaaGreat.Pl
namespace Go.Proofs.YtngehkmdanhgpaaGreat.Pl
open Go.RowKit
theorem str_add (x y : ByteArray) (h : x.size + y.size ≤ 9223372036854775807) (w : World) : (binOp .add 9 (.string x) (.string y)).run Tryz.prog w = .ok (.string (x ++ y)) w := by
  have h2 : ¬ (((x.size + y.size : Nat) : Int) > IntKind.i64.max) := by
    have : IntKind.i64.max = 9223372036854775807 := rfl
    omega
  simp only [binOp, Op.stringOp, if_neg h2, Sem.run_pure]
theorem bound_ok (n : Int) (m : Nat) (code : BoundsCode) (h0 : 0 ≤ n) (h1 : n ≤ m) (w : World) : (Instr.sliceBound (.int .i64 n) m code).run Tryz.prog w = .ok n.toNat w := by
  simp only [Instr.sliceBound, asIntOf, Sem.run_bind, Sem.run_pure, Result.andThen_ok]
  rw [if_pos ⟨h0, h1⟩, Sem.run_pure]
theorem str_to (s : ByteArray) (n : Int) (h0 : 0 ≤ n) (h1 : n ≤ s.size) (w : World) : (Instr.slice 9 (.string s) none (some (.int .i64 n)) none).run Tryz.prog w = .ok (.string (s.extract 0 n.toNat)) w := by
  simp [Instr.slice, Instr.sliceBounds, bound_ok n s.size _ h0 h1, Result.andThen]
theorem str_from (s : ByteArray) (n : Int) (h0 : 0 ≤ n) (h1 : n ≤ s.size) (w : World) : (Instr.slice 9 (.string s) (some (.int .i64 n)) none none).run Tryz.prog w = .ok (.string (s.extract n.toNat s.size)) w := by
  simp [Instr.slice, Instr.sliceBounds, bound_ok n s.size _ h0 h1, Result.andThen]
theorem str_mid (s : ByteArray) (l h : Int) (h0 : 0 ≤ l) (h1 : l ≤ h) (h2 : h ≤ s.size) (w : World) : (Instr.slice 9 (.string s) (some (.int .i64 l)) (some (.int .i64 h)) none).run Tryz.prog w = .ok (.string (s.extract l.toNat h.toNat)) w := by
  have h3 : ∀ code w, (Instr.sliceBound (.int .i64 l) h.toNat code).run Tryz.prog w = .ok l.toNat w := fun code w => bound_ok l h.toNat code h0 (by omega) w
  simp [Instr.slice, Instr.sliceBounds, bound_ok h s.size _ (by omega) h2, h3, Result.andThen]
theorem min_le (x y : Int) (h : x ≤ y) (ty : TypeId) (w : World) : (Builtin.min_ #[3, 3] ty #[.int .i64 x, .int .i64 y]).run Tryz.prog w = .ok (.int .i64 x) w := by
  have h2 : ¬ y < x := by omega
  simp [Builtin.min_, Builtin.min2, h2]
theorem min_gt (x y : Int) (h : y < x) (ty : TypeId) (w : World) : (Builtin.min_ #[3, 3] ty #[.int .i64 x, .int .i64 y]).run Tryz.prog w = .ok (.int .i64 y) w := by
  simp [Builtin.min_, Builtin.min2, h]
end Go.Proofs.YtngehkmdanhgpaaGreat.Pl
