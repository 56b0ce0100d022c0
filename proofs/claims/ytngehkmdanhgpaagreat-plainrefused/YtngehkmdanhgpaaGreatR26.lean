/-
  The walk of List. The walk of kids.
-/
import Derived.Laws.CopyOwn
import Derived.Deep.RegionLaw
import Derived.Deep.DrawnRows
import Derived.Lib.SlBytesConst
import Derived.Lib.AppendZeros
import Derived.Laws.Tables
import Derived.Test.YtngehkmdanhgpaaGreatR00
import Derived.Test.YtngehkmdanhgpaaGreatR01
import Derived.Test.YtngehkmdanhgpaaGreatR02
import Derived.Test.YtngehkmdanhgpaaGreatR03
import Derived.Test.YtngehkmdanhgpaaGreatR04
import Derived.Test.YtngehkmdanhgpaaGreatR05
import Derived.Test.YtngehkmdanhgpaaGreatR06
import Derived.Test.YtngehkmdanhgpaaGreatR07
import Derived.Test.YtngehkmdanhgpaaGreatR08
import Derived.Test.YtngehkmdanhgpaaGreatR09
import Derived.Test.YtngehkmdanhgpaaGreatR10
import Derived.Test.YtngehkmdanhgpaaGreatR11
import Derived.Test.YtngehkmdanhgpaaGreatR12
import Derived.Test.YtngehkmdanhgpaaGreatR13
import Derived.Test.YtngehkmdanhgpaaGreatR14
import Derived.Test.YtngehkmdanhgpaaGreatR15
import Derived.Test.YtngehkmdanhgpaaGreatR16
import Derived.Test.YtngehkmdanhgpaaGreatR17
import Derived.Test.YtngehkmdanhgpaaGreatR18
import Derived.Test.YtngehkmdanhgpaaGreatR19
import Derived.Test.YtngehkmdanhgpaaGreatR20
import Derived.Test.YtngehkmdanhgpaaGreatR21
import Derived.Test.YtngehkmdanhgpaaGreatR22
import Derived.Test.YtngehkmdanhgpaaGreatR23
import Derived.Test.YtngehkmdanhgpaaGreatR24
import Derived.Test.YtngehkmdanhgpaaGreatR25
namespace Go.Proofs.YtngehkmdanhgpaaGreat.Pl
open Go.RowKit
open Vp (Str B bl Val cmpL parseS showS splitS withinS IsPath)
open Nd (Row wp_world post_Row post_Row2 grownBy_setCell below_of_grown)
open Rf (Fil Fls fcells)
def Spot.fil (s : Spot) : Fil := ⟨s.path, s.dir, s.data⟩
theorem fills_fls {W : World} {b : Nat} {vs : List Value} {fs : List Fil} (hr : Row W b vs 48) (hf : Nd.Fills vs 3 (fs.map Fil.cells)) (hn : fs.length ≤ 9223372036854775807) : Fls W (.slice (some ⟨b, 0, none⟩) fs.length fs.length) fs := by
  refine ⟨_, fs.length, b, 0, rfl, Nat.le_refl _, hn, fun _ => ⟨rfl, hr.lt⟩, fun j u hj => ?_, fun e => by cases e⟩
  have hjl : j < fs.length * 3 := by rw [← Rf.fcells_len]; exact (List.getElem?_eq_some_iff.1 hj).1
  have hi : j / 3 < fs.length := by omega
  obtain ⟨s, hs⟩ : ∃ s, fs[j / 3]? = some s := ⟨_, List.getElem?_eq_getElem hi⟩
  have hy : j % 3 < s.cells.length := by simp [Fil.cells]; omega
  have h1 := Rf.fcells_at hs (j % 3) _ (List.getElem?_eq_getElem hy)
  have hjj : j / 3 * 3 + j % 3 = j := by omega
  rw [hjj, hj] at h1
  have h2 := hf (j / 3) s.cells (by rw [List.getElem?_map, hs]; rfl) (j % 3) _ (List.getElem?_eq_getElem hy)
  rw [hjj] at h2
  rw [Nat.zero_add, hr.cell, h2, h1]
/-- between two rounds of List -/
structure LR (w0 : World) (sp : List Spot) (i : Nat) (W : World) : Prop where
  ex : ∃ vs, Row W w0.heap.size vs 48 ∧ vs.length = sp.length * 3 ∧ Nd.Fills vs 3 ((sp.take i).map (fun s => s.fil.cells))
  bel : Below w0.heap.size w0 W
set_option maxHeartbeats 2000000 in
set_option maxRecDepth 100000 in
theorem list_any {w : World} {g m : Nat} {L : List Spot} (h : Fs w g m L) (hn : L.length ≤ 100000) :
    Calls Tryz.prog 16 #[.pointer (some ⟨g, 0, none⟩)] w fun e w' => ∃ (v : Value) (sp : List Spot), e = .returned v ∧ Fls w' v (sp.map Spot.fil) ∧ sp.Perm (L.filter (belowB [])) ∧ sp.Pairwise (fun s t => ¬ cmpL t.names s.names < 0) ∧ Fs w' g m L ∧ Below w.heap.size w w' := by
  have H := hid_in h
  have HBL := hid_in (below_any h (Vp.Val.none w) hn)
  have HN := hid_in hn
  have HSORT := hid_in (fun W (k : Below w.heap.size w W) v sp (hs : SO W w.heap.size v sp) (hp : sp.Perm (L.filter (belowB []))) => sort_any sp W w.heap.size v hs (fun s hs => (h.below k).map.nms s (List.mem_filter.1 (hp.mem_iff.1 hs)).1) (by rw [hp.length_eq]; have := List.length_filter_le (belowB []) L; omega))
  clear h hn
  obtain ⟨i48, z48, hi48, hs48, hb48, hz48, hzc48⟩ := Rf.info81h
  go_enter Tryz.func16, Tryz.ntmps16
  go_upto_region 4 with (first | (go_at_call 42; refine HBL.out.mono ?_; rintro e w1 ⟨v1, sp1, rfl, hs1, hp1, hb1⟩; have HS1 := hid_in hs1; have HP1 := hid_in hp1; have HB1 := hid_in hb1; obtain ⟨p1, cap1, rfl⟩ := hs1.form; clear hs1 hp1 hb1))
  go_upto_region 5 with (first | (go_at_call 43; refine (HSORT.out _ HB1.out _ _ HS1.out HP1.out).mono ?_; rintro e w2 ⟨rfl, hb2, sp, hp2, ho2, hs2⟩; have HB2 := hid_in (HB1.out.trans hb2); have HP2 := hid_in (hp2.trans HP1.out); have HPL := hid_in hp2.length_eq; have HO2 := hid_in ho2; have HS2 := hid_in hs2; clear hb2 hp2 ho2 hs2))
  have hlen : sp.length ≤ 100000 := by
    rw [HP2.out.length_eq]; have := List.length_filter_le (belowB []) L; have := HN.out; omega
  rw [← HPL.out] at HS2 ⊢
  have HSF : Hid (∀ s ∈ sp, Sf s) := fun s hs => by
    have h1 := H.out.map.nms s (List.mem_filter.1 (HP2.out.mem_iff.1 hs)).1
    obtain ⟨p, c, e⟩ := h1.form
    exact ⟨p, _, c, e⟩
  obtain ⟨p', cap', b, o, e1, hc1, hc2, h4, h5, h6⟩ := HS2.out
  simp only [Value.slice.injEq] at e1
  obtain ⟨rfl, _, rfl⟩ := e1
  have H4 := hid_in h4
  have H5 := hid_in h5
  clear h4 h5 h6
  go_wp2_with (first | (refine wpList_make_full _ rfl _ _ 22 rfl _ 48 i48 z48 3 Tryz.underlying22 hi48.out hz48.out hs48.out .i64 .i64 _ _ sp.length rfl rfl rfl rfl (by rw [hb48.out]; omega) (by simp [maxLen]; omega) (Nat.le_refl _) ?_; intro w3 hown hg3; obtain ⟨vs0, hr0, hl0⟩ := Nd.made_row hown; have HR0 := hid_in hr0; have HL0 := hid_in hl0; have HG3 := hid_in hg3; clear hown hr0 hl0 hg3))
  go_loopw [18] (fun vi W => ∃ i : Nat, i ≤ sp.length ∧ vi = .int .i64 (i : Int) ∧ Hid (LR w2 sp i W)) (fun vi _ => sp.length - (intOf vi).toNat)
  case atStart => exact ⟨0, by omega, rfl, ⟨vs0, HR0.out, HL0.out, fun i us h => by simp at h⟩, (Below.refl _ _).grown HG3.out (Nat.le_refl _) (fun k e => by cases e)⟩
  case round =>
    obtain ⟨i, hi, rfl, hpr⟩ := hrel
    by_cases hlt : i < sp.length
    · have hg : sp[i]? = some sp[i] := List.getElem?_eq_getElem hlt
      obtain ⟨hp, hb⟩ := H4.out (by intro h; simp [h] at hlt)
      have hrg : ∀ (y : Nat) u, (sp[i]).cells[y]? = some u → wr.cell? ⟨b, o + i * 4 + y, none⟩ = some u := fun y u hy => by
        rw [hpr.out.bel.cell (p := ⟨b, o + i * 4 + y, none⟩) hb, Nat.add_assoc]
        exact H5.out _ _ (scells_at hg y u hy)
      obtain ⟨nq, nl, nc, hsv⟩ := HSF.out _ (List.getElem_mem hlt)
      generalize sp[i] = s at *
      obtain ⟨sv, sn, st, sd, sx⟩ := s
      simp only at hsv
      subst hp hsv
      have m0 : wr.cell? ⟨b, o + i * 4, none⟩ = some (.slice nq nl nc) := by simpa using hrg 0 _ rfl
      have m1 : wr.cell? ⟨b, o + i * 4 + 1, none⟩ = some (.string st) := hrg 1 _ rfl
      have m2 : wr.cell? ⟨b, o + i * 4 + 2, none⟩ = some (.bool sd) := hrg 2 _ rfl
      have m3 : wr.cell? ⟨b, o + i * 4 + 3, none⟩ = some (.string sx) := hrg 3 _ rfl
      have HG := hid_in hg
      have HC4 : Hid ([Value.slice nq nl nc, .string st, .bool sd, .string sx].length = 4) := rfl
      have HO4 : Hid (∀ v ∈ [Value.slice nq nl nc, .string st, .bool sd, .string sx], v.oneCell' = true) := by
        intro v hv
        simp only [List.mem_cons, List.not_mem_nil, or_false] at hv
        rcases hv with rfl | rfl | rfl | rfl <;> rfl
      have HO3 : Hid (∀ v ∈ [Value.string st, .bool sd, .string sx], v.oneCell' = true) := by
        intro v hv
        simp only [List.mem_cons, List.not_mem_nil, or_false] at hv
        rcases hv with rfl | rfl | rfl <;> rfl
      clear hg hrg
      go_upto_region 9 with (first | (refine Nd.wpList_store_new rfl rfl 63 4 _ _ rfl _ [Value.slice nq nl nc, .string st, .bool sd, .string sx] info63 rfl HC4 HO4 rfl rfl ?_; intro w5 hr5 hb5 hs5))
      obtain ⟨⟨c0, c1, c2, c3⟩, -⟩ := spot_cells hr5 (Below.refl _ w5)
      have HR5 := hid_in hr5
      have HB5 := hid_in hb5
      have HS5 := hid_in hs5
      clear hr5 hb5 hs5 m0 m1 m2 m3
      obtain ⟨vs, hrw, hvl, hf⟩ := hpr.out.ex
      have hrw5 := hrw.below HB5.out hrw.lt
      have HVL := hid_in hvl
      have HF := hid_in hf
      have hwl := hrw5.lt
      clear hrw hvl hf
      go_wp2_with (first | (refine Nd.wpList_store_Row rfl 48 _ _ rfl w2.heap.size _ [Value.string st, .bool sd, .string sx] rfl rfl 48 vs hrw5 3 info48 rfl (by rw [HVL.out]; omega) HO3.out ?_; intro w9 hr9 hg9 hs9))
      have HR9 := hid_in hr9
      have HG9 := hid_in hg9
      clear hr9 hg9 hs9 hrw5
      go_roundw
      case rel =>
        go_light
        refine ⟨i + 1, by omega, by go_num, ⟨_, HR9.out, ?_, ?_⟩, ?_⟩
        · rw [Nd.splice_length _ _ _ (by rw [HVL.out]; simp; omega)]; exact HVL.out
        · have hll : ((sp.take i).map (fun s => s.fil.cells)).length = i := by rw [List.length_map, List.length_take]; omega
          have h3 := HF.out.snoc (fun us hus => by obtain ⟨s, _, rfl⟩ := List.mem_map.1 hus; rfl) [Value.string st, .bool sd, .string sx] rfl (by rw [hll, HVL.out]; omega)
          rw [hll] at h3
          rw [List.take_add_one, HG.out, List.map_append]
          exact h3
        · exact below_of_grown (hpr.out.bel.trans (HB5.out.mono hpr.out.bel.size)) HG9.out (Nat.le_trans hpr.out.bel.size HB5.out.size) (Nat.le_refl _)
      case measure => simp [intOf]; omega
    · obtain rfl : i = sp.length := by omega
      go_wp2_with fail
      go_ret
      obtain ⟨vs, hr, hl, hf⟩ := hpr.out.ex
      have hb := HB2.out.trans (hpr.out.bel.mono HB2.out.size)
      refine ⟨_, rfl, sp, ?_, HP2.out, HO2.out, H.out.below hb, hb⟩
      have h7 := fills_fls (fs := sp.map Spot.fil) hr (by rw [List.take_length] at hf; rw [List.map_map]; exact hf) (by rw [List.length_map]; omega)
      rw [List.length_map] at h7
      exact h7
end Go.Proofs.YtngehkmdanhgpaaGreat.Pl
namespace Go.Proofs.YtngehkmdanhgpaaGreat.Pl
open Go.RowKit
open Vp (Str B bl Val cmpL parseS showS splitS withinS IsPath)
open Nd (Row wp_world post_Row post_Row2 grownBy_setCell below_of_grown)
def kidB (xs : List Str) (s : Spot) : Bool := decide (s.names.length = xs.length + 1)
set_option maxHeartbeats 4000000 in
set_option maxRecDepth 100000 in
theorem kids_any {w : World} {g m : Nat} {L : List Spot} (h : Fs w g m L) {nv : Value} {xs : List Str} (hv : Val w nv xs) (hn : L.length ≤ 100000) (hx : xs.length ≤ 100) :
    Calls Tryz.prog 100 #[.pointer (some ⟨g, 0, none⟩), nv] w fun e w' => ∃ (v : Value) (sp : List Spot), e = .returned v ∧ SO w' w.heap.size v sp ∧ sp.Perm ((L.filter (belowB xs)).filter (kidB xs)) ∧ Below w.heap.size w w' := by
  have HV := hid_in hv
  obtain ⟨np, nc, rfl⟩ : ∃ p c, nv = .slice p xs.length c := by obtain ⟨p, c, e, _⟩ := hv; exact ⟨p, c, e⟩
  have H := hid_in h
  have HN := hid_in hn
  have HBL := hid_in (below_any h hv hn)
  obtain ⟨nl, HNL⟩ : ∃ nl, Hid (xs.length = nl) := ⟨_, hid_in rfl⟩
  rw [HNL.out] at HV HBL hx ⊢
  clear h hv hn
  go_enter Tryz.func100, Tryz.ntmps100
  go_upto_region 3 with (first | (go_at_call 42; refine HBL.out.mono ?_; rintro e w1 ⟨v1, sp, rfl, hs1, hp1, hb1⟩; have HS1 := hid_in hs1; have HP1 := hid_in hp1; have HB1 := hid_in hb1; obtain ⟨p1, cap1, rfl⟩ := hs1.form; clear hs1 hp1 hb1))
  have hlen : sp.length ≤ 100000 := by
    rw [HP1.out.length_eq]; have := List.length_filter_le (belowB xs) L; have := HN.out; omega
  have HNMS : Hid (∀ s ∈ sp, Rf.Nm w s.v s.names) := fun s hs => H.out.map.nms s (List.mem_filter.1 (HP1.out.mem_iff.1 hs)).1
  obtain ⟨p', cap', b, o, e1, hc1, hc2, h4, h5, h6⟩ := HS1.out.sps
  simp only [Value.slice.injEq] at e1
  obtain ⟨rfl, _, rfl⟩ := e1
  have H4 := hid_in h4
  have H5 := hid_in h5
  clear h4 h5 h6
  go_wp2_with fail
  go_loopw [5, 12] (fun v vi W => ∃ i : Nat, i ≤ sp.length ∧ vi = .int .i64 (i : Int) ∧ Hid (SO W w1.heap.size v ((sp.take i).filter (kidB xs)) ∧ Below w1.heap.size w1 W)) (fun _ vi _ => sp.length - (intOf vi).toNat)
  case atStart => exact ⟨0, by omega, rfl, SO.nil _ _, Below.refl _ _⟩
  case round =>
    obtain ⟨i, hi, rfl, hR⟩ := hrel
    by_cases hlt : i < sp.length
    · have hg : sp[i]? = some sp[i] := List.getElem?_eq_getElem hlt
      obtain ⟨hp, hb⟩ := H4.out (by intro h; simp [h] at hlt)
      have hrg : ∀ (y : Nat) u, (sp[i]).cells[y]? = some u → wr.cell? ⟨b, o + i * 4 + y, none⟩ = some u := fun y u hy => by
        rw [hR.out.2.cell (p := ⟨b, o + i * 4 + y, none⟩) hb, Nat.add_assoc]
        exact H5.out _ _ (scells_at hg y u hy)
      have hnm := HNMS.out _ (List.getElem_mem hlt)
      have HTAKE : Hid ((sp.take (i + 1)).filter (kidB xs) = (sp.take i).filter (kidB xs) ++ if kidB xs sp[i] then [sp[i]] else []) := by
        show _ = _
        rw [List.take_add_one, hg, List.filter_append]
        simp only [Option.toList_some, List.filter_cons, List.filter_nil]
      generalize sp[i] = s at *
      obtain ⟨sv, sn, st, sd, sx⟩ := s
      simp only at hnm
      obtain ⟨nq, qc, rfl⟩ := hnm.form
      subst hp
      have m0 : wr.cell? ⟨b, o + i * 4, none⟩ = some (.slice nq sn.length qc) := by simpa using hrg 0 _ rfl
      have m1 : wr.cell? ⟨b, o + i * 4 + 1, none⟩ = some (.string st) := hrg 1 _ rfl
      have m2 : wr.cell? ⟨b, o + i * 4 + 2, none⟩ = some (.bool sd) := hrg 2 _ rfl
      have m3 : wr.cell? ⟨b, o + i * 4 + 3, none⟩ = some (.string sx) := hrg 3 _ rfl
      obtain ⟨ql, HQL⟩ : ∃ ql, Hid (sn.length = ql) := ⟨_, hid_in rfl⟩
      rw [HQL.out] at m0 HTAKE
      have HKB : Hid (kidB xs ⟨.slice nq ql qc, sn, st, sd, sx⟩ = decide (ql = nl + 1)) := by
        show _ = _
        simp only [kidB, HQL.out, HNL.out]
      rw [HKB.out] at HTAKE
      have HC4 : Hid ([Value.slice nq ql qc, .string st, .bool sd, .string sx].length = 4) := rfl
      have HO4 : Hid (∀ v ∈ [Value.slice nq ql qc, .string st, .bool sd, .string sx], v.oneCell' = true) := by
        intro v hv
        simp only [List.mem_cons, List.not_mem_nil, or_false] at hv
        rcases hv with rfl | rfl | rfl | rfl <;> rfl
      clear hg hrg hnm
      go_upto_region 5 with (first | (refine Nd.wpList_store_new rfl rfl 63 4 _ _ rfl _ [Value.slice nq ql qc, .string st, .bool sd, .string sx] info63 rfl HC4 HO4 rfl rfl ?_; intro w5 hr5 hb5 hs5))
      obtain ⟨⟨c0, c1, c2, c3⟩, -⟩ := spot_cells hr5 (Below.refl _ w5)
      have HR5 := hid_in hr5
      have HB5 := hid_in hb5
      clear hr5 hb5 hs5 m0 m1 m2 m3
      by_cases hk : ql = nl + 1
      · have k1 : ((ql : Int) == (nl : Int) + 1) = true := by simp; omega
        rw [decide_eq_true hk] at HTAKE
        clear hk
        have HB6 : Hid (Below w5.heap.size w5 (w5.alloc (.cells #[.slice nq ql qc, .string st, .bool sd, .string sx] 63))) := (Below.refl _ _).alloc (Nat.le_refl _) _
        have HB26 := hid_in (HB5.out.trans (HB6.out.mono HB5.out.size))
        have HO6 := hid_in (hR.out.1.below HB26.out)
        have HF6 := hid_in (sps_one w5 ⟨.slice nq ql qc, sn, st, sd, sx⟩)
        simp only at HF6
        have HSZ6 : Hid (w1.heap.size ≤ (w5.alloc (.cells #[.slice nq ql qc, .string st, .bool sd, .string sx] 63)).heap.size) := Nat.le_trans hR.out.2.size HB26.out.size
        have HL6 : Hid (((sp.take i).filter (kidB xs)).length + [(⟨.slice nq ql qc, sn, st, sd, sx⟩ : Spot)].length ≤ 1000000) := by
          show _ ≤ _
          have h3 := List.length_filter_le (kidB xs) (sp.take i)
          rw [List.length_take] at h3
          simp only [List.length_cons, List.length_nil]
          omega
        go_wp2_with (first | (at_builtin; refine wpList_app63 w1.heap.size rfl (.tmp 23) (.tmp 25) rfl u5 ((sp.take i).filter (kidB xs)) [(⟨.slice nq ql qc, sn, st, sd, sx⟩ : Spot)] rfl HO6.out _ rfl HF6.out (fun t ht => by rw [List.mem_singleton.1 ht]; exact ⟨_, _, _, rfl⟩) HL6.out HSZ6.out ?_; intro v7 w7 ho7 hg7; have HO7 := hid_in ho7; have HB7 := hid_in (HO6.out.step (hR.out.2.trans (HB26.out.mono hR.out.2.size)) HSZ6.out hg7); clear ho7 hg7))
        refine ⟨⟨i + 1, by omega, by go_num, ?_, HB7.out⟩, by simp [intOf]; omega⟩
        rw [HTAKE.out]
        exact HO7.out
      · have k1 : ((ql : Int) == (nl : Int) + 1) = false := beq_eq_false_iff_ne.2 (by omega)
        rw [decide_eq_false hk] at HTAKE
        clear hk
        go_wp2
        refine ⟨⟨i + 1, by omega, by go_num, ?_, hR.out.2.trans (HB5.out.mono hR.out.2.size)⟩, by simp [intOf]; omega⟩
        rw [HTAKE.out]
        simpa using hR.out.1.below HB5.out
    · obtain rfl : i = sp.length := by omega
      go_wp2_with fail
      go_ret
      have h7 := hR.out.1
      rw [List.take_length] at h7
      exact ⟨_, _, rfl, h7.mono HB1.out.size, HP1.out.filter _, HB1.out.trans (hR.out.2.mono HB1.out.size)⟩
end Go.Proofs.YtngehkmdanhgpaaGreat.Pl
