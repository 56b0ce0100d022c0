/-
  The walk of checkMove. slices.Grow of none, slices.Concat of two paths.
-/
import Derived.Lib.SlBytesConst
import Derived.Laws.CopyOwn
import Derived.Deep.RegionLaw
import Derived.Deep.DrawnRows
import Derived.Lib.AppendZeros
import Derived.Laws.Tables
import Derived.Test.YtngehkmdanhgpaaGreatQ00
import Derived.Test.YtngehkmdanhgpaaGreatQ01
import Derived.Test.YtngehkmdanhgpaaGreatQ02
import Derived.Test.YtngehkmdanhgpaaGreatQ03
import Derived.Test.YtngehkmdanhgpaaGreatQ04
import Derived.Test.YtngehkmdanhgpaaGreatQ05
import Derived.Test.YtngehkmdanhgpaaGreatQ06
import Derived.Test.YtngehkmdanhgpaaGreatQ07
import Derived.Test.YtngehkmdanhgpaaGreatQ08
import Derived.Test.YtngehkmdanhgpaaGreatQ09
import Derived.Test.YtngehkmdanhgpaaGreatQ10
import Derived.Test.YtngehkmdanhgpaaGreatQ11
import Derived.Test.YtngehkmdanhgpaaGreatQ12
import Derived.Test.YtngehkmdanhgpaaGreatQ13
import Derived.Test.YtngehkmdanhgpaaGreatQ14
import Derived.Test.YtngehkmdanhgpaaGreatQ15
import Derived.Test.YtngehkmdanhgpaaGreatQ16
import Derived.Test.YtngehkmdanhgpaaGreatQ17
import Derived.Test.YtngehkmdanhgpaaGreatQ18
import Derived.Test.YtngehkmdanhgpaaGreatQ19
import Derived.Test.YtngehkmdanhgpaaGreatQ21
import Derived.Test.YtngehkmdanhgpaaGreatQ22
import Derived.Test.YtngehkmdanhgpaaGreatQ23
namespace Go.Proofs.YtngehkmdanhgpaaGreat.Pl
open Go.RowKit
open Vp (Str B bl Val cmpL parseS showS splitS withinS IsPath)
open Nd (Row wp_world post_Row post_Row2 grownBy_setCell below_of_grown)
def cvE (A : List Ent) (p q : List Str) : Int := match entAt A q with
  | none => 0
  | some o => covE A (((entAt A p).map Ent.dir).getD false) o.dir q
def deepE (p q : List Str) (e : Ent) : Bool := decide (8 + p.length < e.names.length + q.length)
def mvE (A : List Ent) (p q : List Str) : Int := if withinS q p = true then 131 else if cvE A p q ≠ 0 then cvE A p q else if (A.filter (belowE p)).any (deepE p q) then 42 else 0
def deepB (p q : List Str) (s : Spot) : Bool := decide (8 + p.length < s.names.length + q.length)
theorem deep_perm {L sp : List Spot} {p q : List Str} (h : sp.Perm (L.filter (belowB p))) : ((L.map Spot.ent).filter (belowE p)).any (deepE p q) = sp.any (deepB p q) := by
  rw [← belowB_ent, List.any_map]
  have e : (deepE p q ∘ Spot.ent) = deepB p q := rfl
  rw [e]
  cases h1 : sp.any (deepB p q) with
  | true =>
    obtain ⟨s, hs, hd⟩ := List.any_eq_true.1 h1
    exact List.any_eq_true.2 ⟨s, h.mem_iff.1 hs, hd⟩
  | false =>
    rw [List.any_eq_false] at h1 ⊢
    exact fun s hs => h1 s (h.mem_iff.2 hs)
set_option maxHeartbeats 4000000 in
set_option maxRecDepth 100000 in
theorem checkMove_any {w : World} {g m : Nat} {L : List Spot} (h : Fs w g m L) (hn : L.length ≤ 100000) {pv qv : Value} {p q : List Str} (hp : Val w pv p) (hq : Val w qv q) (gp : Gp p) (gq : Gp q) :
    Calls Tryz.prog 98 #[.pointer (some ⟨g, 0, none⟩), pv, qv] w fun e w' => e = .returned (.int .i64 (mvE (L.map Spot.ent) p q)) ∧ Below w.heap.size w w' := by
  have HP := hid_in hp
  have HQ := hid_in hq
  obtain ⟨pp, pc, rfl⟩ : ∃ a c, pv = .slice a p.length c := by obtain ⟨a, c, e, _⟩ := hp; exact ⟨a, c, e⟩
  obtain ⟨qp, qc, rfl⟩ : ∃ a c, qv = .slice a q.length c := by obtain ⟨a, c, e, _⟩ := hq; exact ⟨a, c, e⟩
  have H := hid_in h
  have HN := hid_in hn
  have HGP := hid_in gp
  have HGQ := hid_in gq
  have HWI := hid_in (Vp.within_v hq hp)
  have HHAS := hid_in (fun W (k : Below w.heap.size w W) => has_any (h.below k) (hq.below k) gq)
  have HG1 := hid_in (fun W (k : Below w.heap.size w W) => get_any (h.below k) (hp.below k) gp)
  have HG2 := hid_in (fun W (k : Below w.heap.size w W) => get_any (h.below k) (hq.below k) gq)
  have HBL := hid_in (fun W (k : Below w.heap.size w W) => below_any (h.below k) (hp.below k) hn)
  have HE : Hid (mvE (L.map Spot.ent) p q = if withinS q p = true then 131 else if cvE (L.map Spot.ent) p q ≠ 0 then cvE (L.map Spot.ent) p q else if ((L.map Spot.ent).filter (belowE p)).any (deepE p q) then 42 else 0) := rfl
  have hse := spotAt_ent L q
  have hsp := spotAt_ent L p
  have HC : Hid (cvE (L.map Spot.ent) p q = match spotAt L q with | none => 0 | some o => covE (L.map Spot.ent) ((spotAt L p).getD Spot.zero).dir o.dir q) := by
    show _ = _
    unfold cvE
    rw [← hse, ← hsp]
    cases spotAt L q with
    | none => rfl
    | some o => cases spotAt L p <;> rfl
  generalize mvE (L.map Spot.ent) p q = E at *
  generalize cvE (L.map Spot.ent) p q = C at *
  obtain ⟨pl, HPL⟩ : ∃ pl, Hid (p.length = pl) := ⟨_, hid_in rfl⟩
  obtain ⟨ql, HQL⟩ : ∃ ql, Hid (q.length = ql) := ⟨_, hid_in rfl⟩
  have hpl8 : pl ≤ 8 := by rw [← HPL.out]; exact gp.2
  have hql8 : ql ≤ 8 := by rw [← HQL.out]; exact gq.2
  rw [HPL.out] at HP HWI HG1 HBL ⊢
  rw [HQL.out] at HQ HWI HHAS HG2 ⊢
  clear hp hq gp gq hse hsp hn
  cases hwi : withinS q p with
  | true =>
    rw [hwi] at HWI HE
    have HEK : Hid (E = 131) := by show _ = _; rw [HE.out, if_pos rfl]
    clear h hwi
    go_enter Tryz.func98, Tryz.ntmps98
    go_wp2_with (first | (go_at_call 78; refine HWI.out.mono ?_; rintro e w1 ⟨rfl, hd1⟩; have HB1 : Hid (Below w.heap.size w w1) := (by obtain ⟨n, rfl⟩ := hd1; exact below_drewN (Below.refl _ _) n); clear hd1))
    go_ret
    exact ⟨by rw [HEK.out]; rfl, HB1.out⟩
  | false =>
    rw [hwi] at HWI HE
    have HE1 : Hid (E = if C ≠ 0 then C else if ((L.map Spot.ent).filter (belowE p)).any (deepE p q) then 42 else 0) := by show _ = _; rw [HE.out, if_neg (by decide)]
    clear hwi HE
    go_enter Tryz.func98, Tryz.ntmps98
    go_upto_region 3 with (first | (go_at_call 78; refine HWI.out.mono ?_; rintro e w1 ⟨rfl, hd1⟩; have HB1 : Hid (Below w.heap.size w w1) := (by obtain ⟨n, rfl⟩ := hd1; exact below_drewN (Below.refl _ _) n); clear hd1))
    cases hsq : spotAt L q with
    | none =>
      rw [hsq] at HHAS HC
      have HE2 : Hid (E = if ((L.map Spot.ent).filter (belowE p)).any (deepE p q) then 42 else 0) := by show _ = _; rw [HE1.out, HC.out, if_neg (by simp)]
      clear hsq HE1 h
      go_upto_region 7 with (first | (go_at_call 26; refine (HHAS.out _ HB1.out).mono ?_; rintro e w2 ⟨rfl, hb2⟩; have HBX := hid_in (HB1.out.trans (hb2.mono HB1.out.size)); clear hb2))
      go_upto_region 8 with (first | (go_at_call 42; refine (HBL.out _ HBX.out).mono ?_; rintro e w5 ⟨v5, sp, rfl, hs5, hp5, hb5⟩; have HS5 := hid_in hs5; have HP5 := hid_in hp5; have HB5 := hid_in (HBX.out.trans (hb5.mono HBX.out.size)); obtain ⟨p5, cap5, rfl⟩ := hs5.form; clear hs5 hp5 hb5))
      have hlen : sp.length ≤ 100000 := by
        rw [HP5.out.length_eq]; have := List.length_filter_le (belowB p) L; have := HN.out; omega
      have HNMS : Hid (∀ s ∈ sp, Rf.Nm w s.v s.names ∧ s.names.length ≤ 8) := fun s hs => by
        have hm := (List.mem_filter.1 (HP5.out.mem_iff.1 hs)).1
        exact ⟨H.out.map.nms s hm, (H.out.map.good s hm).2.2⟩
      rw [deep_perm HP5.out] at HE2
      obtain ⟨p', cap', b, o, e1, hc1, hc2, h4, h5, h6⟩ := HS5.out.sps
      simp only [Value.slice.injEq] at e1
      obtain ⟨rfl, _, rfl⟩ := e1
      have H4 := hid_in h4
      have H5 := hid_in h5
      clear h4 h5 h6
      go_wp2_with fail
      go_loopw [31] (fun vi W => ∃ i : Nat, i ≤ sp.length ∧ vi = .int .i64 (i : Int) ∧ Hid ((sp.take i).any (deepB p q) = false ∧ Below w5.heap.size w5 W)) (fun vi _ => sp.length - (intOf vi).toNat)
      case atStart => exact ⟨0, by omega, rfl, by simp, Below.refl _ _⟩
      case round =>
        obtain ⟨i, hi, rfl, hR⟩ := hrel
        by_cases hlt : i < sp.length
        · have hg : sp[i]? = some sp[i] := List.getElem?_eq_getElem hlt
          obtain ⟨hp, hb⟩ := H4.out (by intro h; simp [h] at hlt)
          have hrg : ∀ (y : Nat) u, (sp[i]).cells[y]? = some u → wr.cell? ⟨b, o + i * 4 + y, none⟩ = some u := fun y u hy => by
            rw [hR.out.2.cell (p := ⟨b, o + i * 4 + y, none⟩) hb, Nat.add_assoc]
            exact H5.out _ _ (scells_at hg y u hy)
          obtain ⟨hnm, hn8⟩ := HNMS.out _ (List.getElem_mem hlt)
          have HG := hid_in hg
          generalize sp[i] = s at *
          obtain ⟨sv, sn, st, sd, sx⟩ := s
          simp only at hnm hn8
          obtain ⟨nq, qc', rfl⟩ := hnm.form
          subst hp
          have m0 : wr.cell? ⟨b, o + i * 4, none⟩ = some (.slice nq sn.length qc') := by simpa using hrg 0 _ rfl
          have m1 : wr.cell? ⟨b, o + i * 4 + 1, none⟩ = some (.string st) := hrg 1 _ rfl
          have m2 : wr.cell? ⟨b, o + i * 4 + 2, none⟩ = some (.bool sd) := hrg 2 _ rfl
          have m3 : wr.cell? ⟨b, o + i * 4 + 3, none⟩ = some (.string sx) := hrg 3 _ rfl
          obtain ⟨sl, HSL⟩ : ∃ sl, Hid (sn.length = sl) := ⟨_, hid_in rfl⟩
          rw [HSL.out] at m0 hn8
          have HDB : Hid (deepB p q ⟨.slice nq sn.length qc', sn, st, sd, sx⟩ = decide (8 + pl < sl + ql)) := by
            show _ = _
            simp only [deepB, HSL.out, HPL.out, HQL.out]
          clear hg hrg hnm
          go_upto_region 10 with (first | (refine Nd.wpList_store_new rfl rfl 63 4 _ _ rfl _ [Value.slice nq sl qc', .string st, .bool sd, .string sx] info63 rfl (hid_in rfl) (spot_one _ _ _ _ _ _) rfl rfl ?_; intro w6 hr6 hb6 hs6))
          obtain ⟨⟨c0, c1, c2, c3⟩, -⟩ := spot_cells hr6 (Below.refl _ w6)
          have HB6 := hid_in (hR.out.2.trans (hb6.mono hR.out.2.size))
          clear hr6 hb6 hs6 m0 m1 m2 m3
          have kw1 : IntKind.i64.wrap ((sl : Int) - (pl : Int)) = (sl : Int) - (pl : Int) := by rw [IntKind.wrap_i64]; omega
          have kw2 : IntKind.i64.wrap ((sl : Int) - (pl : Int) + (ql : Int)) = (sl : Int) - (pl : Int) + (ql : Int) := by rw [IntKind.wrap_i64]; omega
          by_cases hk : 8 + pl < sl + ql
          · have k1 : (8 : Int) < (sl : Int) - (pl : Int) + (ql : Int) := by omega
            rw [decide_eq_true hk] at HDB
            have HEK : Hid (E = 42) := by
              show _ = _
              rw [HE2.out, any_hit HG.out HDB.out, if_pos rfl]
            clear hk
            go_wp2
            go_ret
            exact ⟨by rw [HEK.out]; rfl, HB5.out.trans (HB6.out.mono HB5.out.size)⟩
          · have k1 : ¬ (8 : Int) < (sl : Int) - (pl : Int) + (ql : Int) := by omega
            rw [decide_eq_false hk] at HDB
            clear hk
            go_wp2
            exact ⟨⟨i + 1, by omega, by go_num, any_take HG.out hR.out.1 HDB.out, HB6.out⟩, by simp [intOf]; omega⟩
        · obtain rfl : i = sp.length := by omega
          have HEK : Hid (E = 0) := by
            have h7 := hR.out.1
            rw [List.take_length] at h7
            show _ = _
            rw [HE2.out, h7]; rfl
          go_wp2_with fail
          go_ret
          exact ⟨by rw [HEK.out]; rfl, HB5.out.trans (hR.out.2.mono HB5.out.size)⟩
    | some s0 =>
      rw [hsq] at HHAS HC HG2
      have hs0 : s0.names = q := by have h2 := List.find?_some hsq; exact of_decide_eq_true h2
      have hvo := H.out.map.nms _ (List.mem_of_find?_eq_some hsq)
      have HCV := hid_in (fun W (k : Below w.heap.size w W) => checkCover_any (h.below k) HN.out ((spotAt L p).getD Spot.zero) s0 (sf_getD h.map p) (hvo.below k).val)
      rw [hs0] at HCV
      simp only at HC
      rw [← HC.out] at HCV
      simp only [Option.getD_some] at HG2
      clear hsq HC h hvo hs0
      generalize (spotAt L p).getD Spot.zero = f0 at *
      go_upto_region 5 with (first | (go_at_call 26; refine (HHAS.out _ HB1.out).mono ?_; rintro e w2 ⟨rfl, hb2⟩; have HB2 := hid_in (HB1.out.trans (hb2.mono HB1.out.size)); clear hb2) | (go_at_call 56; have hx := HG1.out; refine (HG1.out _ HB2.out).mono ?_; rintro e w3 ⟨rfl, hb3⟩; have HB3 := hid_in (HB2.out.trans (hb3.mono HB2.out.size)); clear hb3 HG1 hx) | (go_at_call 56; refine (HG2.out _ HB3.out).mono ?_; rintro e w4 ⟨rfl, hb4⟩; have HB4 := hid_in (HB3.out.trans (hb4.mono HB3.out.size)); clear hb4) | (go_at_call 126; refine (HCV.out _ HB4.out).mono ?_; rintro e w7 ⟨rfl, hb7⟩; have HBX := hid_in (HB4.out.trans (hb7.mono HB4.out.size)); clear hb7))
      by_cases hC : C = 0
      · subst hC
        have HE2 : Hid (E = if ((L.map Spot.ent).filter (belowE p)).any (deepE p q) then 42 else 0) := by show _ = _; rw [HE1.out, if_neg (by simp)]
        clear HE1
        go_upto_region 7 with fail
        go_upto_region 8 with (first | (go_at_call 42; refine (HBL.out _ HBX.out).mono ?_; rintro e w5 ⟨v5, sp, rfl, hs5, hp5, hb5⟩; have HS5 := hid_in hs5; have HP5 := hid_in hp5; have HB5 := hid_in (HBX.out.trans (hb5.mono HBX.out.size)); obtain ⟨p5, cap5, rfl⟩ := hs5.form; clear hs5 hp5 hb5))
        have hlen : sp.length ≤ 100000 := by
          rw [HP5.out.length_eq]; have := List.length_filter_le (belowB p) L; have := HN.out; omega
        have HNMS : Hid (∀ s ∈ sp, Rf.Nm w s.v s.names ∧ s.names.length ≤ 8) := fun s hs => by
          have hm := (List.mem_filter.1 (HP5.out.mem_iff.1 hs)).1
          exact ⟨H.out.map.nms s hm, (H.out.map.good s hm).2.2⟩
        rw [deep_perm HP5.out] at HE2
        obtain ⟨p', cap', b, o, e1, hc1, hc2, h4, h5, h6⟩ := HS5.out.sps
        simp only [Value.slice.injEq] at e1
        obtain ⟨rfl, _, rfl⟩ := e1
        have H4 := hid_in h4
        have H5 := hid_in h5
        clear h4 h5 h6
        go_wp2_with fail
        go_loopw [31] (fun vi W => ∃ i : Nat, i ≤ sp.length ∧ vi = .int .i64 (i : Int) ∧ Hid ((sp.take i).any (deepB p q) = false ∧ Below w5.heap.size w5 W)) (fun vi _ => sp.length - (intOf vi).toNat)
        case atStart => exact ⟨0, by omega, rfl, by simp, Below.refl _ _⟩
        case round =>
          obtain ⟨i, hi, rfl, hR⟩ := hrel
          by_cases hlt : i < sp.length
          · have hg : sp[i]? = some sp[i] := List.getElem?_eq_getElem hlt
            obtain ⟨hp, hb⟩ := H4.out (by intro h; simp [h] at hlt)
            have hrg : ∀ (y : Nat) u, (sp[i]).cells[y]? = some u → wr.cell? ⟨b, o + i * 4 + y, none⟩ = some u := fun y u hy => by
              rw [hR.out.2.cell (p := ⟨b, o + i * 4 + y, none⟩) hb, Nat.add_assoc]
              exact H5.out _ _ (scells_at hg y u hy)
            obtain ⟨hnm, hn8⟩ := HNMS.out _ (List.getElem_mem hlt)
            have HG := hid_in hg
            generalize sp[i] = s at *
            obtain ⟨sv, sn, st, sd, sx⟩ := s
            simp only at hnm hn8
            obtain ⟨nq, qc', rfl⟩ := hnm.form
            subst hp
            have m0 : wr.cell? ⟨b, o + i * 4, none⟩ = some (.slice nq sn.length qc') := by simpa using hrg 0 _ rfl
            have m1 : wr.cell? ⟨b, o + i * 4 + 1, none⟩ = some (.string st) := hrg 1 _ rfl
            have m2 : wr.cell? ⟨b, o + i * 4 + 2, none⟩ = some (.bool sd) := hrg 2 _ rfl
            have m3 : wr.cell? ⟨b, o + i * 4 + 3, none⟩ = some (.string sx) := hrg 3 _ rfl
            obtain ⟨sl, HSL⟩ : ∃ sl, Hid (sn.length = sl) := ⟨_, hid_in rfl⟩
            rw [HSL.out] at m0 hn8
            have HDB : Hid (deepB p q ⟨.slice nq sn.length qc', sn, st, sd, sx⟩ = decide (8 + pl < sl + ql)) := by
              show _ = _
              simp only [deepB, HSL.out, HPL.out, HQL.out]
            clear hg hrg hnm
            go_upto_region 10 with (first | (refine Nd.wpList_store_new rfl rfl 63 4 _ _ rfl _ [Value.slice nq sl qc', .string st, .bool sd, .string sx] info63 rfl (hid_in rfl) (spot_one _ _ _ _ _ _) rfl rfl ?_; intro w6 hr6 hb6 hs6))
            obtain ⟨⟨c0, c1, c2, c3⟩, -⟩ := spot_cells hr6 (Below.refl _ w6)
            have HB6 := hid_in (hR.out.2.trans (hb6.mono hR.out.2.size))
            clear hr6 hb6 hs6 m0 m1 m2 m3
            have kw1 : IntKind.i64.wrap ((sl : Int) - (pl : Int)) = (sl : Int) - (pl : Int) := by rw [IntKind.wrap_i64]; omega
            have kw2 : IntKind.i64.wrap ((sl : Int) - (pl : Int) + (ql : Int)) = (sl : Int) - (pl : Int) + (ql : Int) := by rw [IntKind.wrap_i64]; omega
            by_cases hk : 8 + pl < sl + ql
            · have k1 : (8 : Int) < (sl : Int) - (pl : Int) + (ql : Int) := by omega
              rw [decide_eq_true hk] at HDB
              have HEK : Hid (E = 42) := by
                show _ = _
                rw [HE2.out, any_hit HG.out HDB.out, if_pos rfl]
              clear hk
              go_wp2
              go_ret
              exact ⟨by rw [HEK.out]; rfl, HB5.out.trans (HB6.out.mono HB5.out.size)⟩
            · have k1 : ¬ (8 : Int) < (sl : Int) - (pl : Int) + (ql : Int) := by omega
              rw [decide_eq_false hk] at HDB
              clear hk
              go_wp2
              exact ⟨⟨i + 1, by omega, by go_num, any_take HG.out hR.out.1 HDB.out, HB6.out⟩, by simp [intOf]; omega⟩
          · obtain rfl : i = sp.length := by omega
            have HEK : Hid (E = 0) := by
              have h7 := hR.out.1
              rw [List.take_length] at h7
              show _ = _
              rw [HE2.out, h7]; rfl
            go_wp2_with fail
            go_ret
            exact ⟨by rw [HEK.out]; rfl, HB5.out.trans (hR.out.2.mono HB5.out.size)⟩
      · have hC2 : (C != 0) = true := by simpa using hC
        have HEK : Hid (E = C) := by show _ = _; rw [HE1.out, if_pos hC]
        clear hC
        go_wp2
        go_ret
        exact ⟨by rw [HEK.out]; rfl, HBX.out⟩
end Go.Proofs.YtngehkmdanhgpaaGreat.Pl
namespace Go.Proofs.YtngehkmdanhgpaaGreat.Pl
open Go.RowKit
open Vp (Str B bl Val cmpL parseS showS splitS withinS IsPath sv)
open Nd (Row wp_world post_Row post_Row2 grownBy_setCell below_of_grown)
theorem info9h : ∃ i z, Hid (Tryz.prog.info? 9 = some i) ∧ Hid (i.size = 1) ∧ Hid (i.bytes = 16) ∧ Hid (i.zero = some z) ∧ Hid (z.cells.size = 1) := by
  have h : (Tryz.prog.info? 9).map (fun i => (i.size, i.bytes, i.zero.map (·.cells.size))) = some (1, 16, some 1) := by kernel_rfl
  cases hi : Tryz.prog.info? 9 with
  | none => rw [hi] at h; cases h
  | some i =>
    rw [hi] at h
    simp only [Option.map_some, Option.some.injEq, Prod.mk.injEq] at h
    obtain ⟨h1, h2, h3⟩ := h
    cases hz : i.zero with
    | none => rw [hz] at h3; cases h3
    | some z => rw [hz] at h3; exact ⟨i, z, rfl, h1, h2, hz, Option.some.inj h3⟩
/-- names put behind a row of the call's own -/
theorem wpList_appN {ops : Array Oper} {rest : List Oper} {o : Oper} {a : Act} {w : World} {Q : Exit → Act → World → Prop} (B : Nat) (hgd : o.guard = none) (s x : Operand) (ho : o.op = .call { callee := .builtin .append, args := #[s, x], argTypes := #[35, 35] })
    (v : Value) (xs ys : List Str) (hs : a.eval s = v) (hown : Vp.Nms w B v xs) (u : Value) (hx : a.eval x = u) (hu : Val w u ys) (hlen : xs.length + ys.length ≤ 1000000) (hB : B ≤ w.heap.size)
    (h : ∀ v' w', Vp.Nms w' B v' (xs ++ ys) → w.grownBy w' v.ownBlock → wpList Tryz.prog ops Q rest (a.put o.dst v') w') : wpList Tryz.prog ops Q (o :: rest) a w := by
  obtain ⟨p, cap, rfl, hr⟩ := hu
  obtain ⟨i, z, hi, hz1, hz2, hz3, hz4⟩ := info9h
  rcases p with _ | ad
  · obtain ⟨rfl, rfl⟩ := hr.nil rfl
    refine wpList_append_own_none hgd s x 35 ho B 9 i 1 Tryz.underlying35 hi.out v xs.length (xs.map sv) hs hown hx ?_
    exact h v w (by simpa using hown) ⟨rfl, rfl, rfl, Nat.le_refl _, fun _ _ _ => rfl⟩
  · obtain ⟨b, off, h1, h2⟩ := hr.cells
    refine wpList_append_own w hgd s x 35 ho B 9 i z 1 16 Tryz.underlying35 hi.out hz3.out hz1.out hz2.out hz4.out (by decide) v xs.length (xs.map sv) hs hown ad ys.length cap (ys.map sv) hx (by simp) (fun j u hj => ?_) (fun u hu => by obtain ⟨y, _, rfl⟩ := List.mem_map.1 hu; rfl) (by unfold maxLen; omega) (by omega) hB ?_
    · have hne : ys ≠ [] := by rintro rfl; simp at hj
      obtain rfl := Option.some.inj (h1 hne).1
      rw [Addr.add_mid]
      rw [List.getElem?_map] at hj
      cases hy : ys[j]? with
      | none => rw [hy] at hj; cases hj
      | some y =>
        rw [hy] at hj
        obtain rfl := Option.some.inj hj
        exact h2 j y hy
    · intro v' w' h6 h7 _
      refine h v' w' ?_ h7
      unfold Vp.Nms
      rw [List.length_append, List.map_append]
      exact h6
set_option maxHeartbeats 2000000 in
set_option maxRecDepth 100000 in
theorem grow_any (n : Nat) (h0 : 0 < n) (hn : n ≤ 1000) (w : World) :
    Calls Tryz.prog 141 #[.slice none 0 0, .int .i64 (n : Int)] w fun e w' => ∃ v, e = .returned v ∧ Vp.Nms w' w.heap.size v [] ∧ Below w.heap.size w w' := by
  obtain ⟨i, z, hi, hz1, hz2, hz3, hz4⟩ := info9h
  have hrun := Lib.run_append_nil_zeros (P := Tryz.prog) w 35 3 35 9 i z .i64 .i64 Tryz.underlying35 Tryz.underlying3 hi.out hz3.out n h0 (by rw [hz1.out]; decide) (by omega) (by rw [hz2.out]; omega)
  have k1 : ¬ (n : Int) < 0 := by omega
  have k2 : (0 : Int) < (n : Int) := by omega
  have hc1 := grownCap_ge w n 0 9
  have hc2 := grownCap_le_maxLen w n 0 9 (by unfold maxLen; omega)
  obtain ⟨C, HC⟩ : ∃ C, Hid (grownCap w n 0 9 = C) := ⟨_, hid_in rfl⟩
  rw [HC.out] at hrun hc1 hc2
  obtain ⟨W2, HW2⟩ : ∃ W2, Hid (w.drew.alloc (.cells (Builtin.zeroCells z.cells n ++ Builtin.zeroCells z.cells (C - n)) 9) = W2) := ⟨_, hid_in rfl⟩
  have HZS : Hid ((Builtin.zeroCells z.cells n ++ Builtin.zeroCells z.cells (C - n)).size = C) := by
    show _ = _
    have hzc : ∀ k, (Builtin.zeroCells z.cells k).size = k := fun k => by rw [size_zeroCells, hz4.out]; omega
    rw [Array.size_append, hzc, hzc]; omega
  have HH : Hid (W2.heap[w.heap.size]? = some (.cells (Builtin.zeroCells z.cells n ++ Builtin.zeroCells z.cells (C - n)) 9 (0, 0))) := by
    show _ = _
    rw [← HW2.out]
    exact (MapKept.heap_alloc w.drew _).1
  have HB2 : Hid (Below w.heap.size w W2) := by rw [← HW2.out]; exact (below_drew w).alloc (Nat.le_refl _) _
  rw [HW2.out] at hrun
  have hsl := slice35_to (some ⟨w.heap.size, 0, none⟩) n C 0 (by omega)
  go_enter Tryz.func141, Tryz.ntmps141
  go_wp2_with (first | (at_builtin; refine Lib.wpList_append_run _ rfl _ _ 35 3 rfl _ _ rfl rfl _ _ hrun ?_))
  go_ret
  exact ⟨_, rfl, ⟨rfl, .inr ⟨w.heap.size, C, _, rfl, Nat.le_refl _, HH.out, Nat.zero_le _, hc2, by rw [HZS.out]; omega, by simp⟩⟩, HB2.out⟩
set_option maxHeartbeats 4000000 in
set_option maxRecDepth 100000 in
theorem concat_any {w : World} {cb : Nat} {av bv : Value} {xs ys : List Str} (hr : Row w cb [av, bv] 35) (ha : Val w av xs) (hb : Val w bv ys) (hx : 0 < xs.length) (hl : xs.length + ys.length ≤ 100) :
    Calls Tryz.prog 127 #[.slice (some ⟨cb, 0, none⟩) 2 2] w fun e w' => ∃ v, e = .returned v ∧ Vp.Nms w' w.heap.size v (xs ++ ys) ∧ Below w.heap.size w w' := by
  have HA := hid_in ha
  have HB := hid_in hb
  obtain ⟨ap, ac, rfl⟩ : ∃ a c, av = .slice a xs.length c := by obtain ⟨a, c, e, _⟩ := ha; exact ⟨a, c, e⟩
  obtain ⟨bp, bc, rfl⟩ : ∃ a c, bv = .slice a ys.length c := by obtain ⟨a, c, e, _⟩ := hb; exact ⟨a, c, e⟩
  have c0 : w.cell? ⟨cb, 0, none⟩ = some (.slice ap xs.length ac) := hr.cell 0
  have c1 : w.cell? ⟨cb, 1, none⟩ = some (.slice bp ys.length bc) := hr.cell 1
  have HR := hid_in hr
  obtain ⟨xl, HXL⟩ : ∃ xl, Hid (xs.length = xl) := ⟨_, hid_in rfl⟩
  obtain ⟨yl, HYL⟩ : ∃ yl, Hid (ys.length = yl) := ⟨_, hid_in rfl⟩
  rw [HXL.out] at HA c0 hx hl HR
  rw [HYL.out] at HB c1 hl HR
  have HGR := hid_in (grow_any (xl + yl) (by omega) (by omega) w)
  have hcast : ((xl + yl : Nat) : Int) = (xl : Int) + (yl : Int) := by omega
  rw [hcast] at HGR
  clear ha hb hr hcast
  go_enter Tryz.func127, Tryz.ntmps127
  go_wp2_with fail
  refine wp_loop_rounds 3 ?_
  rw [rounds_succ]
  go_wp2
  rw [rounds_succ]
  go_wp2
  rw [rounds_succ]
  go_wp2_with (first | (go_at_call 141; refine HGR.out.mono ?_; rintro e w1 ⟨v1, rfl, hn1, hb1⟩; have HN1 := hid_in hn1; have HB1 := hid_in hb1; have hr1 := HR.out.below hb1 HR.out.lt; have d0 : w1.cell? ⟨cb, 0, none⟩ = some (.slice ap xl ac) := hr1.cell 0; have d1 : w1.cell? ⟨cb, 1, none⟩ = some (.slice bp yl bc) := hr1.cell 1; have HR1 := hid_in hr1; have HA1 := hid_in (HA.out.below hb1); have HB1' := hid_in (HB.out.below hb1); clear hn1 hb1 hr1))
  refine wp_loop_rounds 3 ?_
  rw [rounds_succ]
  go_wp2_with (first | (at_builtin; refine wpList_appN w.heap.size rfl (.tmp 31) (.tmp 32) rfl v1 [] xs rfl HN1.out _ rfl HA1.out (by rw [HXL.out]; simp; omega) HB1.out.size ?_; intro v2 w2 hn2 hg2; have hb2 := HB1.out.grown hg2 HB1.out.size (fun k e => (HN1.out.row_ge k e).1); have hr2 := HR.out.below hb2 HR.out.lt; have e1 : w2.cell? ⟨cb, 1, none⟩ = some (.slice bp yl bc) := hr2.cell 1; have HN2 := hid_in hn2; have HB2 := hid_in hb2; have HV2 := hid_in (HB.out.below hb2); clear hn2 hg2 hb2 hr2))
  rw [rounds_succ]
  go_wp2_with (first | (at_builtin; refine wpList_appN w.heap.size rfl (.tmp 31) (.tmp 32) rfl v2 ([] ++ xs) ys rfl HN2.out _ rfl HV2.out (by rw [List.nil_append, HXL.out, HYL.out]; omega) HB2.out.size ?_; intro v3 w3 hn3 hg3; have hb3 := HB2.out.grown hg3 HB2.out.size (fun k e => (HN2.out.row_ge k e).1); have HN3 := hid_in hn3; have HB3 := hid_in hb3; clear hn3 hg3 hb3))
  rw [rounds_succ]
  go_wp2
  go_ret
  exact ⟨_, rfl, HN3.out, HB3.out⟩
end Go.Proofs.YtngehkmdanhgpaaGreat.Pl
