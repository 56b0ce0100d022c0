/-
  The walk of checkMove.
-/
import Derived.Deep.RegionLaw
import Derived.Deep.DrawnRows
import Derived.Laws.CopyOwn
import Derived.Lib.SlBytesConst
import Derived.Lib.AppendZeros
import Derived.Laws.Tables
import Derived.Test.YtngehkmdanhgpaaGreatR00
import Derived.Test.YtngehkmdanhgpaaGreatR01
import Derived.Test.YtngehkmdanhgpaaGreatR02
import Derived.Test.YtngehkmdanhgpaaGreatR03
import Derived.Test.YtngehkmdanhgpaaGreatR04
import Derived.Test.YtngehkmdanhgpaaGreatR05
import Derived.Test.YtngehkmdanhgpaaGreatR06
import Derived.Test.YtngehkmdanhgpaaGreatR07
import Derived.Test.YtngehkmdanhgpaaGreatR08
import Derived.Test.YtngehkmdanhgpaaGreatR09
import Derived.Test.YtngehkmdanhgpaaGreatR10
import Derived.Test.YtngehkmdanhgpaaGreatR11
import Derived.Test.YtngehkmdanhgpaaGreatR12
import Derived.Test.YtngehkmdanhgpaaGreatR13
import Derived.Test.YtngehkmdanhgpaaGreatR14
import Derived.Test.YtngehkmdanhgpaaGreatR15
import Derived.Test.YtngehkmdanhgpaaGreatR16
import Derived.Test.YtngehkmdanhgpaaGreatR17
import Derived.Test.YtngehkmdanhgpaaGreatR18
import Derived.Test.YtngehkmdanhgpaaGreatR19
import Derived.Test.YtngehkmdanhgpaaGreatR20
import Derived.Test.YtngehkmdanhgpaaGreatR21
import Derived.Test.YtngehkmdanhgpaaGreatR22
import Derived.Test.YtngehkmdanhgpaaGreatR23
import Derived.Test.YtngehkmdanhgpaaGreatR24
import Derived.Test.YtngehkmdanhgpaaGreatR25
import Derived.Test.YtngehkmdanhgpaaGreatR26
import Derived.Test.YtngehkmdanhgpaaGreatR27
import Derived.Test.YtngehkmdanhgpaaGreatR28
namespace Go.Proofs.YtngehkmdanhgpaaGreat.Pl
open Go.RowKit
open Vp (Str B bl Val cmpL parseS showS splitS withinS IsPath)
open Nd (Row wp_world post_Row post_Row2 grownBy_setCell below_of_grown)
def cvE (A : List Ent) (p q : List Str) : Int := match entAt A q with
  | none => 0
  | some o => covE A (((entAt A p).map Ent.dir).getD false) o.dir q
def deepE (p q : List Str) (e : Ent) : Bool := decide (8 + p.length < e.names.length + q.length)
def mvE (A : List Ent) (p q : List Str) : Int := if withinS q p = true then 131 else if cvE A p q ≠ 0 then cvE A p q else if (A.filter (belowE p)).any (deepE p q) then 42 else 0
def deepB (p q : List Str) (s : Spot) : Bool := decide (8 + p.length < s.names.length + q.length)
theorem deep_perm {L sp : List Spot} {p q : List Str} (h : sp.Perm (L.filter (belowB p))) : ((L.map Spot.ent).filter (belowE p)).any (deepE p q) = sp.any (deepB p q) := by
  rw [← belowB_ent, List.any_map]
  have e : (deepE p q ∘ Spot.ent) = deepB p q := rfl
  rw [e]
  cases h1 : sp.any (deepB p q) with
  | true =>
    obtain ⟨s, hs, hd⟩ := List.any_eq_true.1 h1
    exact List.any_eq_true.2 ⟨s, h.mem_iff.1 hs, hd⟩
  | false =>
    rw [List.any_eq_false] at h1 ⊢
    exact fun s hs => h1 s (h.mem_iff.2 hs)
set_option maxHeartbeats 4000000 in
set_option maxRecDepth 100000 in
theorem checkMove_any {w : World} {g m : Nat} {L : List Spot} (h : Fs w g m L) (hn : L.length ≤ 100000) {pv qv : Value} {p q : List Str} (hp : Val w pv p) (hq : Val w qv q) (gp : Gp p) (gq : Gp q) :
    Calls Tryz.prog 98 #[.pointer (some ⟨g, 0, none⟩), pv, qv] w fun e w' => e = .returned (.int .i64 (mvE (L.map Spot.ent) p q)) ∧ Below w.heap.size w w' := by
  have HP := hid_in hp
  have HQ := hid_in hq
  obtain ⟨pp, pc, rfl⟩ : ∃ a c, pv = .slice a p.length c := by obtain ⟨a, c, e, _⟩ := hp; exact ⟨a, c, e⟩
  obtain ⟨qp, qc, rfl⟩ : ∃ a c, qv = .slice a q.length c := by obtain ⟨a, c, e, _⟩ := hq; exact ⟨a, c, e⟩
  have H := hid_in h
  have HN := hid_in hn
  have HGP := hid_in gp
  have HGQ := hid_in gq
  have HWI := hid_in (Vp.within_v hq hp)
  have HHAS := hid_in (fun W (k : Below w.heap.size w W) => has_any (h.below k) (hq.below k) gq)
  have HG1 := hid_in (fun W (k : Below w.heap.size w W) => get_any (h.below k) (hp.below k) gp)
  have HG2 := hid_in (fun W (k : Below w.heap.size w W) => get_any (h.below k) (hq.below k) gq)
  have HBL := hid_in (fun W (k : Below w.heap.size w W) => below_any (h.below k) (hp.below k) hn)
  have HE : Hid (mvE (L.map Spot.ent) p q = if withinS q p = true then 131 else if cvE (L.map Spot.ent) p q ≠ 0 then cvE (L.map Spot.ent) p q else if ((L.map Spot.ent).filter (belowE p)).any (deepE p q) then 42 else 0) := rfl
  have hse := spotAt_ent L q
  have hsp := spotAt_ent L p
  have HC : Hid (cvE (L.map Spot.ent) p q = match spotAt L q with | none => 0 | some o => covE (L.map Spot.ent) ((spotAt L p).getD Spot.zero).dir o.dir q) := by
    show _ = _
    unfold cvE
    rw [← hse, ← hsp]
    cases spotAt L q with
    | none => rfl
    | some o => cases spotAt L p <;> rfl
  generalize mvE (L.map Spot.ent) p q = E at *
  generalize cvE (L.map Spot.ent) p q = C at *
  obtain ⟨pl, HPL⟩ : ∃ pl, Hid (p.length = pl) := ⟨_, hid_in rfl⟩
  obtain ⟨ql, HQL⟩ : ∃ ql, Hid (q.length = ql) := ⟨_, hid_in rfl⟩
  have hpl8 : pl ≤ 8 := by rw [← HPL.out]; exact gp.2
  have hql8 : ql ≤ 8 := by rw [← HQL.out]; exact gq.2
  rw [HPL.out] at HP HWI HG1 HBL ⊢
  rw [HQL.out] at HQ HWI HHAS HG2 ⊢
  clear hp hq gp gq hse hsp hn
  cases hwi : withinS q p with
  | true =>
    rw [hwi] at HWI HE
    have HEK : Hid (E = 131) := by show _ = _; rw [HE.out, if_pos rfl]
    clear h hwi
    go_enter Tryz.func98, Tryz.ntmps98
    go_wp2_with (first | (go_at_call 78; refine HWI.out.mono ?_; rintro e w1 ⟨rfl, hd1⟩; have HB1 : Hid (Below w.heap.size w w1) := (by obtain ⟨n, rfl⟩ := hd1; exact below_drewN (Below.refl _ _) n); clear hd1))
    go_ret
    exact ⟨by rw [HEK.out]; rfl, HB1.out⟩
  | false =>
    rw [hwi] at HWI HE
    have HE1 : Hid (E = if C ≠ 0 then C else if ((L.map Spot.ent).filter (belowE p)).any (deepE p q) then 42 else 0) := by show _ = _; rw [HE.out, if_neg (by decide)]
    clear hwi HE
    go_enter Tryz.func98, Tryz.ntmps98
    go_upto_region 3 with (first | (go_at_call 78; refine HWI.out.mono ?_; rintro e w1 ⟨rfl, hd1⟩; have HB1 : Hid (Below w.heap.size w w1) := (by obtain ⟨n, rfl⟩ := hd1; exact below_drewN (Below.refl _ _) n); clear hd1))
    cases hsq : spotAt L q with
    | none =>
      rw [hsq] at HHAS HC
      have HE2 : Hid (E = if ((L.map Spot.ent).filter (belowE p)).any (deepE p q) then 42 else 0) := by show _ = _; rw [HE1.out, HC.out, if_neg (by simp)]
      clear hsq HE1 h
      go_upto_region 7 with (first | (go_at_call 26; refine (HHAS.out _ HB1.out).mono ?_; rintro e w2 ⟨rfl, hb2⟩; have HBX := hid_in (HB1.out.trans (hb2.mono HB1.out.size)); clear hb2))
      go_upto_region 8 with (first | (go_at_call 42; refine (HBL.out _ HBX.out).mono ?_; rintro e w5 ⟨v5, sp, rfl, hs5, hp5, hb5⟩; have HS5 := hid_in hs5; have HP5 := hid_in hp5; have HB5 := hid_in (HBX.out.trans (hb5.mono HBX.out.size)); obtain ⟨p5, cap5, rfl⟩ := hs5.form; clear hs5 hp5 hb5))
      have hlen : sp.length ≤ 100000 := by
        rw [HP5.out.length_eq]; have := List.length_filter_le (belowB p) L; have := HN.out; omega
      have HNMS : Hid (∀ s ∈ sp, Rf.Nm w s.v s.names ∧ s.names.length ≤ 8) := fun s hs => by
        have hm := (List.mem_filter.1 (HP5.out.mem_iff.1 hs)).1
        exact ⟨H.out.map.nms s hm, (H.out.map.good s hm).2.2⟩
      rw [deep_perm HP5.out] at HE2
      obtain ⟨p', cap', b, o, e1, hc1, hc2, h4, h5, h6⟩ := HS5.out.sps
      simp only [Value.slice.injEq] at e1
      obtain ⟨rfl, _, rfl⟩ := e1
      have H4 := hid_in h4
      have H5 := hid_in h5
      clear h4 h5 h6
      go_wp2_with fail
      go_loopw [31] (fun vi W => ∃ i : Nat, i ≤ sp.length ∧ vi = .int .i64 (i : Int) ∧ Hid ((sp.take i).any (deepB p q) = false ∧ Below w5.heap.size w5 W)) (fun vi _ => sp.length - (intOf vi).toNat)
      case atStart => exact ⟨0, by omega, rfl, by simp, Below.refl _ _⟩
      case round =>
        obtain ⟨i, hi, rfl, hR⟩ := hrel
        by_cases hlt : i < sp.length
        · have hg : sp[i]? = some sp[i] := List.getElem?_eq_getElem hlt
          obtain ⟨hp, hb⟩ := H4.out (by intro h; simp [h] at hlt)
          have hrg : ∀ (y : Nat) u, (sp[i]).cells[y]? = some u → wr.cell? ⟨b, o + i * 4 + y, none⟩ = some u := fun y u hy => by
            rw [hR.out.2.cell (p := ⟨b, o + i * 4 + y, none⟩) hb, Nat.add_assoc]
            exact H5.out _ _ (scells_at hg y u hy)
          obtain ⟨hnm, hn8⟩ := HNMS.out _ (List.getElem_mem hlt)
          have HG := hid_in hg
          generalize sp[i] = s at *
          obtain ⟨sv, sn, st, sd, sx⟩ := s
          simp only at hnm hn8
          obtain ⟨nq, qc', rfl⟩ := hnm.form
          subst hp
          have m0 : wr.cell? ⟨b, o + i * 4, none⟩ = some (.slice nq sn.length qc') := by simpa using hrg 0 _ rfl
          have m1 : wr.cell? ⟨b, o + i * 4 + 1, none⟩ = some (.string st) := hrg 1 _ rfl
          have m2 : wr.cell? ⟨b, o + i * 4 + 2, none⟩ = some (.bool sd) := hrg 2 _ rfl
          have m3 : wr.cell? ⟨b, o + i * 4 + 3, none⟩ = some (.string sx) := hrg 3 _ rfl
          obtain ⟨sl, HSL⟩ : ∃ sl, Hid (sn.length = sl) := ⟨_, hid_in rfl⟩
          rw [HSL.out] at m0 hn8
          have HDB : Hid (deepB p q ⟨.slice nq sn.length qc', sn, st, sd, sx⟩ = decide (8 + pl < sl + ql)) := by
            show _ = _
            simp only [deepB, HSL.out, HPL.out, HQL.out]
          clear hg hrg hnm
          go_upto_region 10 with (first | (refine Nd.wpList_store_new rfl rfl 63 4 _ _ rfl _ [Value.slice nq sl qc', .string st, .bool sd, .string sx] info63 rfl (hid_in rfl) (spot_one _ _ _ _ _ _) rfl rfl ?_; intro w6 hr6 hb6 hs6))
          obtain ⟨⟨c0, c1, c2, c3⟩, -⟩ := spot_cells hr6 (Below.refl _ w6)
          have HB6 := hid_in (hR.out.2.trans (hb6.mono hR.out.2.size))
          clear hr6 hb6 hs6 m0 m1 m2 m3
          have kw1 : IntKind.i64.wrap ((sl : Int) - (pl : Int)) = (sl : Int) - (pl : Int) := by rw [IntKind.wrap_i64]; omega
          have kw2 : IntKind.i64.wrap ((sl : Int) - (pl : Int) + (ql : Int)) = (sl : Int) - (pl : Int) + (ql : Int) := by rw [IntKind.wrap_i64]; omega
          by_cases hk : 8 + pl < sl + ql
          · have k1 : (8 : Int) < (sl : Int) - (pl : Int) + (ql : Int) := by omega
            rw [decide_eq_true hk] at HDB
            have HEK : Hid (E = 42) := by
              show _ = _
              rw [HE2.out, any_hit HG.out HDB.out, if_pos rfl]
            clear hk
            go_wp2
            go_ret
            exact ⟨by rw [HEK.out]; rfl, HB5.out.trans (HB6.out.mono HB5.out.size)⟩
          · have k1 : ¬ (8 : Int) < (sl : Int) - (pl : Int) + (ql : Int) := by omega
            rw [decide_eq_false hk] at HDB
            clear hk
            go_wp2
            exact ⟨⟨i + 1, by omega, by go_num, any_take HG.out hR.out.1 HDB.out, HB6.out⟩, by simp [intOf]; omega⟩
        · obtain rfl : i = sp.length := by omega
          have HEK : Hid (E = 0) := by
            have h7 := hR.out.1
            rw [List.take_length] at h7
            show _ = _
            rw [HE2.out, h7]; rfl
          go_wp2_with fail
          go_ret
          exact ⟨by rw [HEK.out]; rfl, HB5.out.trans (hR.out.2.mono HB5.out.size)⟩
    | some s0 =>
      rw [hsq] at HHAS HC HG2
      have hs0 : s0.names = q := by have h2 := List.find?_some hsq; exact of_decide_eq_true h2
      have hvo := H.out.map.nms _ (List.mem_of_find?_eq_some hsq)
      have HCV := hid_in (fun W (k : Below w.heap.size w W) => checkCover_any (h.below k) HN.out ((spotAt L p).getD Spot.zero) s0 (sf_getD h.map p) (hvo.below k).val)
      rw [hs0] at HCV
      simp only at HC
      rw [← HC.out] at HCV
      simp only [Option.getD_some] at HG2
      clear hsq HC h hvo hs0
      generalize (spotAt L p).getD Spot.zero = f0 at *
      go_upto_region 5 with (first | (go_at_call 26; refine (HHAS.out _ HB1.out).mono ?_; rintro e w2 ⟨rfl, hb2⟩; have HB2 := hid_in (HB1.out.trans (hb2.mono HB1.out.size)); clear hb2) | (go_at_call 56; have hx := HG1.out; refine (HG1.out _ HB2.out).mono ?_; rintro e w3 ⟨rfl, hb3⟩; have HB3 := hid_in (HB2.out.trans (hb3.mono HB2.out.size)); clear hb3 HG1 hx) | (go_at_call 56; refine (HG2.out _ HB3.out).mono ?_; rintro e w4 ⟨rfl, hb4⟩; have HB4 := hid_in (HB3.out.trans (hb4.mono HB3.out.size)); clear hb4) | (go_at_call 126; refine (HCV.out _ HB4.out).mono ?_; rintro e w7 ⟨rfl, hb7⟩; have HBX := hid_in (HB4.out.trans (hb7.mono HB4.out.size)); clear hb7))
      by_cases hC : C = 0
      · subst hC
        have HE2 : Hid (E = if ((L.map Spot.ent).filter (belowE p)).any (deepE p q) then 42 else 0) := by show _ = _; rw [HE1.out, if_neg (by simp)]
        clear HE1
        go_upto_region 7 with fail
        go_upto_region 8 with (first | (go_at_call 42; refine (HBL.out _ HBX.out).mono ?_; rintro e w5 ⟨v5, sp, rfl, hs5, hp5, hb5⟩; have HS5 := hid_in hs5; have HP5 := hid_in hp5; have HB5 := hid_in (HBX.out.trans (hb5.mono HBX.out.size)); obtain ⟨p5, cap5, rfl⟩ := hs5.form; clear hs5 hp5 hb5))
        have hlen : sp.length ≤ 100000 := by
          rw [HP5.out.length_eq]; have := List.length_filter_le (belowB p) L; have := HN.out; omega
        have HNMS : Hid (∀ s ∈ sp, Rf.Nm w s.v s.names ∧ s.names.length ≤ 8) := fun s hs => by
          have hm := (List.mem_filter.1 (HP5.out.mem_iff.1 hs)).1
          exact ⟨H.out.map.nms s hm, (H.out.map.good s hm).2.2⟩
        rw [deep_perm HP5.out] at HE2
        obtain ⟨p', cap', b, o, e1, hc1, hc2, h4, h5, h6⟩ := HS5.out.sps
        simp only [Value.slice.injEq] at e1
        obtain ⟨rfl, _, rfl⟩ := e1
        have H4 := hid_in h4
        have H5 := hid_in h5
        clear h4 h5 h6
        go_wp2_with fail
        go_loopw [31] (fun vi W => ∃ i : Nat, i ≤ sp.length ∧ vi = .int .i64 (i : Int) ∧ Hid ((sp.take i).any (deepB p q) = false ∧ Below w5.heap.size w5 W)) (fun vi _ => sp.length - (intOf vi).toNat)
        case atStart => exact ⟨0, by omega, rfl, by simp, Below.refl _ _⟩
        case round =>
          obtain ⟨i, hi, rfl, hR⟩ := hrel
          by_cases hlt : i < sp.length
          · have hg : sp[i]? = some sp[i] := List.getElem?_eq_getElem hlt
            obtain ⟨hp, hb⟩ := H4.out (by intro h; simp [h] at hlt)
            have hrg : ∀ (y : Nat) u, (sp[i]).cells[y]? = some u → wr.cell? ⟨b, o + i * 4 + y, none⟩ = some u := fun y u hy => by
              rw [hR.out.2.cell (p := ⟨b, o + i * 4 + y, none⟩) hb, Nat.add_assoc]
              exact H5.out _ _ (scells_at hg y u hy)
            obtain ⟨hnm, hn8⟩ := HNMS.out _ (List.getElem_mem hlt)
            have HG := hid_in hg
            generalize sp[i] = s at *
            obtain ⟨sv, sn, st, sd, sx⟩ := s
            simp only at hnm hn8
            obtain ⟨nq, qc', rfl⟩ := hnm.form
            subst hp
            have m0 : wr.cell? ⟨b, o + i * 4, none⟩ = some (.slice nq sn.length qc') := by simpa using hrg 0 _ rfl
            have m1 : wr.cell? ⟨b, o + i * 4 + 1, none⟩ = some (.string st) := hrg 1 _ rfl
            have m2 : wr.cell? ⟨b, o + i * 4 + 2, none⟩ = some (.bool sd) := hrg 2 _ rfl
            have m3 : wr.cell? ⟨b, o + i * 4 + 3, none⟩ = some (.string sx) := hrg 3 _ rfl
            obtain ⟨sl, HSL⟩ : ∃ sl, Hid (sn.length = sl) := ⟨_, hid_in rfl⟩
            rw [HSL.out] at m0 hn8
            have HDB : Hid (deepB p q ⟨.slice nq sn.length qc', sn, st, sd, sx⟩ = decide (8 + pl < sl + ql)) := by
              show _ = _
              simp only [deepB, HSL.out, HPL.out, HQL.out]
            clear hg hrg hnm
            go_upto_region 10 with (first | (refine Nd.wpList_store_new rfl rfl 63 4 _ _ rfl _ [Value.slice nq sl qc', .string st, .bool sd, .string sx] info63 rfl (hid_in rfl) (spot_one _ _ _ _ _ _) rfl rfl ?_; intro w6 hr6 hb6 hs6))
            obtain ⟨⟨c0, c1, c2, c3⟩, -⟩ := spot_cells hr6 (Below.refl _ w6)
            have HB6 := hid_in (hR.out.2.trans (hb6.mono hR.out.2.size))
            clear hr6 hb6 hs6 m0 m1 m2 m3
            have kw1 : IntKind.i64.wrap ((sl : Int) - (pl : Int)) = (sl : Int) - (pl : Int) := by rw [IntKind.wrap_i64]; omega
            have kw2 : IntKind.i64.wrap ((sl : Int) - (pl : Int) + (ql : Int)) = (sl : Int) - (pl : Int) + (ql : Int) := by rw [IntKind.wrap_i64]; omega
            by_cases hk : 8 + pl < sl + ql
            · have k1 : (8 : Int) < (sl : Int) - (pl : Int) + (ql : Int) := by omega
              rw [decide_eq_true hk] at HDB
              have HEK : Hid (E = 42) := by
                show _ = _
                rw [HE2.out, any_hit HG.out HDB.out, if_pos rfl]
              clear hk
              go_wp2
              go_ret
              exact ⟨by rw [HEK.out]; rfl, HB5.out.trans (HB6.out.mono HB5.out.size)⟩
            · have k1 : ¬ (8 : Int) < (sl : Int) - (pl : Int) + (ql : Int) := by omega
              rw [decide_eq_false hk] at HDB
              clear hk
              go_wp2
              exact ⟨⟨i + 1, by omega, by go_num, any_take HG.out hR.out.1 HDB.out, HB6.out⟩, by simp [intOf]; omega⟩
          · obtain rfl : i = sp.length := by omega
            have HEK : Hid (E = 0) := by
              have h7 := hR.out.1
              rw [List.take_length] at h7
              show _ = _
              rw [HE2.out, h7]; rfl
            go_wp2_with fail
            go_ret
            exact ⟨by rw [HEK.out]; rfl, HB5.out.trans (hR.out.2.mono HB5.out.size)⟩
      · have hC2 : (C != 0) = true := by simpa using hC
        have HEK : Hid (E = C) := by show _ = _; rw [HE1.out, if_pos hC]
        clear hC
        go_wp2
        go_ret
        exact ⟨by rw [HEK.out]; rfl, HBX.out⟩
end Go.Proofs.YtngehkmdanhgpaaGreat.Pl
