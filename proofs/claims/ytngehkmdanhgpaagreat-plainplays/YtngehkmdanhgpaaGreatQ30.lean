/-
  The walk of list.
-/
import Derived.Deep.AppendLies
import Derived.Laws.CopyOwn
import Derived.Deep.RegionLaw
import Derived.Deep.DrawnRows
import Derived.Lib.SlBytesConst
import Derived.Lib.AppendZeros
import Derived.Laws.Tables
import Derived.Test.YtngehkmdanhgpaaGreatQ00
import Derived.Test.YtngehkmdanhgpaaGreatQ01
import Derived.Test.YtngehkmdanhgpaaGreatQ02
import Derived.Test.YtngehkmdanhgpaaGreatQ03
import Derived.Test.YtngehkmdanhgpaaGreatQ04
import Derived.Test.YtngehkmdanhgpaaGreatQ05
import Derived.Test.YtngehkmdanhgpaaGreatQ06
import Derived.Test.YtngehkmdanhgpaaGreatQ07
import Derived.Test.YtngehkmdanhgpaaGreatQ08
import Derived.Test.YtngehkmdanhgpaaGreatQ09
import Derived.Test.YtngehkmdanhgpaaGreatQ10
import Derived.Test.YtngehkmdanhgpaaGreatQ11
import Derived.Test.YtngehkmdanhgpaaGreatQ12
import Derived.Test.YtngehkmdanhgpaaGreatQ13
import Derived.Test.YtngehkmdanhgpaaGreatQ14
import Derived.Test.YtngehkmdanhgpaaGreatQ15
import Derived.Test.YtngehkmdanhgpaaGreatQ16
import Derived.Test.YtngehkmdanhgpaaGreatQ17
import Derived.Test.YtngehkmdanhgpaaGreatQ18
import Derived.Test.YtngehkmdanhgpaaGreatQ19
import Derived.Test.YtngehkmdanhgpaaGreatQ20
import Derived.Test.YtngehkmdanhgpaaGreatQ21
import Derived.Test.YtngehkmdanhgpaaGreatQ22
import Derived.Test.YtngehkmdanhgpaaGreatQ23
import Derived.Test.YtngehkmdanhgpaaGreatQ24
import Derived.Test.YtngehkmdanhgpaaGreatQ25
import Derived.Test.YtngehkmdanhgpaaGreatQ29
namespace Go.Proofs.YtngehkmdanhgpaaGreat.Pl
open Go.RowKit
open Vp (Str B bl Val cmpL parseS showS splitS withinS IsPath Nms sv)
open Nd (Row wp_world post_Row post_Row2 grownBy_setCell below_of_grown take_put wp_slice1)
def lsE (A : List Ent) (xs : List Str) : Int := (findDA A xs).2
theorem findD_ok {L : List Spot} {xs : List Str} {t : Spot} (h : findD L xs = (t, 0)) : spotAt L xs = some t ∧ t.names = xs := by
  unfold findD at h
  split at h
  · cases h
  · exact findP_ok h
def shownP (s : Spot) : Str := shownS s.ent
/-- what stands when i of them are told -/
structure LI (w5 : World) (G n : Nat) (sp : List Spot) (i : Nat) (W : World) : Prop where
  row : ∃ vp, Row W G [.int .i64 0, .bool true, .int .i64 (n : Int), .string ⟨#[]⟩, vp] 37 ∧ Nms W (G + 1) vp ((sp.take i).map shownP)
  bel : Below G w5 W
/-- what list answers -/
def ListsO (w : World) (g m : Nat) (L : List Spot) (E : Int) (KA : List Ent) (e : Ending) (w' : World) : Prop := ∃ b s v ns, e = .returned (.agg #[.int .i64 E, .bool b, .int .i64 s, .string ⟨#[]⟩, v]) ∧ Rf.Nm w' v ns ∧ Fs w' g m L ∧ Below w.heap.size w w' ∧
      ((E ≠ 0 ∧ b = false ∧ s = 0 ∧ ns = []) ∨ (E = 0 ∧ b = true ∧ s = (ns.length : Int) ∧ ∃ es : List Ent, es.Perm KA ∧ es.Pairwise (fun s t => ¬ cmpL t.names s.names < 0) ∧ ns = es.map shownS))
theorem slice35 (X : ByteArray) (w : World) : (Instr.buildSlice 35 1 #[(0, .string X)]).run Tryz.prog w = .ok (.slice (some ⟨w.heap.size, 0, none⟩) 1 1) (w.alloc (.cells #[.string X] 9)) := by kernel_rfl
theorem store37v (c s : Int) (x : ByteArray) (b : Bool) (p : Option Addr) (n q : Nat) : Hid (∀ v ∈ [Value.int .i64 c, .bool b, .int .i64 s, .string x, .slice p n q], v.oneCell' = true) := by
  intro v hv
  simp only [List.mem_cons, List.not_mem_nil, or_false] at hv
  rcases hv with rfl | rfl | rfl | rfl | rfl <;> rfl
set_option maxHeartbeats 4000000 in
set_option maxRecDepth 100000 in
theorem listO_any {w : World} {g m : Nat} {L : List Spot} (h : Fs w g m L) (hn : L.length ≤ 100000) (k a z : Int) (p t d : ByteArray) (hp : p.size ≤ 9223372036854775807) :
    Calls Tryz.prog 71 #[.pointer (some ⟨g, 0, none⟩), .agg #[.int .i64 k, .string p, .string t, .string d, .int .i64 a, .int .i64 z]] w fun e w' => ListsO w g m L (lsE (L.map Spot.ent) (nmsOf p)) (kidsA (L.map Spot.ent) (nmsOf p)) e w' := by
  obtain ⟨WA, HWA, HRO, HRA, HBA⟩ := op_box w k a z p t d
  have H := hid_in h
  have HNO := hid_in (fun W => namesOf_any p hp W)
  have c1 : WA.cell? ⟨w.heap.size, 1, none⟩ = some (.string p) := HRO.out.cell 1
  obtain ⟨hfe, -⟩ := findD_ent L (nmsOf p)
  have HE : Hid (lsE (L.map Spot.ent) (nmsOf p) = (findD L (nmsOf p)).2) := by show _ = _; unfold lsE; rw [← hfe]
  have HFD := hid_in (fun W (kb : Below w.heap.size w W) v (kv : Val W v (nmsOf p)) => findDir_any (h.below kb) kv (gp_nms p))
  have HKI := hid_in (fun W (kb : Below w.heap.size w W) v (kv : Val W v (nmsOf p)) => kids_any (h.below kb) kv hn (by have := (gp_nms p).2; omega))
  have HSORT := hid_in (fun W (kb : Below w.heap.size w W) v sp B (hs : SO W B v sp) (hp : sp.Perm ((L.filter (belowB (nmsOf p))).filter (kidB (nmsOf p)))) => sort_any sp W B v hs (fun s hs => (h.below kb).map.nms s (List.mem_filter.1 (List.mem_filter.1 (hp.mem_iff.1 hs)).1).1) (by rw [hp.length_eq]; have := List.length_filter_le (kidB (nmsOf p)) (L.filter (belowB (nmsOf p))); have := List.length_filter_le (belowB (nmsOf p)) L; omega))
  have HKE := hid_in (kids_ent L (nmsOf p))
  have HOK := hid_in (fun t (e : findD L (nmsOf p) = (t, 0)) => findD_ok e)
  have HN := hid_in hn
  obtain ⟨qp, qn, qc, hsv⟩ := findD_sf h.map (nmsOf p)
  generalize lsE (L.map Spot.ent) (nmsOf p) = E at *
  generalize kidsA (L.map Spot.ent) (nmsOf p) = KA at *
  generalize findD L (nmsOf p) = r at *
  obtain ⟨⟨sv0, sn, st, sd, sx⟩, e0⟩ := r
  generalize nmsOf p = xs at *
  simp only at hsv HE
  subst hsv
  simp only [Spot.val] at HFD
  have HREF := hid_in (fun k W => refuse_any k W)
  simp only [Res.err, Res.val] at HREF
  have HC4 : Hid ([Value.slice qp qn qc, .string st, .bool sd, .string sx].length = 4) := rfl
  have HO4 : Hid (∀ v ∈ [Value.slice qp qn qc, .string st, .bool sd, .string sx], v.oneCell' = true) := by
    intro v hv
    simp only [List.mem_cons, List.not_mem_nil, or_false] at hv
    rcases hv with rfl | rfl | rfl | rfl <;> rfl
  clear h hfe hn
  go_enter Tryz.func71, Tryz.ntmps71
  go_upto_region 1 with fail
  refine wp_world HWA.out ?_
  go_upto_region 2 with (first | (go_at_call 92; refine (HNO.out _).mono ?_; rintro e w1 ⟨v1, rfl, hv1, hb1⟩; have HV1 := hid_in hv1.val; have HC1 := hid_in hb1; have HB1 := hid_in (HBA.out.trans (hb1.mono HBA.out.size)); clear hv1 hb1) | (go_at_call 96; refine (HFD.out _ HB1.out _ HV1.out).mono ?_; rintro e w2 ⟨rfl, hb2⟩; have HC2 := hid_in (HC1.out.trans (hb2.mono HC1.out.size)); clear hb2) | (refine Nd.wpList_store_new rfl rfl 63 4 _ _ rfl _ [Value.slice qp qn qc, .string st, .bool sd, .string sx] info63 rfl HC4 HO4 rfl rfl ?_; intro w3 hr3 hb3 hs3; have HR3 := hid_in hr3; have HC3 := hid_in (HC2.out.trans (hb3.mono HC2.out.size)); clear hr3 hb3 hs3))
  have HB3 := hid_in (HBA.out.trans (HC3.out.mono HBA.out.size))
  have HRA3 := hid_in (HRA.out.below HC3.out HRA.out.lt)
  obtain ⟨⟨s0, s1, s2, s3⟩, -⟩ := spot_cells HR3.out (Below.refl _ w3)
  have HERR := hid_in (fun W (kb : Below w3.heap.size w3 W) => And.intro (res_cells HRA3.out kb) (And.intro (HRA3.out.below kb HRA3.out.lt) (HB3.out.trans (kb.mono HB3.out.size))))
  by_cases hk : e0 = 0
  · subst hk
    obtain ⟨hok, hnm⟩ := HOK.out _ rfl
    simp only at hnm
    have HNM := hid_in (H.out.map.nms _ (List.mem_of_find?_eq_some hok))
    simp only at HNM
    rw [hnm] at HNM
    clear hok hnm HOK
    have HK4 := hid_in (HKI.out _ HB3.out _ (HNM.out.below HB3.out).val)
    go_upto_region 5 with (go_at_call 100; refine HK4.out.mono ?_; rintro e w4 ⟨v4, ps, rfl, hs4, hp4, hb4⟩; have HS4 := hid_in hs4; have HP4 := hid_in hp4; have HB4 := hid_in hb4; obtain ⟨p4, c4, rfl⟩ := hs4.form; clear hs4 hp4 hb4)
    go_upto_region 6 with (go_at_call 43; refine (HSORT.out _ (HB3.out.trans (HB4.out.mono HB3.out.size)) _ _ _ HS4.out HP4.out).mono ?_; rintro e w5 ⟨rfl, hb5, sp, hp5, ho5, hs5⟩; have HB5 := hid_in (HB4.out.trans hb5); have HP5 := hid_in (hp5.trans HP4.out); have HPL := hid_in hp5.length_eq; have HO5 := hid_in ho5; have HS5 := hid_in hs5; clear hb5 hp5 ho5 hs5)
    rw [← HPL.out] at HS5 ⊢
    have hlen : sp.length ≤ 100000 := by
      rw [HP5.out.length_eq]
      have h1 := List.length_filter_le (kidB xs) (L.filter (belowB xs)); have h2 := List.length_filter_le (belowB xs) L; have := HN.out; omega
    go_upto_region 7 with (refine Nd.wpList_store_new rfl rfl 37 5 _ _ rfl _ [Value.int .i64 0, .bool true, .int .i64 (sp.length : Int), .string ⟨#[]⟩, .slice none 0 0] info37 rfl (hid_in rfl) (store37v _ _ _ _ _ _ _) rfl rfl ?_; intro w6 hr6 hb6 hs6; have HR6 := hid_in hr6; have HB6 := hid_in hb6; have HZ6 := hid_in hs6; clear hr6 hb6 hs6)
    have HSF : Hid (∀ s ∈ sp, Sf s ∧ Gp s.names ∧ s.names ≠ [] ∧ Rf.Nm w s.v s.names) := fun s hs => by
      obtain ⟨hs1, hs2⟩ := List.mem_filter.1 (HP5.out.mem_iff.1 hs)
      have hs0 := (List.mem_filter.1 hs1).1
      have h1 := H.out.map.nms s hs0
      obtain ⟨p, c, e⟩ := h1.form
      refine ⟨⟨p, _, c, e⟩, (H.out.map.good s hs0).2, fun e => ?_, h1⟩
      have := of_decide_eq_true hs2
      rw [e] at this
      simp at this
    obtain ⟨p', cap', b, o, e1, hc1, hc2, h4, h5, h6⟩ := HS5.out
    simp only [Value.slice.injEq] at e1
    obtain ⟨rfl, _, rfl⟩ := e1
    have H4 := hid_in h4
    have H5 := hid_in h5
    have HBW := hid_in (HB3.out.trans (HB5.out.mono HB3.out.size))
    have HLW := hid_in (Nat.le_trans HB3.out.size HB5.out.size)
    have HL0 : Hid (LI w5 w5.heap.size sp.length sp 0 w6) := ⟨⟨_, HR6.out, World.ownsRow_nil _ _ _ _⟩, HB6.out⟩
    obtain ⟨i9, z9, hi9, hs9, hb9, hz9, hzc9⟩ := info9h
    clear h4 h5 h6 HKI HSORT HFD HNO HK4
    go_upto_region 8 with fail
    go_loopw [34] (fun vi W => ∃ i : Nat, i ≤ sp.length ∧ vi = .int .i64 (i : Int) ∧ Hid (LI w5 w5.heap.size sp.length sp i W)) (fun vi _ => sp.length - (intOf vi).toNat)
    case atStart => exact ⟨0, by omega, rfl, HL0.out⟩
    case round =>
      obtain ⟨i, hi, rfl, hpr⟩ := hrel
      by_cases hlt : i < sp.length
      · have hg : sp[i]? = some sp[i] := List.getElem?_eq_getElem hlt
        obtain ⟨hp, hb⟩ := H4.out (by intro h; simp [h] at hlt)
        have hrg : ∀ (y : Nat) u, (sp[i]).cells[y]? = some u → wr.cell? ⟨b, o + i * 4 + y, none⟩ = some u := fun y u hy => by
          rw [hpr.out.bel.cell (p := ⟨b, o + i * 4 + y, none⟩) hb, Nat.add_assoc]
          exact H5.out _ _ (scells_at hg y u hy)
        obtain ⟨⟨nq, nl, nc, hsv⟩, hgp, hne, hnm⟩ := HSF.out _ (List.getElem_mem hlt)
        generalize sp[i] = s at *
        obtain ⟨sv1, sn1, st1, sd1, sx1⟩ := s
        simp only at hsv hgp hne hnm
        subst hp hsv
        have m0 : wr.cell? ⟨b, o + i * 4, none⟩ = some (.slice nq nl nc) := by simpa using hrg 0 _ rfl
        have m1 : wr.cell? ⟨b, o + i * 4 + 1, none⟩ = some (.string st1) := hrg 1 _ rfl
        have m2 : wr.cell? ⟨b, o + i * 4 + 2, none⟩ = some (.bool sd1) := hrg 2 _ rfl
        have m3 : wr.cell? ⟨b, o + i * 4 + 3, none⟩ = some (.string sx1) := hrg 3 _ rfl
        have HG := hid_in hg
        have HD4 : Hid ([Value.slice nq nl nc, .string st1, .bool sd1, .string sx1].length = 4) := rfl
        have HP4' : Hid (∀ v ∈ [Value.slice nq nl nc, .string st1, .bool sd1, .string sx1], v.oneCell' = true) := by
          intro v hv
          simp only [List.mem_cons, List.not_mem_nil, or_false] at hv
          rcases hv with rfl | rfl | rfl | rfl <;> rfl
        have HNM1 := hid_in hnm
        have HGP1 := hid_in hgp
        have HNE1 := hid_in hne
        clear hg hrg hnm hgp hne
        go_upto_region 10 with (refine Nd.wpList_store_new rfl rfl 63 4 _ _ rfl _ [Value.slice nq nl nc, .string st1, .bool sd1, .string sx1] info63 rfl HD4 HP4' rfl rfl ?_; intro w7 hr7 hb7 hs7; have HR7 := hid_in hr7; have HB7 := hid_in hb7; have HZ7 := hid_in hs7; clear hr7 hb7 hs7)
        obtain ⟨vp, hrow, hown⟩ := hpr.out.row
        have HBD : Hid (Below wr.heap.size wr w7.drew) := hid_in (HB7.out.trans ((below_drew w7).mono HB7.out.size))
        obtain ⟨X, HX⟩ : ∃ X, Hid (B (shownS ⟨sn1, sd1, sx1⟩) = X) := ⟨_, hid_in rfl⟩
        have HGL : Hid (w5.heap.size < wr.heap.size) := hid_in hrow.lt
        have HBR : Hid (Below w.heap.size w w7.drew) := hid_in ((HBW.out.trans (hpr.out.bel.mono HLW.out)).trans (HBD.out.mono (Nat.le_trans HLW.out (by have := HGL.out; omega))))
        have HD := hid_in (shown_any (.slice nq nl nc) sn1 st1 sx1 sd1 w7.drew ((HNM1.out.below HBR.out).val) HGP1.out HNE1.out)
        rw [HX.out] at HD
        have HRGD : Hid (Row w7.drew w5.heap.size [.int .i64 0, .bool true, .int .i64 (sp.length : Int), .string ⟨#[]⟩, vp] 37) := hid_in (hrow.below HBD.out hrow.lt)
        have HOWN : Hid (Nms w7.drew (w5.heap.size + 1) vp ((sp.take i).map shownP)) := hid_in (Nd.own_belowK hown HBD.out)
        obtain ⟨⟨c0, c1', c2, c3⟩, -⟩ := spot_cells HR7.out (Below.refl _ w7)
        have d0 : w7.drew.cell? ⟨wr.heap.size, 0, none⟩ = some (.slice nq nl nc) := c0
        have d1 : w7.drew.cell? ⟨wr.heap.size, 1, none⟩ = some (.string st1) := c1'
        have d2 : w7.drew.cell? ⟨wr.heap.size, 2, none⟩ = some (.bool sd1) := c2
        have d3 : w7.drew.cell? ⟨wr.heap.size, 3, none⟩ = some (.string sx1) := c3
        have cG : w7.drew.cell? ⟨w5.heap.size, 4, none⟩ = some vp := HRGD.out.cell 4
        clear hrow hown c0 c1' c2 c3 m0 m1 m2 m3
        have HREL : Hid (∀ (w8 w9 : World) (g9 cap9 : Nat), Below w7.drew.heap.size w7.drew w8 → Nms w8 (w5.heap.size + 1) vp ((sp.take i).map shownP) →
            w9.ownsRow (w5.heap.size + 1) 9 1 (.slice (some ⟨g9, 0, none⟩) (((sp.take i).map shownP).length + 1) cap9) (((sp.take i).map shownP).length + 1) (((sp.take i).map shownP).map sv ++ [.string X]) →
            (w8.alloc (.cells #[.string X] 9)).grownBy w9 vp.ownBlock → Row w9 w5.heap.size [.int .i64 0, .bool true, .int .i64 (sp.length : Int), .string ⟨#[]⟩, vp] 37 →
            LI w5 w5.heap.size sp.length sp (i + 1) (w9.setCell ⟨w5.heap.size, 4, none⟩ (.slice (some ⟨g9, 0, none⟩) (i + 1) cap9))) := hid_in (fun w8 w9 g9 cap9 hb8 ho8 ho9 hg9 hr9 => by
          have hl : ((sp.take i).map shownP).length = i := by rw [List.length_map, List.length_take]; omega
          rw [hl] at ho9
          have hgg := (Nd.own_geK ho9 g9 rfl).1
          have q1 : w5.heap.size ≤ w7.drew.heap.size := Nat.le_trans (Nat.le_of_lt HGL.out) HBD.out.size
          have q2 : w5.heap.size ≤ w8.heap.size := Nat.le_trans q1 hb8.size
          have b3 := ((hpr.out.bel.trans (HBD.out.mono (Nat.le_of_lt HGL.out))).trans (hb8.mono q1)).alloc q2 (.cells #[.string X] 9)
          have b4 := b3.grown hg9 (by simp; omega) (fun k e => by have := (Nd.own_geK ho8 k e).1; omega)
          have b5 := b4.grown (grownBy_setCell w9 ⟨w5.heap.size, 4, none⟩ (.slice (some ⟨g9, 0, none⟩) (i + 1) cap9)) (Nat.le_of_lt hr9.lt) (fun k e => by cases e; exact Nat.le_refl _)
          refine ⟨⟨_, hr9.set_same 4 _, ?_⟩, b5⟩
          have k1 := World.ownsRow.kept ho9 (grownBy_setCell w9 ⟨w5.heap.size, 4, none⟩ (.slice (some ⟨g9, 0, none⟩) (i + 1) cap9)) (.inr (fun e => by have e' : g9 = w5.heap.size := Option.some.inj e; omega))
          have e2 : (sp.take (i + 1)).map shownP = (sp.take i).map shownP ++ [shownS ⟨sn1, sd1, sx1⟩] := by
            rw [List.take_add_one, HG.out, List.map_append]
            rfl
          show World.ownsRow _ _ _ _ _ _ _
          rw [e2, List.length_append, hl, List.map_append]
          have e3 : [shownS ⟨sn1, sd1, sx1⟩].map sv = [.string X] := by
            rw [← HX.out]
            rfl
          rw [e3]
          exact k1)
        refine wp_region_held_drew (S := fun _ => True) (by kernel_rfl) trivial (fun hHeld => ?_)
        refine take_put (i := 0) (d := 38) (v := ?_) rfl rfl (by kernel_rfl) (by kernel_rfl) (by kernel_rfl) (fun _ _ _ h => h) (Or.inl ⟨by kernel_rfl, ?_⟩) hHeld ?_
        rotate_left
        · (intro w hSw; (try dsimp only at hSw); go_simp; (try with_reducible rfl))
        simp only [Act.put, List.setIfInBounds_toArray, List.set_cons_zero, List.set_cons_succ]
        refine wpAnyH_ready (rs := [1, 2]) (by kernel_rfl) (by simp) ?_
        refine AllReadyH.cons rfl (fun K hK => ?_) (AllReadyH.cons rfl (fun K hK => ?_) AllReadyH.nil)
        · rw [if_pos (by rfl)]
          go_simp
          refine hK.out _ _ trivial (fun hHeld => ?_)
          clear hK K
          refine wpAnyH_ready (rs := [2]) (by kernel_rfl) (by simp) ?_
          refine AllReadyH.cons rfl (fun K hK => ?_) AllReadyH.nil
          rw [if_pos (by rfl)]
          go_simp
          refine hK.out _ _ trivial (fun hHeld => ?_)
          clear hK K
          refine wpAnyH_ready (rs := [3]) (by kernel_rfl) (by simp) ?_
          refine AllReadyH.cons rfl (fun K hK => ?_) AllReadyH.nil
          rw [if_pos (by rfl)]
          go_simp
          refine HD.out.mono ?_
          rintro e w8 ⟨rfl, hb8⟩
          have HB8 := hid_in hb8
          clear hb8
          have HO8 := hid_in (Nd.own_belowK HOWN.out HB8.out)
          have HRG8 := hid_in (HRGD.out.below HB8.out HRGD.out.lt)
          have cG8 : w8.cell? ⟨w5.heap.size, 4, none⟩ = some vp := HRG8.out.cell 4
          go_simp
          refine hK.out _ _ trivial (fun hHeld => ?_)
          clear hK K
          refine wpAnyH_ready (rs := [4]) (by kernel_rfl) (by simp) ?_
          refine AllReadyH.cons rfl (fun K hK => ?_) AllReadyH.nil
          rw [if_pos (by rfl)]
          refine wp_slice1 35 _ rfl _ _ _ rfl (slice35 X _) ?_
          simp only [Act.put, List.setIfInBounds_toArray]
          have cG9 : (w8.alloc (.cells #[.string X] 9)).cell? ⟨w5.heap.size, 4, none⟩ = some vp := (HRG8.out.alloc _).cell 4
          refine hK.out _ _ trivial (fun hHeld => ?_)
          clear hK K
          refine wpAnyH_ready (rs := [5]) (by kernel_rfl) (by simp) ?_
          refine AllReadyH.cons rfl (fun K hK => ?_) AllReadyH.nil
          rw [if_pos (by rfl)]
          refine wp_append_lies _ _ _ 35 rfl (w5.heap.size + 1) 9 i9 z9 1 16 Tryz.underlying35 hi9.out hz9.out hs9.out hb9.out hzc9.out (by decide) vp ((sp.take i).map shownP).length _ rfl (Nd.own_belowK HO8.out ((Below.refl _ _).alloc (Nat.le_refl _) _)) ⟨w8.heap.size, 0, none⟩ 1 1 [.string X] rfl rfl (World.news_of_block (heap_alloc_new w8 _)) (by intro u hu; simp at hu; subst hu; rfl) (by decide) (by simp [maxLen]; omega) (by simp; omega) (by have := HRG8.out.lt; simp; omega) _ rfl ?_
          intro g9 cap9 w9 hown9 hg9 hor9 hlt9
          simp only [Act.put]
          have HO9 := hid_in hown9
          have HGR9 := hid_in hg9
          have hrg9 : Row w9 w5.heap.size [.int .i64 0, .bool true, .int .i64 (sp.length : Int), .string ⟨#[]⟩, vp] 37 := (HRG8.out.alloc _).grown HGR9.out (fun h => by have := (Nd.own_geK HO8.out _ h.symm).1; omega)
          have HRG9 := hid_in hrg9
          have cG10 : w9.cell? ⟨w5.heap.size, 4, none⟩ = some vp := hrg9.cell 4
          have fG10 := hrg9.frozen 4
          clear hown9 hg9 hor9 hlt9 hrg9
          refine hK.out _ _ trivial (fun hHeld => ?_)
          clear hK K
          refine take_put (i := 6) (d := 44) (v := ?_) rfl rfl (by kernel_rfl) (by kernel_rfl) (by kernel_rfl) (fun _ _ _ h => h) (Or.inl ⟨by kernel_rfl, ?_⟩) hHeld ?_
          rotate_left
          · (intro w hSw; (try dsimp only at hSw); go_simp; (try with_reducible rfl))
          simp only [Act.put]
          refine wpAnyH_ready (rs := [7]) (by kernel_rfl) (by simp) ?_
          refine AllReadyH.cons rfl (fun K hK => ?_) AllReadyH.nil
          rw [if_pos (by rfl)]
          go_simp
          refine hK.out _ _ trivial (fun hHeld => ?_)
          clear hK K
          refine wpAnyH_done (by kernel_rfl) ?_ _
          go_wp2_with fail
          refine ⟨⟨i + 1, by omega, by go_num, ?_⟩, by simp [intOf]; omega⟩
          exact HREL.out w8 w9 g9 cap9 HB8.out HO8.out HO9.out HGR9.out HRG9.out
        · rw [if_pos (by rfl)]
          go_simp
          refine hK.out _ _ trivial (fun hHeld => ?_)
          clear hK K
          refine wpAnyH_ready (rs := [1, 3]) (by kernel_rfl) (by simp) ?_
          refine AllReadyH.cons rfl (fun K hK => ?_) (AllReadyH.cons rfl (fun K hK => ?_) AllReadyH.nil)
          · rw [if_pos (by rfl)]
            go_simp
            refine hK.out _ _ trivial (fun hHeld => ?_)
            clear hK K
            refine wpAnyH_ready (rs := [3]) (by kernel_rfl) (by simp) ?_
            refine AllReadyH.cons rfl (fun K hK => ?_) AllReadyH.nil
            rw [if_pos (by rfl)]
            go_simp
            refine HD.out.mono ?_
            rintro e w8 ⟨rfl, hb8⟩
            have HB8 := hid_in hb8
            clear hb8
            have HO8 := hid_in (Nd.own_belowK HOWN.out HB8.out)
            have HRG8 := hid_in (HRGD.out.below HB8.out HRGD.out.lt)
            have cG8 : w8.cell? ⟨w5.heap.size, 4, none⟩ = some vp := HRG8.out.cell 4
            go_simp
            refine hK.out _ _ trivial (fun hHeld => ?_)
            clear hK K
            refine wpAnyH_ready (rs := [4]) (by kernel_rfl) (by simp) ?_
            refine AllReadyH.cons rfl (fun K hK => ?_) AllReadyH.nil
            rw [if_pos (by rfl)]
            refine wp_slice1 35 _ rfl _ _ _ rfl (slice35 X _) ?_
            simp only [Act.put, List.setIfInBounds_toArray]
            have cG9 : (w8.alloc (.cells #[.string X] 9)).cell? ⟨w5.heap.size, 4, none⟩ = some vp := (HRG8.out.alloc _).cell 4
            refine hK.out _ _ trivial (fun hHeld => ?_)
            clear hK K
            refine wpAnyH_ready (rs := [5]) (by kernel_rfl) (by simp) ?_
            refine AllReadyH.cons rfl (fun K hK => ?_) AllReadyH.nil
            rw [if_pos (by rfl)]
            refine wp_append_lies _ _ _ 35 rfl (w5.heap.size + 1) 9 i9 z9 1 16 Tryz.underlying35 hi9.out hz9.out hs9.out hb9.out hzc9.out (by decide) vp ((sp.take i).map shownP).length _ rfl (Nd.own_belowK HO8.out ((Below.refl _ _).alloc (Nat.le_refl _) _)) ⟨w8.heap.size, 0, none⟩ 1 1 [.string X] rfl rfl (World.news_of_block (heap_alloc_new w8 _)) (by intro u hu; simp at hu; subst hu; rfl) (by decide) (by simp [maxLen]; omega) (by simp; omega) (by have := HRG8.out.lt; simp; omega) _ rfl ?_
            intro g9 cap9 w9 hown9 hg9 hor9 hlt9
            simp only [Act.put]
            have HO9 := hid_in hown9
            have HGR9 := hid_in hg9
            have hrg9 : Row w9 w5.heap.size [.int .i64 0, .bool true, .int .i64 (sp.length : Int), .string ⟨#[]⟩, vp] 37 := (HRG8.out.alloc _).grown HGR9.out (fun h => by have := (Nd.own_geK HO8.out _ h.symm).1; omega)
            have HRG9 := hid_in hrg9
            have cG10 : w9.cell? ⟨w5.heap.size, 4, none⟩ = some vp := hrg9.cell 4
            have fG10 := hrg9.frozen 4
            clear hown9 hg9 hor9 hlt9 hrg9
            refine hK.out _ _ trivial (fun hHeld => ?_)
            clear hK K
            refine take_put (i := 6) (d := 44) (v := ?_) rfl rfl (by kernel_rfl) (by kernel_rfl) (by kernel_rfl) (fun _ _ _ h => h) (Or.inl ⟨by kernel_rfl, ?_⟩) hHeld ?_
            rotate_left
            · (intro w hSw; (try dsimp only at hSw); go_simp; (try with_reducible rfl))
            simp only [Act.put]
            refine wpAnyH_ready (rs := [7]) (by kernel_rfl) (by simp) ?_
            refine AllReadyH.cons rfl (fun K hK => ?_) AllReadyH.nil
            rw [if_pos (by rfl)]
            go_simp
            refine hK.out _ _ trivial (fun hHeld => ?_)
            clear hK K
            refine wpAnyH_done (by kernel_rfl) ?_ _
            go_wp2_with fail
            refine ⟨⟨i + 1, by omega, by go_num, ?_⟩, by simp [intOf]; omega⟩
            exact HREL.out w8 w9 g9 cap9 HB8.out HO8.out HO9.out HGR9.out HRG9.out
          · rw [if_pos (by rfl)]
            go_simp
            refine HD.out.mono ?_
            rintro e w8 ⟨rfl, hb8⟩
            have HB8 := hid_in hb8
            clear hb8
            have HO8 := hid_in (Nd.own_belowK HOWN.out HB8.out)
            have HRG8 := hid_in (HRGD.out.below HB8.out HRGD.out.lt)
            have cG8 : w8.cell? ⟨w5.heap.size, 4, none⟩ = some vp := HRG8.out.cell 4
            go_simp
            refine hK.out _ _ trivial (fun hHeld => ?_)
            clear hK K
            refine wpAnyH_ready (rs := [1, 4]) (by kernel_rfl) (by simp) ?_
            refine AllReadyH.cons rfl (fun K hK => ?_) (AllReadyH.cons rfl (fun K hK => ?_) AllReadyH.nil)
            · rw [if_pos (by rfl)]
              go_simp
              refine hK.out _ _ trivial (fun hHeld => ?_)
              clear hK K
              refine wpAnyH_ready (rs := [4]) (by kernel_rfl) (by simp) ?_
              refine AllReadyH.cons rfl (fun K hK => ?_) AllReadyH.nil
              rw [if_pos (by rfl)]
              refine wp_slice1 35 _ rfl _ _ _ rfl (slice35 X _) ?_
              simp only [Act.put, List.setIfInBounds_toArray]
              have cG9 : (w8.alloc (.cells #[.string X] 9)).cell? ⟨w5.heap.size, 4, none⟩ = some vp := (HRG8.out.alloc _).cell 4
              refine hK.out _ _ trivial (fun hHeld => ?_)
              clear hK K
              refine wpAnyH_ready (rs := [5]) (by kernel_rfl) (by simp) ?_
              refine AllReadyH.cons rfl (fun K hK => ?_) AllReadyH.nil
              rw [if_pos (by rfl)]
              refine wp_append_lies _ _ _ 35 rfl (w5.heap.size + 1) 9 i9 z9 1 16 Tryz.underlying35 hi9.out hz9.out hs9.out hb9.out hzc9.out (by decide) vp ((sp.take i).map shownP).length _ rfl (Nd.own_belowK HO8.out ((Below.refl _ _).alloc (Nat.le_refl _) _)) ⟨w8.heap.size, 0, none⟩ 1 1 [.string X] rfl rfl (World.news_of_block (heap_alloc_new w8 _)) (by intro u hu; simp at hu; subst hu; rfl) (by decide) (by simp [maxLen]; omega) (by simp; omega) (by have := HRG8.out.lt; simp; omega) _ rfl ?_
              intro g9 cap9 w9 hown9 hg9 hor9 hlt9
              simp only [Act.put]
              have HO9 := hid_in hown9
              have HGR9 := hid_in hg9
              have hrg9 : Row w9 w5.heap.size [.int .i64 0, .bool true, .int .i64 (sp.length : Int), .string ⟨#[]⟩, vp] 37 := (HRG8.out.alloc _).grown HGR9.out (fun h => by have := (Nd.own_geK HO8.out _ h.symm).1; omega)
              have HRG9 := hid_in hrg9
              have cG10 : w9.cell? ⟨w5.heap.size, 4, none⟩ = some vp := hrg9.cell 4
              have fG10 := hrg9.frozen 4
              clear hown9 hg9 hor9 hlt9 hrg9
              refine hK.out _ _ trivial (fun hHeld => ?_)
              clear hK K
              refine take_put (i := 6) (d := 44) (v := ?_) rfl rfl (by kernel_rfl) (by kernel_rfl) (by kernel_rfl) (fun _ _ _ h => h) (Or.inl ⟨by kernel_rfl, ?_⟩) hHeld ?_
              rotate_left
              · (intro w hSw; (try dsimp only at hSw); go_simp; (try with_reducible rfl))
              simp only [Act.put]
              refine wpAnyH_ready (rs := [7]) (by kernel_rfl) (by simp) ?_
              refine AllReadyH.cons rfl (fun K hK => ?_) AllReadyH.nil
              rw [if_pos (by rfl)]
              go_simp
              refine hK.out _ _ trivial (fun hHeld => ?_)
              clear hK K
              refine wpAnyH_done (by kernel_rfl) ?_ _
              go_wp2_with fail
              refine ⟨⟨i + 1, by omega, by go_num, ?_⟩, by simp [intOf]; omega⟩
              exact HREL.out w8 w9 g9 cap9 HB8.out HO8.out HO9.out HGR9.out HRG9.out
            · rw [if_pos (by rfl)]
              refine wp_slice1 35 _ rfl _ _ _ rfl (slice35 X _) ?_
              simp only [Act.put, List.setIfInBounds_toArray]
              have cG9 : (w8.alloc (.cells #[.string X] 9)).cell? ⟨w5.heap.size, 4, none⟩ = some vp := (HRG8.out.alloc _).cell 4
              refine hK.out _ _ trivial (fun hHeld => ?_)
              clear hK K
              refine wpAnyH_ready (rs := [1]) (by kernel_rfl) (by simp) ?_
              refine AllReadyH.cons rfl (fun K hK => ?_) AllReadyH.nil
              rw [if_pos (by rfl)]
              go_simp
              refine hK.out _ _ trivial (fun hHeld => ?_)
              clear hK K
              refine wpAnyH_ready (rs := [5]) (by kernel_rfl) (by simp) ?_
              refine AllReadyH.cons rfl (fun K hK => ?_) AllReadyH.nil
              rw [if_pos (by rfl)]
              refine wp_append_lies _ _ _ 35 rfl (w5.heap.size + 1) 9 i9 z9 1 16 Tryz.underlying35 hi9.out hz9.out hs9.out hb9.out hzc9.out (by decide) vp ((sp.take i).map shownP).length _ rfl (Nd.own_belowK HO8.out ((Below.refl _ _).alloc (Nat.le_refl _) _)) ⟨w8.heap.size, 0, none⟩ 1 1 [.string X] rfl rfl (World.news_of_block (heap_alloc_new w8 _)) (by intro u hu; simp at hu; subst hu; rfl) (by decide) (by simp [maxLen]; omega) (by simp; omega) (by have := HRG8.out.lt; simp; omega) _ rfl ?_
              intro g9 cap9 w9 hown9 hg9 hor9 hlt9
              simp only [Act.put, List.setIfInBounds_toArray]
              have HO9 := hid_in hown9
              have HGR9 := hid_in hg9
              have hrg9 : Row w9 w5.heap.size [.int .i64 0, .bool true, .int .i64 (sp.length : Int), .string ⟨#[]⟩, vp] 37 := (HRG8.out.alloc _).grown HGR9.out (fun h => by have := (Nd.own_geK HO8.out _ h.symm).1; omega)
              have HRG9 := hid_in hrg9
              have cG10 : w9.cell? ⟨w5.heap.size, 4, none⟩ = some vp := hrg9.cell 4
              have fG10 := hrg9.frozen 4
              clear hown9 hg9 hor9 hlt9 hrg9
              refine hK.out _ _ trivial (fun hHeld => ?_)
              clear hK K
              refine take_put (i := 6) (d := 44) (v := ?_) rfl rfl (by kernel_rfl) (by kernel_rfl) (by kernel_rfl) (fun _ _ _ h => h) (Or.inl ⟨by kernel_rfl, ?_⟩) hHeld ?_
              rotate_left
              · (intro w hSw; (try dsimp only at hSw); go_simp; (try with_reducible rfl))
              simp only [Act.put]
              refine wpAnyH_ready (rs := [7]) (by kernel_rfl) (by simp) ?_
              refine AllReadyH.cons rfl (fun K hK => ?_) AllReadyH.nil
              rw [if_pos (by rfl)]
              go_simp
              refine hK.out _ _ trivial (fun hHeld => ?_)
              clear hK K
              refine wpAnyH_done (by kernel_rfl) ?_ _
              go_wp2_with fail
              refine ⟨⟨i + 1, by omega, by go_num, ?_⟩, by simp [intOf]; omega⟩
              exact HREL.out w8 w9 g9 cap9 HB8.out HO8.out HO9.out HGR9.out HRG9.out
      · obtain rfl : i = sp.length := by omega
        obtain ⟨vp, hrow, hown⟩ := hpr.out.row
        obtain ⟨pv, cv, rfl⟩ := Vp.Nms.shape hown
        have hbr : Below w3.heap.size w3 wr := HB5.out.trans (hpr.out.bel.mono HB5.out.size)
        obtain ⟨⟨⟨g0, g1, g2, g3, g4⟩, q0, q1, q2, q3, q4⟩, hr5, hb5'⟩ := HERR.out _ hbr
        have d0 : wr.cell? ⟨w5.heap.size, 0, none⟩ = some (.int .i64 0) := hrow.cell 0
        have d1 : wr.cell? ⟨w5.heap.size, 1, none⟩ = some (.bool true) := hrow.cell 1
        have d2 : wr.cell? ⟨w5.heap.size, 2, none⟩ = some (.int .i64 (sp.length : Int)) := hrow.cell 2
        have d3 : wr.cell? ⟨w5.heap.size, 3, none⟩ = some (.string ⟨#[]⟩) := hrow.cell 3
        have d4 : wr.cell? ⟨w5.heap.size, 4, none⟩ = some (.slice pv ((sp.take sp.length).map shownP).length cv) := hrow.cell 4
        have HR5 := hid_in hr5
        have HBB := hid_in hb5'
        have HOW := hid_in (Rf.own0 hown)
        have HLN : Hid (((sp.take sp.length).map shownP).length = sp.length) := hid_in (by simp)
        rw [HLN.out] at d4 HOW
        clear hrow hown hr5 hb5' hbr
        go_wp2
        refine post_res H.out HR5.out HBB.out 0 (sp.length : Int) true ⟨#[]⟩ (.slice pv sp.length cv) _ rfl rfl rfl fun W' hw hf hb => ⟨true, (sp.length : Int), .slice pv sp.length cv, sp.map shownP, by rw [HE.out]; rfl, ?_, hf, hb, .inr ⟨HE.out, rfl, by simp, sp.map Spot.ent, by rw [← HKE.out]; exact HP5.out.map _, by rw [List.pairwise_map]; exact HO5.out.imp fun h => Int.not_lt.2 h, by rw [List.map_map]; rfl⟩⟩
        rw [hw]
        refine nm_set5 ?_ HR5.out (by decide) _ _ _ _ _
        have := HOW.out
        rw [List.take_length] at this
        simpa [Rf.Nm] using this
  · have hk2 : (e0 != 0) = true := by simpa using hk
    have HK0 := hid_in hk
    clear hk
    go_wp2_with (first | (go_at_call 30; refine (HREF.out _ _).mono ?_; rintro e w5 ⟨rfl, hb5⟩; obtain ⟨⟨⟨g0, g1, g2, g3, g4⟩, q0, q1, q2, q3, q4⟩, hr5, hb5'⟩ := HERR.out _ hb5; have HR5 := hid_in hr5; have HB5 := hid_in hb5'; clear hb5 hr5 hb5'))
    refine post_res H.out HR5.out HB5.out e0 0 false ⟨#[]⟩ (.slice none 0 0) _ rfl rfl rfl fun W' _ hf hb => ⟨false, 0, .slice none 0 0, [], ?_, World.ownsRow_nil _ _ _ _, hf, hb, .inl ⟨by rw [HE.out]; exact HK0.out, rfl, rfl, rfl⟩⟩
    rw [HE.out]; rfl
end Go.Proofs.YtngehkmdanhgpaaGreat.Pl
