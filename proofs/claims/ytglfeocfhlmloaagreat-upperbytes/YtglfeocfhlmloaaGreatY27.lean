/-
  The walk of List. Count, Size, Over, New.
-/
import Derived.Laws.CopyOwn
import Derived.Deep.RegionLaw
import Derived.Deep.DrawnRows
import Derived.Laws.Tables
import Derived.Test.YtglfeocfhlmloaaGreatY00
import Derived.Test.YtglfeocfhlmloaaGreatY01
import Derived.Test.YtglfeocfhlmloaaGreatY02
import Derived.Test.YtglfeocfhlmloaaGreatY03
import Derived.Test.YtglfeocfhlmloaaGreatY04
import Derived.Test.YtglfeocfhlmloaaGreatY05
import Derived.Test.YtglfeocfhlmloaaGreatY06
import Derived.Test.YtglfeocfhlmloaaGreatY07
import Derived.Test.YtglfeocfhlmloaaGreatY08
import Derived.Test.YtglfeocfhlmloaaGreatY09
import Derived.Test.YtglfeocfhlmloaaGreatY11
import Derived.Test.YtglfeocfhlmloaaGreatY12
import Derived.Test.YtglfeocfhlmloaaGreatY13
import Derived.Test.YtglfeocfhlmloaaGreatY14
import Derived.Test.YtglfeocfhlmloaaGreatY15
import Derived.Test.YtglfeocfhlmloaaGreatY16
import Derived.Test.YtglfeocfhlmloaaGreatY17
import Derived.Test.YtglfeocfhlmloaaGreatY18
import Derived.Test.YtglfeocfhlmloaaGreatY19
import Derived.Test.YtglfeocfhlmloaaGreatY20
import Derived.Test.YtglfeocfhlmloaaGreatY21
import Derived.Test.YtglfeocfhlmloaaGreatY22
import Derived.Test.YtglfeocfhlmloaaGreatY23
import Derived.Test.YtglfeocfhlmloaaGreatY24
import Derived.Test.YtglfeocfhlmloaaGreatY25
import Derived.Test.YtglfeocfhlmloaaGreatY26
namespace Go.Proofs.YtglfeocfhlmloaaGreat.Up
open Go.RowKit
open Vp (Str B bl Val cmpL parseS showS withinS IsPath)
open Nd (Row wp_world post_Row post_Row2 grownBy_setCell below_of_grown)
def Spot.fil (s : Spot) : Fil := ⟨s.path, s.kind, s.opq, s.data⟩
theorem fills_fls {W : World} {b : Nat} {vs : List Value} {fs : List Fil} (hr : Row W b vs 42) (hf : Nd.Fills vs 4 (fs.map Fil.cells)) (hn : fs.length ≤ 9223372036854775807) : Fls W (.slice (some ⟨b, 0, none⟩) fs.length fs.length) fs := by
  refine ⟨_, fs.length, b, 0, rfl, Nat.le_refl _, hn, fun _ => ⟨rfl, hr.lt⟩, fun j u hj => ?_, fun e => by cases e⟩
  have hjl : j < fs.length * 4 := by rw [← fcells_len]; exact (List.getElem?_eq_some_iff.1 hj).1
  have hi : j / 4 < fs.length := by omega
  obtain ⟨s, hs⟩ : ∃ s, fs[j / 4]? = some s := ⟨_, List.getElem?_eq_getElem hi⟩
  have hy : j % 4 < s.cells.length := by simp [Fil.cells]; omega
  have h1 := fcells_at hs (j % 4) _ (List.getElem?_eq_getElem hy)
  have hjj : j / 4 * 4 + j % 4 = j := by omega
  rw [hjj, hj] at h1
  have h2 := hf (j / 4) s.cells (by rw [List.getElem?_map, hs]; rfl) (j % 4) _ (List.getElem?_eq_getElem hy)
  rw [hjj] at h2
  rw [Nat.zero_add, hr.cell, h2, h1]
/-- between two rounds of List -/
structure LR (w0 : World) (sp : List Spot) (i : Nat) (W : World) : Prop where
  ex : ∃ vs, Row W w0.heap.size vs 42 ∧ vs.length = sp.length * 4 ∧ Nd.Fills vs 4 ((sp.take i).map (fun s => s.fil.cells))
  bel : Below w0.heap.size w0 W
set_option maxHeartbeats 2000000 in
set_option maxRecDepth 100000 in
theorem list_any {w : World} {g m : Nat} {N Z : Int} {L : List Spot} (h : Fs w g m N Z L) {nv : Value} {xs : List Str} (hv : Val w nv xs) (hn : L.length ≤ 100000) :
    Calls Tryz.prog 22 #[.pointer (some ⟨g, 0, none⟩), nv] w fun e w' => ∃ (v : Value) (sp : List Spot), e = .returned v ∧ Fls w' v (sp.map Spot.fil) ∧ sp.Perm (L.filter (belowB xs)) ∧ sp.Pairwise (fun s t => ¬ cmpL t.names s.names < 0) ∧ Fs w' g m N Z L ∧ Below w.heap.size w w' ∧ ∃ b, v = .slice (some ⟨b, 0, none⟩) sp.length sp.length ∧ ∃ vs, Row w' b vs 42 := by
  have H := hid_in h
  have HBL := hid_in (below_any h hv hn)
  have HN := hid_in hn
  have HSORT := hid_in (fun W (k : Below w.heap.size w W) v sp (hs : SO W w.heap.size v sp) (hp : sp.Perm (L.filter (belowB xs))) => sort_any sp W w.heap.size v hs (fun s hs => (h.below k).map.nms s (List.mem_filter.1 (hp.mem_iff.1 hs)).1) (by rw [hp.length_eq]; have := List.length_filter_le (belowB xs) L; omega))
  obtain ⟨np, nc', rfl⟩ : ∃ p c, nv = .slice p xs.length c := by obtain ⟨p, c, e, _⟩ := hv; exact ⟨p, c, e⟩
  generalize xs.length = nl' at *
  clear h hn hv
  obtain ⟨i48, z48, hi48, hs48, hb48, hz48, hzc48⟩ := info81h
  go_enter Tryz.func22, Tryz.ntmps22
  go_upto_region 4 with (first | (go_at_call 52; refine HBL.out.mono ?_; rintro e w1 ⟨v1, sp1, rfl, hs1, hp1, hb1⟩; have HS1 := hid_in hs1; have HP1 := hid_in hp1; have HB1 := hid_in hb1; obtain ⟨p1, cap1, rfl⟩ := hs1.form; clear hs1 hp1 hb1))
  go_upto_region 5 with (first | (go_at_call 53; refine (HSORT.out _ HB1.out _ _ HS1.out HP1.out).mono ?_; rintro e w2 ⟨rfl, hb2, sp, hp2, ho2, hs2⟩; have HB2 := hid_in (HB1.out.trans hb2); have HP2 := hid_in (hp2.trans HP1.out); have HPL := hid_in hp2.length_eq; have HO2 := hid_in ho2; have HS2 := hid_in hs2; clear hb2 hp2 ho2 hs2))
  have hlen : sp.length ≤ 100000 := by
    rw [HP2.out.length_eq]; have := List.length_filter_le (belowB xs) L; have := HN.out; omega
  rw [← HPL.out] at HS2 ⊢
  have HSF : Hid (∀ s ∈ sp, Sf s) := fun s hs => by
    have h1 := H.out.map.nms s (List.mem_filter.1 (HP2.out.mem_iff.1 hs)).1
    obtain ⟨p, c, e⟩ := h1.form
    exact ⟨p, _, c, e⟩
  obtain ⟨p', cap', b, o, e1, hc1, hc2, h4, h5, h6⟩ := HS2.out
  simp only [Value.slice.injEq] at e1
  obtain ⟨rfl, _, rfl⟩ := e1
  have H4 := hid_in h4
  have H5 := hid_in h5
  clear h4 h5 h6
  go_wp2_with (first | (refine wpList_make_full _ rfl _ _ 50 rfl _ 42 i48 z48 4 Tryz.underlying50 hi48.out hz48.out hs48.out .i64 .i64 _ _ sp.length rfl rfl rfl rfl (by rw [hb48.out]; omega) (by simp [maxLen]; omega) (Nat.le_refl _) ?_; intro w3 hown hg3; obtain ⟨vs0, hr0, hl0⟩ := Nd.made_row hown; have HR0 := hid_in hr0; have HL0 := hid_in hl0; have HG3 := hid_in hg3; clear hown hr0 hl0 hg3))
  go_loopw [21] (fun vi W => ∃ i : Nat, i ≤ sp.length ∧ vi = .int .i64 (i : Int) ∧ Hid (LR w2 sp i W)) (fun vi _ => sp.length - (intOf vi).toNat)
  case atStart => exact ⟨0, by omega, rfl, ⟨vs0, HR0.out, HL0.out, fun i us h => by simp at h⟩, (Below.refl _ _).grown HG3.out (Nat.le_refl _) (fun k e => by cases e)⟩
  case round =>
    obtain ⟨i, hi, rfl, hpr⟩ := hrel
    by_cases hlt : i < sp.length
    · have hg : sp[i]? = some sp[i] := List.getElem?_eq_getElem hlt
      obtain ⟨hp, hb⟩ := H4.out (by intro h; simp [h] at hlt)
      have hrg : ∀ (y : Nat) u, (sp[i]).cells[y]? = some u → wr.cell? ⟨b, o + i * 5 + y, none⟩ = some u := fun y u hy => by
        rw [hpr.out.bel.cell (p := ⟨b, o + i * 5 + y, none⟩) hb, Nat.add_assoc]
        exact H5.out _ _ (scells_at hg y u hy)
      obtain ⟨nq, nl, nc, hsv⟩ := HSF.out _ (List.getElem_mem hlt)
      generalize sp[i] = s at *
      obtain ⟨sv, sn, st, sk, sd, sx⟩ := s
      simp only at hsv
      subst hp hsv
      have m0 : wr.cell? ⟨b, o + i * 5, none⟩ = some (.slice nq nl nc) := by simpa using hrg 0 _ rfl
      have m1 : wr.cell? ⟨b, o + i * 5 + 1, none⟩ = some (.string st) := hrg 1 _ rfl
      have m2 : wr.cell? ⟨b, o + i * 5 + 2, none⟩ = some (.int .i64 sk) := hrg 2 _ rfl
      have m3 : wr.cell? ⟨b, o + i * 5 + 3, none⟩ = some (.bool sd) := hrg 3 _ rfl
      have m4 : wr.cell? ⟨b, o + i * 5 + 4, none⟩ = some (.string sx) := hrg 4 _ rfl
      have HG := hid_in hg
      have HC4 : Hid ([Value.slice nq nl nc, .string st, .int .i64 sk, .bool sd, .string sx].length = 5) := rfl
      have HO4 : Hid (∀ v ∈ [Value.slice nq nl nc, .string st, .int .i64 sk, .bool sd, .string sx], v.oneCell' = true) := by
        intro v hv
        simp only [List.mem_cons, List.not_mem_nil, or_false] at hv
        rcases hv with rfl | rfl | rfl | rfl | rfl <;> rfl
      have HO3 : Hid (∀ v ∈ [Value.string st, .int .i64 sk, .bool sd, .string sx], v.oneCell' = true) := by
        intro v hv
        simp only [List.mem_cons, List.not_mem_nil, or_false] at hv
        rcases hv with rfl | rfl | rfl | rfl <;> rfl
      clear hg hrg
      go_upto_region 9 with (first | (refine Nd.wpList_store_new rfl rfl 80 5 _ _ rfl _ [Value.slice nq nl nc, .string st, .int .i64 sk, .bool sd, .string sx] info63 rfl HC4 HO4 rfl rfl ?_; intro w5 hr5 hb5 hs5))
      obtain ⟨⟨c0, c1, c2, c3, c4⟩, -⟩ := spot_cells hr5 (Below.refl _ w5)
      have HR5 := hid_in hr5
      have HB5 := hid_in hb5
      have HS5 := hid_in hs5
      clear hr5 hb5 hs5 m0 m1 m2 m3 m4
      obtain ⟨vs, hrw, hvl, hf⟩ := hpr.out.ex
      have hrw5 := hrw.below HB5.out hrw.lt
      have HVL := hid_in hvl
      have HF := hid_in hf
      have hwl := hrw5.lt
      clear hrw hvl hf
      go_wp2_with (first | (refine Nd.wpList_store_Row rfl 42 _ _ rfl w2.heap.size _ [Value.string st, .int .i64 sk, .bool sd, .string sx] rfl rfl 42 vs hrw5 4 info36 rfl (by rw [HVL.out]; omega) HO3.out ?_; intro w9 hr9 hg9 hs9))
      have HR9 := hid_in hr9
      have HG9 := hid_in hg9
      clear hr9 hg9 hs9 hrw5
      go_roundw
      case rel =>
        go_light
        refine ⟨i + 1, by omega, by go_num, ⟨_, HR9.out, ?_, ?_⟩, ?_⟩
        · rw [Nd.splice_length _ _ _ (by rw [HVL.out]; simp; omega)]; exact HVL.out
        · have hll : ((sp.take i).map (fun s => s.fil.cells)).length = i := by rw [List.length_map, List.length_take]; omega
          have h3 := HF.out.snoc (fun us hus => by obtain ⟨s, _, rfl⟩ := List.mem_map.1 hus; rfl) [Value.string st, .int .i64 sk, .bool sd, .string sx] rfl (by rw [hll, HVL.out]; omega)
          rw [hll] at h3
          rw [List.take_add_one, HG.out, List.map_append]
          exact h3
        · exact below_of_grown (hpr.out.bel.trans (HB5.out.mono hpr.out.bel.size)) HG9.out (Nat.le_trans hpr.out.bel.size HB5.out.size) (Nat.le_refl _)
      case measure => simp [intOf]; omega
    · obtain rfl : i = sp.length := by omega
      go_wp2_with fail
      go_ret
      obtain ⟨vs, hr, hl, hf⟩ := hpr.out.ex
      have hb := HB2.out.trans (hpr.out.bel.mono HB2.out.size)
      refine ⟨_, rfl, sp, ?_, HP2.out, HO2.out, H.out.below hb, hb, _, rfl, _, hr⟩
      have h7 := fills_fls (fs := sp.map Spot.fil) hr (by rw [List.take_length] at hf; rw [List.map_map]; exact hf) (by rw [List.length_map]; omega)
      rw [List.length_map] at h7
      exact h7
end Go.Proofs.YtglfeocfhlmloaaGreat.Up
namespace Go.Proofs.YtglfeocfhlmloaaGreat.Up
open Go.RowKit
open Go.ChangeMaps (setBlock heap_setBlock_same heap_setBlock_other)
open Vp (Str B bl Val cmpL parseS showS withinS IsPath checkS)
open Nd (Row wp_world post_Row post_Row2 grownBy_setCell below_of_grown)
theorem MapP.len {w : World} {m : Nat} {L : List Spot} (h : MapP w m L) (ty : TypeId) : (Builtin.len_ #[47] ty #[.map (some m)]).run Tryz.prog w = .ok (.int .i64 (L.length : Int)) w := by
  obtain ⟨es, clock, hb, he, _⟩ := h.ex
  have hl : es.size = L.length := by simpa using congrArg List.length he
  simp [Builtin.len_, run_underlying Tryz.underlying47, MapKept.run_getObj_map hb, goInt, Result.andThen, hl]
theorem count_any {w : World} {g m : Nat} {N Z : Int} {L : List Spot} (h : Fs w g m N Z L) : Calls Tryz.prog 15 #[.pointer (some ⟨g, 0, none⟩)] w fun e w' => e = .returned (.int .i64 (L.length : Int)) ∧ w' = w := by
  have c0 := h.cell.2.2
  have hl := fun ty => h.map.len ty
  clear h
  go_enter Tryz.func15, Tryz.ntmps15
  go_wp2
  go_ret
  exact ⟨rfl, rfl⟩
/-- how many bytes they have -/
def sumD (L : List Spot) : Nat := (L.map (fun s => s.data.size)).sum
theorem sumD_perm {L L' : List Spot} (h : L.Perm L') : sumD L = sumD L' := (h.map _).sum_nat
theorem sum_le (L : List Spot) (h : ∀ s ∈ L, s.data.size ≤ 1024) : sumD L ≤ L.length * 1024 := by
  induction L with
  | nil => simp [sumD]
  | cons a r ih =>
    have h1 := ih fun s hs => h s (by simp [hs])
    have h2 := h a (by simp)
    simp only [sumD, List.map_cons, List.sum_cons, List.length_cons] at *
    omega
/-- no path has so many names -/
def deepX : List Str := List.replicate 100 []
theorem deep_none {w : World} {m : Nat} {L : List Spot} (h : MapP w m L) {s : Spot} (hs : s ∈ L) : belowB deepX s = false := by
  have h1 := (h.good s hs).2.2
  unfold belowB
  have h2 : ¬ deepX.length < s.names.length := by
    have : deepX.length = 100 := List.length_replicate
    omega
  rw [decide_eq_false h2]
  rfl
theorem sumD_snoc (A : List Spot) (s : Spot) : sumD (A ++ [s]) = sumD A + s.data.size := by simp [sumD]
theorem deep_filter {w : World} {m : Nat} {L : List Spot} (h : MapP w m L) {A : List Spot} (hA : ∀ s ∈ A, s ∈ L) : A.filter (belowB deepX) = [] := by
  rw [List.filter_eq_nil_iff]
  intro s hs
  rw [deep_none h (hA s hs)]
  simp
set_option maxHeartbeats 4000000 in
set_option maxRecDepth 100000 in
theorem size_any {w : World} {g m : Nat} {N Z : Int} {L : List Spot} (h : Fs w g m N Z L) (hn : L.length ≤ 100000) (hsm : ∀ s ∈ L, s.data.size ≤ 1024) :
    Calls Tryz.prog 16 #[.pointer (some ⟨g, 0, none⟩)] w fun e w' => e = .returned (.int .i64 (sumD L : Int)) ∧ Below w.heap.size w w' := by
  obtain ⟨es, clock, hb, he, hst, hnd⟩ := h.map.ex
  have H := hid_in h
  have HN := hid_in hn
  have HSM := hid_in hsm
  have hc := h.cell.2.2
  have hrun := run_range_map (P := Tryz.prog) w 47 9 80 m es clock Tryz.underlying47 hb
  have HNX := hid_in (fun v W done (k : BL w m L deepX es clock v W done) => k.next h.map.lt hb he hst hnd 0)
  have HM := hid_in h.map.lt
  have HMB := hid_in hb
  have HZL : Hid (es.toList.length = L.length) := hid_in (by simpa using congrArg List.length he)
  clear h hn hb he hst hnd hsm
  go_enter Tryz.func16, Tryz.ntmps16
  go_wp2_with fail
  go_loopw [3] (fun v W => Hid (∃ done, v = .int .i64 (sumD (done.map (·.2)) : Nat) ∧ BL w m L deepX es clock (.slice none 0 0) W done)) (fun _ W => W.rangeLeft m w.heap.size)
  case atStart => exact ⟨[], rfl, ⟨clock, (MapKept.heap_alloc w _).1, Nat.le_refl _⟩, by simp, by simp, SO.nil _ _, (Below.refl _ _).alloc (Nat.le_refl _) _, by simp⟩
  case round =>
    obtain ⟨done, rfl, hR⟩ := hrel.out
    have HR := hid_in hR
    have HSUB : Hid (∀ s ∈ done.map (·.2), s ∈ L) := hid_in (fun s hs => by
      obtain ⟨d, hd, rfl⟩ := List.mem_map.1 hs
      exact (List.of_mem_zip (hR.sub d hd)).2)
    have hsum : (sumD (done.map (·.2)) : Int) ≤ 102400000 := by
      have h1 := sum_le (done.map (·.2)) (fun s hs => HSM.out s (HSUB.out s hs))
      have h2 := hR.len
      have h3 := HN.out
      rw [List.length_map] at h1
      omega
    rcases HNX.out _ _ _ hR with ⟨hnx, hp⟩ | ⟨e, s, W2, hs, hnx, hen, hg2, hs2, hit2, hnd2, hsub2, hdec⟩
    · have HP := hid_in hp
      clear hp hR hrel
      go_wp2
      go_ret
      exact ⟨by rw [sumD_perm HP.out]; rfl, HR.out.bel⟩
    · obtain ⟨hwide, hsz2, hb2⟩ := hR.wide hg2 hs2
      have hvs := (H.out.map.nms s hs).val
      have HSTEP := hid_in (fun (W' : World) (hB : Below (w.heap.size + 1) W2 W') => hR.step hg2 hs2 hit2 hnd2 hsub2 hB (v' := .slice none 0 0) (by rw [deep_filter H.out.map HSUB.out, deep_none H.out.map hs]; exact SO.nil _ _))
      have HDEC := hid_in (fun (W' : World) (hB : Below (w.heap.size + 1) W2 W') => hdec W' (by rw [hB.block m (Nat.lt_succ_of_lt HM.out), hb2.block m HM.out, HMB.out]) (by obtain ⟨c0, h1, _⟩ := hit2; exact ⟨c0, by rw [hB.block _ (Nat.lt_succ_self _), h1]⟩))
      have HSZ2 := hid_in hsz2
      have hsx : (s.data.size : Int) ≤ 1024 := by have := HSM.out s hs; omega
      have HSNOC := hid_in (sumD_snoc (done.map (·.2)) s)
      obtain ⟨sv, sn, sp, sk, sd, sx⟩ := s
      obtain ⟨qp, qc, rfl⟩ : ∃ p c, sv = .slice p sn.length c := by obtain ⟨p, c, e1, _⟩ := hvs; exact ⟨p, c, e1⟩
      simp only [Spot.val] at hnx hen hsx
      simp only at HSNOC
      obtain ⟨t, HTT⟩ : ∃ t, Hid (sumD (done.map (·.2)) = t) := ⟨_, hid_in rfl⟩
      rw [HTT.out] at hsum HSNOC ⊢
      clear hwide hsz2 hb2 hvs hit2 hnd2 hsub2 hdec hR hrel hs hg2 hs2
      have HC4 : Hid ([Value.slice qp sn.length qc, .string sp, .int .i64 sk, .bool sd, .string sx].length = 5) := rfl
      have HO4 : Hid (∀ v ∈ [Value.slice qp sn.length qc, .string sp, .int .i64 sk, .bool sd, .string sx], v.oneCell' = true) := by
        intro v hv
        simp only [List.mem_cons, List.not_mem_nil, or_false] at hv
        rcases hv with rfl | rfl | rfl | rfl | rfl <;> rfl
      go_upto_region 7 with (first | (refine Nd.wpList_store_new rfl rfl 80 5 _ _ rfl _ [Value.slice qp sn.length qc, .string sp, .int .i64 sk, .bool sd, .string sx] info63 rfl HC4 HO4 rfl rfl ?_; intro w3 hr3 hb3 hs3; have HR3 := hid_in hr3; have HB3 := hid_in hb3; clear hr3 hb3 hs3))
      have c4 : w3.cell? ⟨W2.heap.size, 4, none⟩ = some (.string sx) := HR3.out.cell 4
      go_wp2
      have hB5 : Below (w.heap.size + 1) W2 w3 := HB3.out.mono HSZ2.out
      refine ⟨⟨_, ?_, HSTEP.out _ hB5⟩, HDEC.out _ hB5⟩
      rw [List.map_append, List.map_cons, List.map_nil, HSNOC.out]
      go_num
end Go.Proofs.YtglfeocfhlmloaaGreat.Up
