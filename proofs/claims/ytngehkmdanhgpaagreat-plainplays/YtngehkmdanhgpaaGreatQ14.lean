/-
  The walk of below. parse: the paths of a list.
-/
import Derived.Lib.SlBytesConst
import Derived.Laws.CopyOwn
import Derived.Deep.RegionLaw
import Derived.Deep.DrawnRows
import Derived.Lib.AppendZeros
import Derived.Laws.Tables
import Derived.Test.YtngehkmdanhgpaaGreatQ00
import Derived.Test.YtngehkmdanhgpaaGreatQ01
import Derived.Test.YtngehkmdanhgpaaGreatQ02
import Derived.Test.YtngehkmdanhgpaaGreatQ03
import Derived.Test.YtngehkmdanhgpaaGreatQ04
import Derived.Test.YtngehkmdanhgpaaGreatQ05
import Derived.Test.YtngehkmdanhgpaaGreatQ06
import Derived.Test.YtngehkmdanhgpaaGreatQ07
import Derived.Test.YtngehkmdanhgpaaGreatQ08
import Derived.Test.YtngehkmdanhgpaaGreatQ09
import Derived.Test.YtngehkmdanhgpaaGreatQ10
import Derived.Test.YtngehkmdanhgpaaGreatQ11
import Derived.Test.YtngehkmdanhgpaaGreatQ12
import Derived.Test.YtngehkmdanhgpaaGreatQ13
namespace Go.Proofs.YtngehkmdanhgpaaGreat.Pl
open Go.RowKit
open Go.ChangeMaps (setBlock heap_setBlock_same heap_setBlock_other)
open Vp (Str B bl Val cmpL parseS showS splitS withinS IsPath)
open Nd (Row wp_world post_Row post_Row2)
theorem iter_set {W W1 : World} {r m since c0 : Nat} {seen : Array Nat} {o : Obj} (hr : W.heap[r]? = some (.mapIter (some m) since seen c0)) (h1 : W1 = W ∨ W1 = W.drew) :
    (setBlock W1 r o).heap[r]? = some o ∧ W.grownBy (setBlock W1 r o) (some r) ∧ (setBlock W1 r o).heap.size = W.heap.size := by
  have hr1 : W1.heap[r]? = some (.mapIter (some m) since seen c0) := by rcases h1 with rfl | rfl <;> exact hr
  have hl := (Array.getElem?_eq_some_iff.1 hr1).1
  have hs : (setBlock W1 r o).heap.size = W1.heap.size := by simp [setBlock]
  have h2 : ∀ i, i ≠ r → (setBlock W1 r o).heap[i]? = W1.heap[i]? := fun i hi => by simp [setBlock, Ne.symm hi]
  have hg1 : W1.grownBy (setBlock W1 r o) (some r) := ⟨rfl, rfl, rfl, by rw [hs]; exact Nat.le_refl _, fun i _ hne => h2 i (fun e => hne (by rw [e]))⟩
  refine ⟨by simp [setBlock, hl], ?_, ?_⟩
  · rcases h1 with rfl | rfl
    · exact hg1
    · exact World.grownBy.andThen ((grown_of_below (below_drew W)).but _) hg1 (fun _ e => .inr e)
  · rcases h1 with rfl | rfl
    · exact hs
    · rw [hs]; rfl
/-- the next entry -/
theorem BL.next {w : World} {m : Nat} {L : List Spot} {xs : List Str} {es : Array MapEntry} {clock : Nat} {v : Value} {W : World} {done : List (MapEntry × Spot)} (h : BL w m L xs es clock v W done)
    (hm : m < w.heap.size) (hb : w.heap[m]? = some (.map es clock)) (he : es.toList.map (fun e => (e.key, e.val)) = L.map (fun s => (Value.string s.path, s.val))) (hst : ∀ e ∈ es.toList, e.born < clock) (hnd : (es.toList.map (·.born)).Nodup) (ty : TypeId) :
    ((Instr.next (.pointer (some ⟨w.heap.size, 0, none⟩)) false ty).run Tryz.prog W = .ok (.tuple #[.bool false]) W ∧ (done.map (·.2)).Perm L) ∨
    ∃ (e : MapEntry) (s : Spot) (W2 : World), s ∈ L ∧ (Instr.next (.pointer (some ⟨w.heap.size, 0, none⟩)) false ty).run Tryz.prog W = .ok (.tuple #[.bool true, .string s.path, s.val]) W2 ∧ (Instr.entry (.pointer (some ⟨w.heap.size, 0, none⟩))).run Tryz.prog W2 = .ok (.tuple #[.string s.path, s.val]) W2 ∧
      W.grownBy W2 (some w.heap.size) ∧ W2.heap.size = W.heap.size ∧ (∃ c0, W2.heap[w.heap.size]? = some (.mapIter (some m) clock ((done ++ [(e, s)]).map (·.1.born)).toArray c0) ∧ clock ≤ c0) ∧
      ((done ++ [(e, s)]).map (·.1.born)).Nodup ∧ (∀ d ∈ done ++ [(e, s)], d ∈ es.toList.zip L) ∧ ∀ W' : World, W'.heap[m]? = some (.map es clock) → (∃ c0, W'.heap[w.heap.size]? = some (.mapIter (some m) clock ((done ++ [(e, s)]).map (·.1.born)).toArray c0)) → W'.rangeLeft m w.heap.size < W.rangeLeft m w.heap.size := by
  obtain ⟨c0, hr, hc⟩ := h.it
  have hbW : W.heap[m]? = some (.map es clock) := by rw [h.bel.block m hm, hb]
  have hl : es.toList.length = L.length := by simpa using congrArg List.length he
  rcases run_next_at (P := Tryz.prog) W ty w.heap.size m clock c0 _ es clock hr hbW hst hc with ⟨h0, hrun⟩ | ⟨e, hel, w1, hal, hrun⟩
  · refine .inl ⟨hrun, done_perm hl hnd h.nd h.sub fun e hm2 => ?_⟩
    have h2 : leftOf es (done.map (·.1.born)).toArray = #[] := Array.eq_empty_of_size_eq_zero h0
    unfold leftOf at h2
    rw [Array.filter_eq_empty_iff] at h2
    have := h2 e (by simpa using hm2)
    simpa using this
  · obtain ⟨hem, hes⟩ := mem_left hel
    obtain ⟨j, hj⟩ := List.getElem?_of_mem hem
    have hjl := (List.getElem?_eq_some_iff.1 hj).1
    obtain ⟨s, hs⟩ : ∃ s, L[j]? = some s := ⟨_, List.getElem?_eq_getElem (by omega)⟩
    have hkv : e.key = .string s.path ∧ e.val = s.val := by
      have := congrArg (fun l => l[j]?) he
      simp only [List.getElem?_map, hj, hs, Option.map_some, Option.some.injEq, Prod.mk.injEq] at this
      exact this
    have hset := iter_set (o := .mapIter (some m) clock ((done.map (·.1.born)).toArray.push e.born) clock) hr hal
    have hmr : m ≠ w.heap.size := by omega
    have hb2 : (setBlock w1 w.heap.size (.mapIter (some m) clock ((done.map (·.1.born)).toArray.push e.born) clock)).heap[m]? = some (.map es clock) := by
      rw [hset.2.1.block m (Array.getElem?_eq_some_iff.1 hbW).1 (fun e => hmr (Option.some.inj e)), hbW]
    have hen := run_entry_at (P := Tryz.prog) _ w.heap.size m clock (done.map (·.1.born)).toArray es clock e hset.1 hb2 hem hnd
    have harr : (done.map (·.1.born)).toArray.push e.born = ((done ++ [(e, s)]).map (·.1.born)).toArray := by simp
    rw [hkv.1, hkv.2] at hrun hen
    refine .inr ⟨e, s, _, List.mem_of_getElem? hs, hrun, hen, hset.2.1, hset.2.2, ⟨clock, by rw [hset.1, harr], Nat.le_refl _⟩, ?_, ?_, ?_⟩
    · rw [List.map_append, List.nodup_append]
      refine ⟨h.nd, by simp, fun a ha b hb3 => ?_⟩
      simp only [List.map_cons, List.map_nil, List.mem_singleton] at hb3
      rintro rfl
      subst hb3
      have : (done.map (·.1.born)).toArray.contains e.born = true := by simpa using ha
      rw [this] at hes
      cases hes
    · intro d hd
      rcases List.mem_append.1 hd with hd | hd
      · exact h.sub d hd
      · obtain rfl := List.mem_singleton.1 hd
        refine List.mem_of_getElem? (i := j) ?_
        rw [List.getElem?_zip_eq_some]
        exact ⟨hj, hs⟩
    · rintro W' hb' ⟨c1, hr'⟩
      simp only [World.rangeLeft, hb', hr', hbW, hr, ← harr]
      exact left_shrinks es _ e hel
theorem SO.grown {W W' : World} {B : Nat} {v : Value} {sp : List Spot} {row : Option Nat} (h : SO W B v sp) (hg : W.grownBy W' row) (hne : ∀ k, v.ownBlock = some k → row ≠ some k) : SO W' B v sp := by
  obtain ⟨h1, h2 | ⟨g, cap, cur, hv, hB, hh, r⟩⟩ := h
  · exact ⟨h1, .inl h2⟩
  · refine ⟨h1, .inr ⟨g, cap, cur, hv, hB, ?_, r⟩⟩
    rw [hg.block g (Array.getElem?_eq_some_iff.1 hh).1 (fun e => hne g (by rw [hv]; rfl) e.symm), hh]
/-- behind a round -/
theorem BL.step {w : World} {m : Nat} {L : List Spot} {xs : List Str} {es : Array MapEntry} {clock : Nat} {v : Value} {W W2 W' : World} {done : List (MapEntry × Spot)} {e : MapEntry} {s : Spot} (h : BL w m L xs es clock v W done) (hg2 : W.grownBy W2 (some w.heap.size)) (hs2 : W2.heap.size = W.heap.size)
    (hit : ∃ c0, W2.heap[w.heap.size]? = some (.mapIter (some m) clock ((done ++ [(e, s)]).map (·.1.born)).toArray c0) ∧ clock ≤ c0) (hnd : ((done ++ [(e, s)]).map (·.1.born)).Nodup) (hsub : ∀ d ∈ done ++ [(e, s)], d ∈ es.toList.zip L)
    {v' : Value} (hB : Below (w.heap.size + 1) W2 W') (hrow : SO W' (w.heap.size + 1) v' ((done.map (·.2)).filter (belowB xs) ++ if belowB xs s then [s] else [])) : BL w m L xs es clock v' W' (done ++ [(e, s)]) := by
  obtain ⟨c0, h1, h2⟩ := hit
  refine ⟨⟨c0, by rw [hB.block _ (Nat.lt_succ_self _), h1], h2⟩, hnd, hsub, ?_, ?_, ?_⟩
  · have : ((done ++ [(e, s)]).map (·.2)).filter (belowB xs) = (done.map (·.2)).filter (belowB xs) ++ if belowB xs s then [s] else [] := by
      simp only [List.map_append, List.filter_append, List.map_cons, List.map_nil, List.filter_cons, List.filter_nil]
    rw [this]
    exact hrow
  · have hb2 : Below w.heap.size w W2 := h.bel.grown hg2 h.bel.size (fun k e => by obtain rfl := Option.some.inj e; exact Nat.le_refl _)
    exact hb2.trans (hB.mono (Nat.le_succ _))
  · have := h.sz
    have := hB.size
    omega
theorem BL.wide {w : World} {m : Nat} {L : List Spot} {xs : List Str} {es : Array MapEntry} {clock : Nat} {v : Value} {W W2 : World} {done : List (MapEntry × Spot)} (h : BL w m L xs es clock v W done) (hg2 : W.grownBy W2 (some w.heap.size)) (hs2 : W2.heap.size = W.heap.size) : SO W2 (w.heap.size + 1) v ((done.map (·.2)).filter (belowB xs)) ∧ w.heap.size + 1 ≤ W2.heap.size ∧ Below w.heap.size w W2 := by
  refine ⟨h.row.grown hg2 (fun k e e2 => ?_), by rw [hs2]; exact h.sz, h.bel.grown hg2 h.bel.size (fun k e => by obtain rfl := Option.some.inj e; exact Nat.le_refl _)⟩
  have := (Nd.own_geK h.row k e).1
  have := Option.some.inj e2
  omega
set_option maxHeartbeats 4000000 in
set_option maxRecDepth 100000 in
theorem below_any {w : World} {g m : Nat} {L : List Spot} (h : Fs w g m L) {nv : Value} {xs : List Str} (hv : Val w nv xs) (hn : L.length ≤ 100000) :
    Calls Tryz.prog 42 #[.pointer (some ⟨g, 0, none⟩), nv] w fun e w' => ∃ v sp, e = .returned v ∧ SO w' w.heap.size v sp ∧ sp.Perm (L.filter (belowB xs)) ∧ Below w.heap.size w w' := by
  have HV := hid_in hv
  obtain ⟨np, nc, rfl⟩ : ∃ p c, nv = .slice p xs.length c := by obtain ⟨p, c, e, _⟩ := hv; exact ⟨p, c, e⟩
  obtain ⟨es, clock, hb, he, hst, hnd⟩ := h.map.ex
  have H := hid_in h
  have HN := hid_in hn
  have hc := h.cell
  have hrun := run_range_map (P := Tryz.prog) w 58 9 63 m es clock Tryz.underlying58 hb
  have HNX := hid_in (fun v W done (k : BL w m L xs es clock v W done) => k.next h.map.lt hb he hst hnd 0)
  have HM := hid_in h.map.lt
  have HMB := hid_in hb
  obtain ⟨nl, HNL⟩ : ∃ nl, Hid (xs.length = nl) := ⟨_, hid_in rfl⟩
  rw [HNL.out] at HV ⊢
  clear h hv hn hb he hst hnd
  go_enter Tryz.func42, Tryz.ntmps42
  go_wp2_with fail
  go_loopw [5] (fun v W => Hid (∃ done, BL w m L xs es clock v W done)) (fun _ W => W.rangeLeft m w.heap.size)
  case atStart => exact ⟨[], ⟨clock, (MapKept.heap_alloc w _).1, Nat.le_refl _⟩, by simp, by simp, SO.nil _ _, (Below.refl _ _).alloc (Nat.le_refl _) _, by simp⟩
  case round =>
    obtain ⟨done, hR⟩ := hrel.out
    have HR := hid_in hR
    rcases HNX.out _ _ _ hR with ⟨hnx, hp⟩ | ⟨e, s, W2, hs, hnx, hen, hg2, hs2, hit2, hnd2, hsub2, hdec⟩
    · have HP := hid_in hp
      clear hp hR hrel
      go_wp2
      go_ret
      exact ⟨_, _, rfl, HR.out.row.mono (Nat.le_succ _), HP.out.filter _, HR.out.bel⟩
    · obtain ⟨hwide, hsz2, hb2⟩ := hR.wide hg2 hs2
      have hvs := (H.out.map.nms s hs).val
      have HSTEP := hid_in (fun (v' : Value) (W' : World) (hB : Below (w.heap.size + 1) W2 W') (hrow : SO W' (w.heap.size + 1) v' ((done.map (·.2)).filter (belowB xs) ++ if belowB xs s then [s] else [])) => hR.step hg2 hs2 hit2 hnd2 hsub2 hB hrow)
      have HDEC := hid_in (fun (W' : World) (hB : Below (w.heap.size + 1) W2 W') => hdec W' (by rw [hB.block m (Nat.lt_succ_of_lt HM.out), hb2.block m HM.out, HMB.out]) (by obtain ⟨c0, h1, _⟩ := hit2; exact ⟨c0, by rw [hB.block _ (Nat.lt_succ_self _), h1]⟩))
      have HLEN := hid_in hR.len
      have HW := hid_in hwide
      have HSZ2 := hid_in hsz2
      have HB2 := hid_in hb2
      have HVS := hid_in hvs
      have HSF : Hid (Sf s) := by obtain ⟨p, c, e1, _⟩ := hvs; exact ⟨p, _, c, e1⟩
      obtain ⟨sv, sn, sp, sd, sx⟩ := s
      obtain ⟨qp, qc, rfl⟩ : ∃ p c, sv = .slice p sn.length c := by obtain ⟨p, c, e1, _⟩ := hvs; exact ⟨p, c, e1⟩
      simp only [Spot.val] at hnx hen
      clear hwide hsz2 hb2 hvs hit2 hnd2 hsub2 hdec hR hrel hs hg2 hs2
      obtain ⟨ql, HQL⟩ : ∃ ql, Hid (sn.length = ql) := ⟨_, hid_in rfl⟩
      simp only at HVS
      rw [HQL.out] at HVS hnx hen HSTEP HSF
      have HC4 : Hid ([Value.slice qp ql qc, .string sp, .bool sd, .string sx].length = 4) := rfl
      have HO4 : Hid (∀ v ∈ [Value.slice qp ql qc, .string sp, .bool sd, .string sx], v.oneCell' = true) := by
        intro v hv
        simp only [List.mem_cons, List.not_mem_nil, or_false] at hv
        rcases hv with rfl | rfl | rfl | rfl <;> rfl
      go_upto_region 5 with (first | (refine Nd.wpList_store_new rfl rfl 63 4 _ _ rfl _ [Value.slice qp ql qc, .string sp, .bool sd, .string sx] info63 rfl HC4 HO4 rfl rfl ?_; intro w3 hr3 hb3 hs3; have HR3 := hid_in hr3; have HB3 := hid_in hb3; have HS3 := hid_in hs3; clear hr3 hb3 hs3))
      have HB23 := hid_in (HB2.out.trans (HB3.out.mono HB2.out.size))
      obtain ⟨⟨c0, c1, c2, c3⟩, f0, f1, f2, f3⟩ := spot_cells HR3.out (Below.refl _ w3)
      have HWI := hid_in (Vp.within_v (HVS.out.below HB23.out) (HV.out.below HB23.out))
      have HBF : Hid (belowB xs ⟨.slice qp ql qc, sn, sp, sd, sx⟩ = (decide (nl < ql) && withinS sn xs)) := by
        show _ = _
        simp only [belowB, HNL.out, HQL.out]
      by_cases hlen : nl < ql
      · have k1 : (nl : Int) < (ql : Int) := by omega
        cases hwi : withinS sn xs with
        | false =>
          rw [hwi] at HWI HBF
          clear hwi
          go_wp2_with (first | (go_at_call 78; refine HWI.out.mono ?_; rintro e w4 ⟨rfl, hd4⟩; have HB4 : Hid (Below w3.heap.size w3 w4) := (by obtain ⟨q, rfl⟩ := hd4; exact below_drewN (Below.refl _ _) q); clear hd4))
          have hB4 := HB3.out.trans (HB4.out.mono HB3.out.size)
          have hB5 : Below (w.heap.size + 1) W2 w4 := hB4.mono HSZ2.out
          refine ⟨⟨_, HSTEP.out _ _ hB5 ?_⟩, HDEC.out _ hB5⟩
          rw [HBF.out]
          simpa using HW.out.below hB4
        | true =>
          rw [hwi] at HWI HBF
          clear hwi
          go_upto_region 6 with (first | (go_at_call 78; refine HWI.out.mono ?_; rintro e w4 ⟨rfl, hd4⟩; have HB4 : Hid (Below w3.heap.size w3 w4) := (by obtain ⟨q, rfl⟩ := hd4; exact below_drewN (Below.refl _ _) q); clear hd4))
          have HB24 := hid_in (HB3.out.trans (HB4.out.mono HB3.out.size))
          clear c0 c1 c2 c3 f0 f1 f2 f3
          obtain ⟨⟨c0, c1, c2, c3⟩, f0, f1, f2, f3⟩ := spot_cells HR3.out HB4.out
          have HB6 : Hid (Below w4.heap.size w4 (w4.alloc (.cells #[.slice qp ql qc, .string sp, .bool sd, .string sx] 63))) := (Below.refl _ _).alloc (Nat.le_refl _) _
          have HB26 := hid_in (HB24.out.trans (HB6.out.mono HB24.out.size))
          have HO6 := hid_in (HW.out.below HB26.out)
          have HF6 := hid_in (sps_one w4 ⟨.slice qp ql qc, sn, sp, sd, sx⟩)
          simp only at HF6
          have HSZ6 : Hid (w.heap.size + 1 ≤ (w4.alloc (.cells #[.slice qp ql qc, .string sp, .bool sd, .string sx] 63)).heap.size) := Nat.le_trans HSZ2.out HB26.out.size
          have HL6 : Hid (((done.map (·.2)).filter (belowB xs)).length + [(⟨.slice qp ql qc, sn, sp, sd, sx⟩ : Spot)].length ≤ 1000000) := by
            show _ ≤ _
            have h1 := HLEN.out
            have h2 := HN.out
            have h3 := List.length_filter_le (belowB xs) (done.map (·.2))
            rw [List.length_map] at h3
            simp only [List.length_cons, List.length_nil]
            omega
          go_wp2_with (first | (at_builtin; refine wpList_app63 (w.heap.size + 1) rfl (.tmp 29) (.tmp 31) rfl u5 ((done.map (·.2)).filter (belowB xs)) [(⟨.slice qp ql qc, sn, sp, sd, sx⟩ : Spot)] rfl HO6.out _ rfl HF6.out (fun t ht => by rw [List.mem_singleton.1 ht]; exact HSF.out) HL6.out HSZ6.out ?_; intro v7 w7 ho7 hg7; have HO7 := hid_in ho7; have HB7 := hid_in (HO6.out.step (HB26.out.mono HSZ2.out) HSZ6.out hg7); clear ho7 hg7))
          refine ⟨⟨_, HSTEP.out _ _ HB7.out ?_⟩, HDEC.out _ HB7.out⟩
          rw [HBF.out, decide_eq_true hlen]
          exact HO7.out
      · have k1 : ¬ ((nl : Int) < (ql : Int)) := by omega
        have HBF2 : Hid (belowB xs ⟨.slice qp ql qc, sn, sp, sd, sx⟩ = false) := by
          show _ = _
          rw [HBF.out, decide_eq_false hlen]; rfl
        go_wp2
        have hB5 : Below (w.heap.size + 1) W2 w3 := HB3.out.mono HSZ2.out
        refine ⟨⟨_, HSTEP.out _ _ hB5 ?_⟩, HDEC.out _ hB5⟩
        rw [HBF2.out]
        simpa using HW.out.below HB3.out
end Go.Proofs.YtngehkmdanhgpaaGreat.Pl
namespace Go.Proofs.YtngehkmdanhgpaaGreat.Pl
open Go.RowKit
open Vp (Str B bl Val cmpL parseS showS splitS withinS IsPath)
open Nd (Row wp_world post_Row post_Row2 grownBy_setCell below_of_grown)
open Rf (Fil Fls fcells)
theorem typed_ne {w : World} {a b : Nat} {ca cb : Array Value} {ta tb : TypeId} {fa fb : Nat × Nat} (ha : w.heap[a]? = some (.cells ca ta fa)) (hb : w.heap[b]? = some (.cells cb tb fb)) (h : ta ≠ tb) : a ≠ b := by
  rintro rfl
  rw [ha] at hb
  cases hb
  exact h rfl
theorem kept_typed {w w' : World} {b : Nat} {cs : Array Value} {t : TypeId} {fr : Nat × Nat} {row : Option Nat} (hb : w.heap[b]? = some (.cells cs t fr)) (hg : w.grownBy w' row) (hr : ∀ k, row = some k → b ≠ k) : w'.heap[b]? = some (.cells cs t fr) := by
  rw [hg.block b (Array.getElem?_eq_some_iff.1 hb).1 (fun e => hr b e.symm rfl)]; exact hb
def errOf (s : ByteArray) : Int := (parseS (bl s)).2
/-- the path in memory is that of the file -/
def Mat (s : Spot) (f : Fil) : Prop := s.names = nmsOf f.path ∧ s.path = f.path ∧ s.dir = f.dir ∧ s.data = f.data
def Mats (sp : List Spot) (fs : List Fil) : Prop := sp.length = fs.length ∧ ∀ (i : Nat) s f, sp[i]? = some s → fs[i]? = some f → Mat s f
theorem Mats.snoc {sp : List Spot} {fs : List Fil} {i : Nat} {s : Spot} {f : Fil} (h : Mats sp (fs.take i)) (hf : fs[i]? = some f) (hm : Mat s f) : Mats (sp ++ [s]) (fs.take (i + 1)) := by
  have hi : i < fs.length := (List.getElem?_eq_some_iff.1 hf).1
  have hl := h.1
  simp only [List.length_take] at hl
  refine ⟨by simp; omega, fun j t g h1 h2 => ?_⟩
  rcases Nat.lt_or_ge j sp.length with hj | hj
  · rw [List.getElem?_append_left hj] at h1
    refine h.2 j t g h1 ?_
    rw [List.getElem?_take] at h2 ⊢
    rw [if_pos (by omega)] at h2 ⊢
    exact h2
  · rw [List.getElem?_append_right hj] at h1
    have h0 : j - sp.length = 0 := by
      have := (List.getElem?_eq_some_iff.1 h1).1
      simp at this; omega
    rw [h0] at h1
    simp only [List.getElem?_cons_zero, Option.some.injEq] at h1
    obtain rfl : j = i := by omega
    rw [List.getElem?_take, if_pos (by omega), hf] at h2
    obtain rfl := Option.some.inj h2
    subst h1
    exact hm
theorem info48 : (Tryz.prog.info? 48).map (·.size) = some 3 := by kernel_rfl
/-- between two rounds of parse -/
structure PR (w : World) (n : Nat) (fs : List Fil) (i : Nat) (W : World) : Prop where
  ex : ∃ sp vs, Mats sp (fs.take i) ∧ Row W w.heap.size vs 63 ∧ vs.length = n * 4 ∧ Nd.Fills vs 4 (sp.map Spot.cells) ∧ ∀ s ∈ sp, Rf.Nm W s.v s.names
  noerr : ∀ (j : Nat) f, j < i → fs[j]? = some f → errOf f.path = 0
  bel : Below w.heap.size w W
theorem fills_sps {W : World} {b : Nat} {vs : List Value} {sp : List Spot} (hr : Row W b vs 63) (hf : Nd.Fills vs 4 (sp.map Spot.cells)) (hn : sp.length ≤ 9223372036854775807) : Sps W (.slice (some ⟨b, 0, none⟩) sp.length sp.length) sp := by
  refine ⟨_, sp.length, b, 0, rfl, Nat.le_refl _, hn, fun _ => ⟨rfl, hr.lt⟩, fun j u hj => ?_, fun e => by cases e⟩
  have hjl : j < sp.length * 4 := by rw [← scells_len]; exact (List.getElem?_eq_some_iff.1 hj).1
  have hi : j / 4 < sp.length := by omega
  obtain ⟨s, hs⟩ : ∃ s, sp[j / 4]? = some s := ⟨_, List.getElem?_eq_getElem hi⟩
  have hy : j % 4 < s.cells.length := by simp [Spot.cells]; omega
  have h1 := scells_at hs (j % 4) _ (List.getElem?_eq_getElem hy)
  have hjj : j / 4 * 4 + j % 4 = j := by omega
  rw [hjj, hj] at h1
  have h2 := hf (j / 4) s.cells (by rw [List.getElem?_map, hs]; rfl) (j % 4) _ (List.getElem?_eq_getElem hy)
  rw [hjj] at h2
  rw [Nat.zero_add, hr.cell, h2, h1]
set_option maxHeartbeats 2000000 in
set_option maxRecDepth 100000 in
theorem parse_any (fs : List Fil) (v : Value) (w : World) (h : Fls w v fs) (hn : fs.length ≤ 1000000) (hp : ∀ f ∈ fs, f.path.size ≤ 9223372036854775807) :
    Calls Tryz.prog 23 #[v] w fun e w' => ∃ sv k, e = .returned (.tuple #[sv, .int .i64 k]) ∧ Below w.heap.size w w' ∧ ((k ≠ 0 ∧ sv = .slice none 0 0 ∧ ∃ (j : Nat) (f : Fil), fs[j]? = some f ∧ errOf f.path = k ∧ ∀ (i : Nat) f', i < j → fs[i]? = some f' → errOf f'.path = 0) ∨ (k = 0 ∧ (∀ f ∈ fs, errOf f.path = 0) ∧ ∃ sp, Sps w' sv sp ∧ Mats sp fs ∧ sv = .slice (some ⟨w.heap.size, 0, none⟩) sp.length sp.length ∧ ∀ s ∈ sp, Rf.Nm w' s.v s.names)) := by
  obtain ⟨p, cap, b, o, rfl, h1, h2, h3, h4, h5⟩ := h
  obtain ⟨i93, z93, hi93, hs93, hb93, hz93, hzc93⟩ := info63h
  have H3 := hid_in h3
  have H4 := hid_in h4
  have HP := hid_in hp
  clear h3 h4 h5 hp
  go_enter Tryz.func23, Tryz.ntmps23
  go_wp2_with (first | (refine wpList_make_full _ rfl _ _ 54 rfl _ 63 i93 z93 4 Tryz.underlying54 hi93.out hz93.out hs93.out .i64 .i64 _ _ fs.length rfl rfl rfl rfl (by rw [hb93.out]; omega) (by simp [maxLen]; omega) (Nat.le_refl _) ?_; intro w2 hown hg2; obtain ⟨vs0, hr0, hl0⟩ := Nd.made_row hown; have HR0 := hid_in hr0; have HL0 := hid_in hl0; have HG2 := hid_in hg2; clear hown hr0 hl0 hg2))
  go_loopw [14] (fun vi W => ∃ i : Nat, i ≤ fs.length ∧ vi = .int .i64 (i : Int) ∧ Hid (PR w fs.length fs i W)) (fun vi _ => fs.length - (intOf vi).toNat)
  case atStart => exact ⟨0, by omega, rfl, ⟨⟨[], vs0, ⟨rfl, fun i s f h => by simp at h⟩, HR0.out, HL0.out, fun i us h => by simp at h, fun s hs => by cases hs⟩, fun j f hj => by omega, (Below.refl _ _).grown HG2.out (Nat.le_refl _) (fun k e => by cases e)⟩⟩
  case round =>
    obtain ⟨i, hi, rfl, hpr⟩ := hrel
    by_cases hlt : i < fs.length
    · have hg : fs[i]? = some fs[i] := List.getElem?_eq_getElem hlt
      obtain ⟨hp, hb⟩ := H3.out (by intro h; simp [h] at hlt)
      have hrg : ∀ (y : Nat) u, (fs[i]).cells[y]? = some u → wr.cell? ⟨b, o + i * 3 + y, none⟩ = some u := fun y u hy => by
        rw [hpr.out.bel.cell (p := ⟨b, o + i * 3 + y, none⟩) hb, Nat.add_assoc]
        exact H4.out _ _ (Rf.fcells_at hg y u hy)
      have hps := HP.out _ (List.getElem_mem hlt)
      generalize fs[i] = f at *
      subst hp
      have m0 : wr.cell? ⟨b, o + i * 3, none⟩ = some (.string f.path) := by simpa using hrg 0 _ rfl
      have m1 : wr.cell? ⟨b, o + i * 3 + 1, none⟩ = some (.bool f.dir) := hrg 1 _ rfl
      have m2 : wr.cell? ⟨b, o + i * 3 + 2, none⟩ = some (.string f.data) := hrg 2 _ rfl
      have HC3 : Hid ([Value.string f.path, .bool f.dir, .string f.data].length = 3) := rfl
      have HO3 : Hid (∀ v ∈ [Value.string f.path, .bool f.dir, .string f.data], v.oneCell' = true) := by
        intro v hv
        simp only [List.mem_cons, List.not_mem_nil, or_false] at hv
        rcases hv with rfl | rfl | rfl <;> rfl
      have HPA := hid_in (fun W => Vp.parse_any (Vp.bl f.path) (by rw [Vp.bl_length]; exact hps) W)
      rw [Vp.B_bl] at HPA
      have HG := hid_in hg
      clear hg hrg hps
      go_upto_region 5 with (first | (refine Nd.wpList_store_new rfl rfl 48 3 _ _ rfl _ [Value.string f.path, .bool f.dir, .string f.data] info48 rfl HC3 HO3 rfl rfl ?_; intro w5 hr5 hb5 hs5))
      have c0 : w5.cell? ⟨wr.heap.size, 0, none⟩ = some (.string f.path) := hr5.cell 0
      have HR5 := hid_in hr5
      have HB5 := hid_in hb5
      have HS5 := hid_in hs5
      clear hr5 hb5 hs5 m0 m1 m2
      have HERR : Hid (errOf f.path = (Vp.parseS (Vp.bl f.path)).2) := rfl
      have HNMS : Hid (nmsOf f.path = (Vp.parseS (Vp.bl f.path)).1) := rfl
      generalize (Vp.parseS (Vp.bl f.path)).2 = ke at *
      generalize (Vp.parseS (Vp.bl f.path)).1 = ns at *
      by_cases hke : ke = 0
      · subst hke
        go_upto_region 8 with (first | (go_at_call 47; refine (HPA.out _).mono ?_; rintro e w6 ⟨nv, rfl, hnm, hb6⟩; have HNM6 := hid_in (Rf.Nm.of hnm); have HB6 := hid_in hb6; obtain ⟨nq, nc, rfl⟩ := (Rf.Nm.of hnm).form; clear hnm hb6))
        have HR6 := hid_in (HR5.out.below HB6.out HR5.out.lt)
        have d0 : w6.cell? ⟨wr.heap.size, 0, none⟩ = some (.string f.path) := HR6.out.cell 0
        have d1 : w6.cell? ⟨wr.heap.size, 1, none⟩ = some (.bool f.dir) := HR6.out.cell 1
        have d2 : w6.cell? ⟨wr.heap.size, 2, none⟩ = some (.string f.data) := HR6.out.cell 2
        have HB8 := hid_in (show Below wr.heap.size wr w6 from HB5.out.trans (HB6.out.mono HB5.out.size))
        obtain ⟨nl, HNL⟩ : ∃ nl, Hid (ns.length = nl) := ⟨_, hid_in rfl⟩
        rw [HNL.out] at HNM6 ⊢
        obtain ⟨sp, vs, hm, hrw, hvl, hf, hnm⟩ := hpr.out.ex
        have hrw8 := hrw.below HB8.out hrw.lt
        have HNM8 := hid_in (fun s hs => (hnm s hs).below HB8.out)
        have HM := hid_in hm
        have HVL := hid_in hvl
        have HF := hid_in hf
        have HRW := hid_in hrw8
        have HSL : Hid (sp.length = i) := hid_in (by have := hm.1; simp only [List.length_take] at this; omega)
        have HO4 : Hid (∀ v ∈ [Value.slice nq nl nc, .string f.path, .bool f.dir, .string f.data], v.oneCell' = true) := by
          intro v hv
          simp only [List.mem_cons, List.not_mem_nil, or_false] at hv
          rcases hv with rfl | rfl | rfl | rfl <;> rfl
        have hwl := hrw8.lt
        clear hm hrw hvl hf hnm HPA
        go_wp2_with (first | (refine Nd.wpList_store_Row rfl 63 _ _ rfl w.heap.size _ [Value.slice nq nl nc, .string f.path, .bool f.dir, .string f.data] rfl rfl 63 vs hrw8 4 info63 rfl (by rw [HVL.out]; omega) HO4.out ?_; intro w9 hr9 hg9 hs9))
        have HR9 := hid_in hr9
        have HG9 := hid_in hg9
        clear hr9 hg9 hs9 hrw8
        go_roundw
        case rel =>
          go_light
          refine ⟨i + 1, by omega, by go_num, ?_⟩
          refine ⟨⟨sp ++ [⟨.slice nq nl nc, ns, f.path, f.dir, f.data⟩], _, HM.out.snoc HG.out ⟨HNMS.out.symm, rfl, rfl, rfl⟩, HR9.out, ?_, ?_, ?_⟩, ?_, ?_⟩
          · rw [Nd.splice_length _ _ _ (by rw [HVL.out]; simp; omega)]; exact HVL.out
          · have h3 := HF.out.snoc (fun us hus => by obtain ⟨s, _, rfl⟩ := List.mem_map.1 hus; rfl) [Value.slice nq nl nc, .string f.path, .bool f.dir, .string f.data] rfl (by rw [List.length_map, HSL.out, HVL.out]; omega)
            rw [List.length_map, HSL.out] at h3
            rw [List.map_append]
            exact h3
          · intro s hs
            refine nm_kept (w := w6) ?_ (fun b cs fr e => kept_typed e HG9.out (fun k e2 => by
              obtain rfl := Option.some.inj e2
              exact typed_ne e HRW.out (by decide)))
            rcases List.mem_append.1 hs with hs | hs
            · exact HNM8.out s hs
            · simp at hs
              subst hs
              exact HNM6.out
          · intro j f' hj hf'
            rcases Nat.lt_or_ge j i with h | h
            · exact hpr.out.noerr j f' h hf'
            · obtain rfl : j = i := by omega
              rw [HG.out] at hf'
              obtain rfl := Option.some.inj hf'
              exact HERR.out
          · exact below_of_grown (hpr.out.bel.trans (HB8.out.mono hpr.out.bel.size)) HG9.out (Nat.le_trans hpr.out.bel.size HB8.out.size) (Nat.le_refl _)
        case measure => simp [intOf]; omega
      · have hke2 : (ke != 0) = true := by simpa using hke
        have HKE := hid_in hke
        clear hke
        go_wp2_with (first | (go_at_call 47; refine (HPA.out _).mono ?_; rintro e w6 ⟨nv, rfl, hnm, hb6⟩; have HB6 := hid_in hb6; clear hnm hb6))
        go_ret2
        refine ⟨_, _, rfl, (hpr.out.bel.trans (HB5.out.mono hpr.out.bel.size)).trans (HB6.out.mono (Nat.le_trans hpr.out.bel.size HB5.out.size)), .inl ⟨HKE.out, rfl, i, f, HG.out, HERR.out, hpr.out.noerr⟩⟩
    · obtain rfl : i = fs.length := by omega
      go_wp2_with fail
      go_ret2
      obtain ⟨sp, vs, hm, hr, hl, hf, hnm⟩ := hpr.out.ex
      rw [List.take_length] at hm
      refine ⟨_, _, rfl, hpr.out.bel, .inr ⟨rfl, fun f hf => ?_, sp, ?_, hm, by rw [hm.1]; rfl, hnm⟩⟩
      · obtain ⟨j, hj⟩ := List.getElem?_of_mem hf
        exact hpr.out.noerr j f (List.getElem?_eq_some_iff.1 hj).1 hj
      · have h7 := fills_sps hr hf (by rw [hm.1]; omega)
        rw [hm.1] at h7
        exact h7
end Go.Proofs.YtngehkmdanhgpaaGreat.Pl
