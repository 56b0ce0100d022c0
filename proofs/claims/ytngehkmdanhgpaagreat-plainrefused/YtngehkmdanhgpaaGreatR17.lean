/-
  The walk of below.
-/
import Derived.Deep.RegionLaw
import Derived.Deep.DrawnRows
import Derived.Lib.SlBytesConst
import Derived.Laws.CopyOwn
import Derived.Lib.AppendZeros
import Derived.Laws.Tables
import Derived.Test.YtngehkmdanhgpaaGreatR00
import Derived.Test.YtngehkmdanhgpaaGreatR01
import Derived.Test.YtngehkmdanhgpaaGreatR02
import Derived.Test.YtngehkmdanhgpaaGreatR03
import Derived.Test.YtngehkmdanhgpaaGreatR04
import Derived.Test.YtngehkmdanhgpaaGreatR05
import Derived.Test.YtngehkmdanhgpaaGreatR06
import Derived.Test.YtngehkmdanhgpaaGreatR07
import Derived.Test.YtngehkmdanhgpaaGreatR08
import Derived.Test.YtngehkmdanhgpaaGreatR09
import Derived.Test.YtngehkmdanhgpaaGreatR10
import Derived.Test.YtngehkmdanhgpaaGreatR11
import Derived.Test.YtngehkmdanhgpaaGreatR12
import Derived.Test.YtngehkmdanhgpaaGreatR13
import Derived.Test.YtngehkmdanhgpaaGreatR14
import Derived.Test.YtngehkmdanhgpaaGreatR15
import Derived.Test.YtngehkmdanhgpaaGreatR16
namespace Go.Proofs.YtngehkmdanhgpaaGreat.Pl
open Go.RowKit
open Go.ChangeMaps (setBlock heap_setBlock_same heap_setBlock_other)
open Vp (Str B bl Val cmpL parseS showS splitS withinS IsPath)
open Nd (Row wp_world post_Row post_Row2)
theorem iter_set {W W1 : World} {r m since c0 : Nat} {seen : Array Nat} {o : Obj} (hr : W.heap[r]? = some (.mapIter (some m) since seen c0)) (h1 : W1 = W ∨ W1 = W.drew) :
    (setBlock W1 r o).heap[r]? = some o ∧ W.grownBy (setBlock W1 r o) (some r) ∧ (setBlock W1 r o).heap.size = W.heap.size := by
  have hr1 : W1.heap[r]? = some (.mapIter (some m) since seen c0) := by rcases h1 with rfl | rfl <;> exact hr
  have hl := (Array.getElem?_eq_some_iff.1 hr1).1
  have hs : (setBlock W1 r o).heap.size = W1.heap.size := by simp [setBlock]
  have h2 : ∀ i, i ≠ r → (setBlock W1 r o).heap[i]? = W1.heap[i]? := fun i hi => by simp [setBlock, Ne.symm hi]
  have hg1 : W1.grownBy (setBlock W1 r o) (some r) := ⟨rfl, rfl, rfl, by rw [hs]; exact Nat.le_refl _, fun i _ hne => h2 i (fun e => hne (by rw [e]))⟩
  refine ⟨by simp [setBlock, hl], ?_, ?_⟩
  · rcases h1 with rfl | rfl
    · exact hg1
    · exact World.grownBy.andThen ((grown_of_below (below_drew W)).but _) hg1 (fun _ e => .inr e)
  · rcases h1 with rfl | rfl
    · exact hs
    · rw [hs]; rfl
/-- the next entry -/
theorem BL.next {w : World} {m : Nat} {L : List Spot} {xs : List Str} {es : Array MapEntry} {clock : Nat} {v : Value} {W : World} {done : List (MapEntry × Spot)} (h : BL w m L xs es clock v W done)
    (hm : m < w.heap.size) (hb : w.heap[m]? = some (.map es clock)) (he : es.toList.map (fun e => (e.key, e.val)) = L.map (fun s => (Value.string s.path, s.val))) (hst : ∀ e ∈ es.toList, e.born < clock) (hnd : (es.toList.map (·.born)).Nodup) (ty : TypeId) :
    ((Instr.next (.pointer (some ⟨w.heap.size, 0, none⟩)) false ty).run Tryz.prog W = .ok (.tuple #[.bool false]) W ∧ (done.map (·.2)).Perm L) ∨
    ∃ (e : MapEntry) (s : Spot) (W2 : World), s ∈ L ∧ (Instr.next (.pointer (some ⟨w.heap.size, 0, none⟩)) false ty).run Tryz.prog W = .ok (.tuple #[.bool true, .string s.path, s.val]) W2 ∧ (Instr.entry (.pointer (some ⟨w.heap.size, 0, none⟩))).run Tryz.prog W2 = .ok (.tuple #[.string s.path, s.val]) W2 ∧
      W.grownBy W2 (some w.heap.size) ∧ W2.heap.size = W.heap.size ∧ (∃ c0, W2.heap[w.heap.size]? = some (.mapIter (some m) clock ((done ++ [(e, s)]).map (·.1.born)).toArray c0) ∧ clock ≤ c0) ∧
      ((done ++ [(e, s)]).map (·.1.born)).Nodup ∧ (∀ d ∈ done ++ [(e, s)], d ∈ es.toList.zip L) ∧ ∀ W' : World, W'.heap[m]? = some (.map es clock) → (∃ c0, W'.heap[w.heap.size]? = some (.mapIter (some m) clock ((done ++ [(e, s)]).map (·.1.born)).toArray c0)) → W'.rangeLeft m w.heap.size < W.rangeLeft m w.heap.size := by
  obtain ⟨c0, hr, hc⟩ := h.it
  have hbW : W.heap[m]? = some (.map es clock) := by rw [h.bel.block m hm, hb]
  have hl : es.toList.length = L.length := by simpa using congrArg List.length he
  rcases run_next_at (P := Tryz.prog) W ty w.heap.size m clock c0 _ es clock hr hbW hst hc with ⟨h0, hrun⟩ | ⟨e, hel, w1, hal, hrun⟩
  · refine .inl ⟨hrun, done_perm hl hnd h.nd h.sub fun e hm2 => ?_⟩
    have h2 : leftOf es (done.map (·.1.born)).toArray = #[] := Array.eq_empty_of_size_eq_zero h0
    unfold leftOf at h2
    rw [Array.filter_eq_empty_iff] at h2
    have := h2 e (by simpa using hm2)
    simpa using this
  · obtain ⟨hem, hes⟩ := mem_left hel
    obtain ⟨j, hj⟩ := List.getElem?_of_mem hem
    have hjl := (List.getElem?_eq_some_iff.1 hj).1
    obtain ⟨s, hs⟩ : ∃ s, L[j]? = some s := ⟨_, List.getElem?_eq_getElem (by omega)⟩
    have hkv : e.key = .string s.path ∧ e.val = s.val := by
      have := congrArg (fun l => l[j]?) he
      simp only [List.getElem?_map, hj, hs, Option.map_some, Option.some.injEq, Prod.mk.injEq] at this
      exact this
    have hset := iter_set (o := .mapIter (some m) clock ((done.map (·.1.born)).toArray.push e.born) clock) hr hal
    have hmr : m ≠ w.heap.size := by omega
    have hb2 : (setBlock w1 w.heap.size (.mapIter (some m) clock ((done.map (·.1.born)).toArray.push e.born) clock)).heap[m]? = some (.map es clock) := by
      rw [hset.2.1.block m (Array.getElem?_eq_some_iff.1 hbW).1 (fun e => hmr (Option.some.inj e)), hbW]
    have hen := run_entry_at (P := Tryz.prog) _ w.heap.size m clock (done.map (·.1.born)).toArray es clock e hset.1 hb2 hem hnd
    have harr : (done.map (·.1.born)).toArray.push e.born = ((done ++ [(e, s)]).map (·.1.born)).toArray := by simp
    rw [hkv.1, hkv.2] at hrun hen
    refine .inr ⟨e, s, _, List.mem_of_getElem? hs, hrun, hen, hset.2.1, hset.2.2, ⟨clock, by rw [hset.1, harr], Nat.le_refl _⟩, ?_, ?_, ?_⟩
    · rw [List.map_append, List.nodup_append]
      refine ⟨h.nd, by simp, fun a ha b hb3 => ?_⟩
      simp only [List.map_cons, List.map_nil, List.mem_singleton] at hb3
      rintro rfl
      subst hb3
      have : (done.map (·.1.born)).toArray.contains e.born = true := by simpa using ha
      rw [this] at hes
      cases hes
    · intro d hd
      rcases List.mem_append.1 hd with hd | hd
      · exact h.sub d hd
      · obtain rfl := List.mem_singleton.1 hd
        refine List.mem_of_getElem? (i := j) ?_
        rw [List.getElem?_zip_eq_some]
        exact ⟨hj, hs⟩
    · rintro W' hb' ⟨c1, hr'⟩
      simp only [World.rangeLeft, hb', hr', hbW, hr, ← harr]
      exact left_shrinks es _ e hel
theorem SO.grown {W W' : World} {B : Nat} {v : Value} {sp : List Spot} {row : Option Nat} (h : SO W B v sp) (hg : W.grownBy W' row) (hne : ∀ k, v.ownBlock = some k → row ≠ some k) : SO W' B v sp := by
  obtain ⟨h1, h2 | ⟨g, cap, cur, hv, hB, hh, r⟩⟩ := h
  · exact ⟨h1, .inl h2⟩
  · refine ⟨h1, .inr ⟨g, cap, cur, hv, hB, ?_, r⟩⟩
    rw [hg.block g (Array.getElem?_eq_some_iff.1 hh).1 (fun e => hne g (by rw [hv]; rfl) e.symm), hh]
/-- behind a round -/
theorem BL.step {w : World} {m : Nat} {L : List Spot} {xs : List Str} {es : Array MapEntry} {clock : Nat} {v : Value} {W W2 W' : World} {done : List (MapEntry × Spot)} {e : MapEntry} {s : Spot} (h : BL w m L xs es clock v W done) (hg2 : W.grownBy W2 (some w.heap.size)) (hs2 : W2.heap.size = W.heap.size)
    (hit : ∃ c0, W2.heap[w.heap.size]? = some (.mapIter (some m) clock ((done ++ [(e, s)]).map (·.1.born)).toArray c0) ∧ clock ≤ c0) (hnd : ((done ++ [(e, s)]).map (·.1.born)).Nodup) (hsub : ∀ d ∈ done ++ [(e, s)], d ∈ es.toList.zip L)
    {v' : Value} (hB : Below (w.heap.size + 1) W2 W') (hrow : SO W' (w.heap.size + 1) v' ((done.map (·.2)).filter (belowB xs) ++ if belowB xs s then [s] else [])) : BL w m L xs es clock v' W' (done ++ [(e, s)]) := by
  obtain ⟨c0, h1, h2⟩ := hit
  refine ⟨⟨c0, by rw [hB.block _ (Nat.lt_succ_self _), h1], h2⟩, hnd, hsub, ?_, ?_, ?_⟩
  · have : ((done ++ [(e, s)]).map (·.2)).filter (belowB xs) = (done.map (·.2)).filter (belowB xs) ++ if belowB xs s then [s] else [] := by
      simp only [List.map_append, List.filter_append, List.map_cons, List.map_nil, List.filter_cons, List.filter_nil]
    rw [this]
    exact hrow
  · have hb2 : Below w.heap.size w W2 := h.bel.grown hg2 h.bel.size (fun k e => by obtain rfl := Option.some.inj e; exact Nat.le_refl _)
    exact hb2.trans (hB.mono (Nat.le_succ _))
  · have := h.sz
    have := hB.size
    omega
theorem BL.wide {w : World} {m : Nat} {L : List Spot} {xs : List Str} {es : Array MapEntry} {clock : Nat} {v : Value} {W W2 : World} {done : List (MapEntry × Spot)} (h : BL w m L xs es clock v W done) (hg2 : W.grownBy W2 (some w.heap.size)) (hs2 : W2.heap.size = W.heap.size) : SO W2 (w.heap.size + 1) v ((done.map (·.2)).filter (belowB xs)) ∧ w.heap.size + 1 ≤ W2.heap.size ∧ Below w.heap.size w W2 := by
  refine ⟨h.row.grown hg2 (fun k e e2 => ?_), by rw [hs2]; exact h.sz, h.bel.grown hg2 h.bel.size (fun k e => by obtain rfl := Option.some.inj e; exact Nat.le_refl _)⟩
  have := (Nd.own_geK h.row k e).1
  have := Option.some.inj e2
  omega
set_option maxHeartbeats 4000000 in
set_option maxRecDepth 100000 in
theorem below_any {w : World} {g m : Nat} {L : List Spot} (h : Fs w g m L) {nv : Value} {xs : List Str} (hv : Val w nv xs) (hn : L.length ≤ 100000) :
    Calls Tryz.prog 42 #[.pointer (some ⟨g, 0, none⟩), nv] w fun e w' => ∃ v sp, e = .returned v ∧ SO w' w.heap.size v sp ∧ sp.Perm (L.filter (belowB xs)) ∧ Below w.heap.size w w' := by
  have HV := hid_in hv
  obtain ⟨np, nc, rfl⟩ : ∃ p c, nv = .slice p xs.length c := by obtain ⟨p, c, e, _⟩ := hv; exact ⟨p, c, e⟩
  obtain ⟨es, clock, hb, he, hst, hnd⟩ := h.map.ex
  have H := hid_in h
  have HN := hid_in hn
  have hc := h.cell
  have hrun := run_range_map (P := Tryz.prog) w 58 9 63 m es clock Tryz.underlying58 hb
  have HNX := hid_in (fun v W done (k : BL w m L xs es clock v W done) => k.next h.map.lt hb he hst hnd 0)
  have HM := hid_in h.map.lt
  have HMB := hid_in hb
  obtain ⟨nl, HNL⟩ : ∃ nl, Hid (xs.length = nl) := ⟨_, hid_in rfl⟩
  rw [HNL.out] at HV ⊢
  clear h hv hn hb he hst hnd
  go_enter Tryz.func42, Tryz.ntmps42
  go_wp2_with fail
  go_loopw [5] (fun v W => Hid (∃ done, BL w m L xs es clock v W done)) (fun _ W => W.rangeLeft m w.heap.size)
  case atStart => exact ⟨[], ⟨clock, (MapKept.heap_alloc w _).1, Nat.le_refl _⟩, by simp, by simp, SO.nil _ _, (Below.refl _ _).alloc (Nat.le_refl _) _, by simp⟩
  case round =>
    obtain ⟨done, hR⟩ := hrel.out
    have HR := hid_in hR
    rcases HNX.out _ _ _ hR with ⟨hnx, hp⟩ | ⟨e, s, W2, hs, hnx, hen, hg2, hs2, hit2, hnd2, hsub2, hdec⟩
    · have HP := hid_in hp
      clear hp hR hrel
      go_wp2
      go_ret
      exact ⟨_, _, rfl, HR.out.row.mono (Nat.le_succ _), HP.out.filter _, HR.out.bel⟩
    · obtain ⟨hwide, hsz2, hb2⟩ := hR.wide hg2 hs2
      have hvs := (H.out.map.nms s hs).val
      have HSTEP := hid_in (fun (v' : Value) (W' : World) (hB : Below (w.heap.size + 1) W2 W') (hrow : SO W' (w.heap.size + 1) v' ((done.map (·.2)).filter (belowB xs) ++ if belowB xs s then [s] else [])) => hR.step hg2 hs2 hit2 hnd2 hsub2 hB hrow)
      have HDEC := hid_in (fun (W' : World) (hB : Below (w.heap.size + 1) W2 W') => hdec W' (by rw [hB.block m (Nat.lt_succ_of_lt HM.out), hb2.block m HM.out, HMB.out]) (by obtain ⟨c0, h1, _⟩ := hit2; exact ⟨c0, by rw [hB.block _ (Nat.lt_succ_self _), h1]⟩))
      have HLEN := hid_in hR.len
      have HW := hid_in hwide
      have HSZ2 := hid_in hsz2
      have HB2 := hid_in hb2
      have HVS := hid_in hvs
      have HSF : Hid (Sf s) := by obtain ⟨p, c, e1, _⟩ := hvs; exact ⟨p, _, c, e1⟩
      obtain ⟨sv, sn, sp, sd, sx⟩ := s
      obtain ⟨qp, qc, rfl⟩ : ∃ p c, sv = .slice p sn.length c := by obtain ⟨p, c, e1, _⟩ := hvs; exact ⟨p, c, e1⟩
      simp only [Spot.val] at hnx hen
      clear hwide hsz2 hb2 hvs hit2 hnd2 hsub2 hdec hR hrel hs hg2 hs2
      obtain ⟨ql, HQL⟩ : ∃ ql, Hid (sn.length = ql) := ⟨_, hid_in rfl⟩
      simp only at HVS
      rw [HQL.out] at HVS hnx hen HSTEP HSF
      have HC4 : Hid ([Value.slice qp ql qc, .string sp, .bool sd, .string sx].length = 4) := rfl
      have HO4 : Hid (∀ v ∈ [Value.slice qp ql qc, .string sp, .bool sd, .string sx], v.oneCell' = true) := by
        intro v hv
        simp only [List.mem_cons, List.not_mem_nil, or_false] at hv
        rcases hv with rfl | rfl | rfl | rfl <;> rfl
      go_upto_region 5 with (first | (refine Nd.wpList_store_new rfl rfl 63 4 _ _ rfl _ [Value.slice qp ql qc, .string sp, .bool sd, .string sx] info63 rfl HC4 HO4 rfl rfl ?_; intro w3 hr3 hb3 hs3; have HR3 := hid_in hr3; have HB3 := hid_in hb3; have HS3 := hid_in hs3; clear hr3 hb3 hs3))
      have HB23 := hid_in (HB2.out.trans (HB3.out.mono HB2.out.size))
      obtain ⟨⟨c0, c1, c2, c3⟩, f0, f1, f2, f3⟩ := spot_cells HR3.out (Below.refl _ w3)
      have HWI := hid_in (Vp.within_v (HVS.out.below HB23.out) (HV.out.below HB23.out))
      have HBF : Hid (belowB xs ⟨.slice qp ql qc, sn, sp, sd, sx⟩ = (decide (nl < ql) && withinS sn xs)) := by
        show _ = _
        simp only [belowB, HNL.out, HQL.out]
      by_cases hlen : nl < ql
      · have k1 : (nl : Int) < (ql : Int) := by omega
        cases hwi : withinS sn xs with
        | false =>
          rw [hwi] at HWI HBF
          clear hwi
          go_wp2_with (first | (go_at_call 78; refine HWI.out.mono ?_; rintro e w4 ⟨rfl, hd4⟩; have HB4 : Hid (Below w3.heap.size w3 w4) := (by obtain ⟨q, rfl⟩ := hd4; exact below_drewN (Below.refl _ _) q); clear hd4))
          have hB4 := HB3.out.trans (HB4.out.mono HB3.out.size)
          have hB5 : Below (w.heap.size + 1) W2 w4 := hB4.mono HSZ2.out
          refine ⟨⟨_, HSTEP.out _ _ hB5 ?_⟩, HDEC.out _ hB5⟩
          rw [HBF.out]
          simpa using HW.out.below hB4
        | true =>
          rw [hwi] at HWI HBF
          clear hwi
          go_upto_region 6 with (first | (go_at_call 78; refine HWI.out.mono ?_; rintro e w4 ⟨rfl, hd4⟩; have HB4 : Hid (Below w3.heap.size w3 w4) := (by obtain ⟨q, rfl⟩ := hd4; exact below_drewN (Below.refl _ _) q); clear hd4))
          have HB24 := hid_in (HB3.out.trans (HB4.out.mono HB3.out.size))
          clear c0 c1 c2 c3 f0 f1 f2 f3
          obtain ⟨⟨c0, c1, c2, c3⟩, f0, f1, f2, f3⟩ := spot_cells HR3.out HB4.out
          have HB6 : Hid (Below w4.heap.size w4 (w4.alloc (.cells #[.slice qp ql qc, .string sp, .bool sd, .string sx] 63))) := (Below.refl _ _).alloc (Nat.le_refl _) _
          have HB26 := hid_in (HB24.out.trans (HB6.out.mono HB24.out.size))
          have HO6 := hid_in (HW.out.below HB26.out)
          have HF6 := hid_in (sps_one w4 ⟨.slice qp ql qc, sn, sp, sd, sx⟩)
          simp only at HF6
          have HSZ6 : Hid (w.heap.size + 1 ≤ (w4.alloc (.cells #[.slice qp ql qc, .string sp, .bool sd, .string sx] 63)).heap.size) := Nat.le_trans HSZ2.out HB26.out.size
          have HL6 : Hid (((done.map (·.2)).filter (belowB xs)).length + [(⟨.slice qp ql qc, sn, sp, sd, sx⟩ : Spot)].length ≤ 1000000) := by
            show _ ≤ _
            have h1 := HLEN.out
            have h2 := HN.out
            have h3 := List.length_filter_le (belowB xs) (done.map (·.2))
            rw [List.length_map] at h3
            simp only [List.length_cons, List.length_nil]
            omega
          go_wp2_with (first | (at_builtin; refine wpList_app63 (w.heap.size + 1) rfl (.tmp 29) (.tmp 31) rfl u5 ((done.map (·.2)).filter (belowB xs)) [(⟨.slice qp ql qc, sn, sp, sd, sx⟩ : Spot)] rfl HO6.out _ rfl HF6.out (fun t ht => by rw [List.mem_singleton.1 ht]; exact HSF.out) HL6.out HSZ6.out ?_; intro v7 w7 ho7 hg7; have HO7 := hid_in ho7; have HB7 := hid_in (HO6.out.step (HB26.out.mono HSZ2.out) HSZ6.out hg7); clear ho7 hg7))
          refine ⟨⟨_, HSTEP.out _ _ HB7.out ?_⟩, HDEC.out _ HB7.out⟩
          rw [HBF.out, decide_eq_true hlen]
          exact HO7.out
      · have k1 : ¬ ((nl : Int) < (ql : Int)) := by omega
        have HBF2 : Hid (belowB xs ⟨.slice qp ql qc, sn, sp, sd, sx⟩ = false) := by
          show _ = _
          rw [HBF.out, decide_eq_false hlen]; rfl
        go_wp2
        have hB5 : Below (w.heap.size + 1) W2 w3 := HB3.out.mono HSZ2.out
        refine ⟨⟨_, HSTEP.out _ _ hB5 ?_⟩, HDEC.out _ hB5⟩
        rw [HBF2.out]
        simpa using HW.out.below HB3.out
end Go.Proofs.YtngehkmdanhgpaaGreat.Pl
