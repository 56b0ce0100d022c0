/-
  The walk of Drop. New, checkKind, checkForm.
-/
import Derived.Laws.CopyOwn
import Derived.Deep.RegionLaw
import Derived.Deep.DrawnRows
import Derived.Laws.Tables
import Derived.Test.YtglfeocfhlmloaaGreatY00
import Derived.Test.YtglfeocfhlmloaaGreatY01
import Derived.Test.YtglfeocfhlmloaaGreatY02
import Derived.Test.YtglfeocfhlmloaaGreatY03
import Derived.Test.YtglfeocfhlmloaaGreatY04
import Derived.Test.YtglfeocfhlmloaaGreatY05
import Derived.Test.YtglfeocfhlmloaaGreatY06
import Derived.Test.YtglfeocfhlmloaaGreatY07
import Derived.Test.YtglfeocfhlmloaaGreatY08
import Derived.Test.YtglfeocfhlmloaaGreatY09
import Derived.Test.YtglfeocfhlmloaaGreatY11
import Derived.Test.YtglfeocfhlmloaaGreatY12
import Derived.Test.YtglfeocfhlmloaaGreatY13
import Derived.Test.YtglfeocfhlmloaaGreatY14
import Derived.Test.YtglfeocfhlmloaaGreatY15
import Derived.Test.YtglfeocfhlmloaaGreatY16
import Derived.Test.YtglfeocfhlmloaaGreatY17
import Derived.Test.YtglfeocfhlmloaaGreatY18
import Derived.Test.YtglfeocfhlmloaaGreatY19
import Derived.Test.YtglfeocfhlmloaaGreatY20
import Derived.Test.YtglfeocfhlmloaaGreatY21
import Derived.Test.YtglfeocfhlmloaaGreatY22
import Derived.Test.YtglfeocfhlmloaaGreatY23
import Derived.Test.YtglfeocfhlmloaaGreatY24
import Derived.Test.YtglfeocfhlmloaaGreatY25
import Derived.Test.YtglfeocfhlmloaaGreatY26
import Derived.Test.YtglfeocfhlmloaaGreatY27
import Derived.Test.YtglfeocfhlmloaaGreatY28
namespace Go.Proofs.YtglfeocfhlmloaaGreat.Up
open Go.RowKit
open Go.ChangeMaps (setBlock heap_setBlock_same heap_setBlock_other)
open Vp (Str B bl Val cmpL parseS showS withinS IsPath checkS)
open Nd (Row wp_world post_Row post_Row2 grownBy_setCell below_of_grown)
theorem Val.map {w W : World} {m : Nat} {L : List Spot} (h : MapP w m L) (hg : w.grownBy W (some m)) {v : Value} {xs : List Str} (hv : Val w v xs) : Val W v xs := by
  obtain ⟨es, clock, hb, _⟩ := h.ex
  refine val_kept hv hg.size fun b cs t fr e => ?_
  refine hg.block b (Array.getElem?_eq_some_iff.1 e).1 fun e2 => ?_
  obtain rfl := Option.some.inj e2
  rw [hb] at e
  cases e
set_option maxHeartbeats 4000000 in
set_option maxRecDepth 100000 in
theorem drop_any {w : World} {g m : Nat} {N Z : Int} {L : List Spot} (h : Fs w g m N Z L) {nv : Value} {xs : List Str} (hv : Val w nv xs) (hn : L.length ≤ 100000) :
    Calls Tryz.prog 18 #[.pointer (some ⟨g, 0, none⟩), nv] w fun e w' => e = .returned (.int .i64 ((L.length : Int) - ((L.filter (outX xs)).length : Int))) ∧ Fs w' g m N Z (L.filter (outX xs)) ∧ w.grownBy w' (some m) := by
  have HV := hid_in hv
  obtain ⟨np, nc, rfl⟩ : ∃ p c, nv = .slice p xs.length c := by obtain ⟨p, c, e, _⟩ := hv; exact ⟨p, c, e⟩
  obtain ⟨clock, P, hme, hPL⟩ := h.map.me
  have H := hid_in h
  have HN := hid_in hn
  have hc := h.cell.2.2
  have hln := fun ty => h.map.len ty
  have hrun := run_range_map (P := Tryz.prog) w 47 9 80 m _ clock Tryz.underlying47 hme.mp
  have HM := hid_in h.map.lt
  have HNX := hid_in (fun W Q seen (k : DR w m clock xs L W Q seen) => k.next h.map.lt 0)
  have HSTA := hid_in (fun (W2 W : World) (_ : True) (Q : List (MapEntry × Spot)) (k : DR w m clock xs L W Q []) => k)
  have HME := hid_in hme
  have HPL := hid_in hPL
  have HRW := hid_in (fun W (k : w.grownBy W (some m)) => (H.out.row.grown k (fun e => H.out.ne (Option.some.inj e))))
  have HVW := hid_in (fun W (k : w.grownBy W (some m)) => Val.map h.map k HV.out)
  have hlb : (L.length : Int) ≤ 100000 := by omega
  generalize xs.length = nl at *
  clear h hv hn hme hPL HSTA
  obtain ⟨F, HF⟩ : ∃ F, Hid ((L.filter (outX xs)).length = F) := ⟨_, hid_in rfl⟩
  obtain ⟨T, HT⟩ : ∃ T, Hid (L.length = T) := ⟨_, hid_in rfl⟩
  rw [HF.out, HT.out]
  simp only [HT.out] at hlb hln
  go_enter Tryz.func18, Tryz.ntmps18
  go_wp2_with fail
  go_loopw [6] (fun _v6 W => Hid (∃ Q seen, DR w m clock xs L W Q seen)) (fun _ W => W.rangeLeft m w.heap.size)
  case atStart =>
    refine ⟨P, [], ⟨clock, (MapKept.heap_alloc w _).1, Nat.le_refl _⟩, ?_, by rw [HPL.out], fun p _ hb => by simp at hb, ?_, by simp⟩
    · exact HME.out.grown (grown_of_below ((Below.refl _ _).alloc (Nat.le_refl _) _)) (fun k e => by cases e)
    · exact (grown_of_below ((Below.refl _ _).alloc (Nat.le_refl _) _)).but _
  case round =>
    obtain ⟨Q, seen, hR⟩ := hrel.out
    have HR := hid_in hR
    rcases HNX.out _ _ _ hR with ⟨hnx, hp⟩ | ⟨p, W2, hp, hnx, hen, hg2, hs2, hit2, hdec⟩
    · have HP := hid_in hp
      have hml := fun ty => hR.me.map.len ty
      rw [hp] at hml
      have r2 := (HRW.out _ hR.gr).cell 2
      have hle : ((L.filter (outX xs)).length : Int) ≤ (L.length : Int) := by have := List.length_filter_le (outX xs) L; omega
      rw [HF.out] at hml hle
      rw [HT.out] at hle
      clear hp hR hrel
      go_wp2
      go_ret
      refine ⟨rfl, ⟨HRW.out _ HR.out.gr, ?_⟩, HR.out.gr⟩
      rw [← HP.out]
      exact HR.out.me.map
    · have HRN := hid_in (fun W' (hB : Below W2.heap.size W2 W') => hR.wide HM.out hg2 hB)
      have HST := hid_in (fun W' ho (hB : Below W2.heap.size W2 W') => hR.stay HM.out hg2 hs2 hit2 hp ho hB)
      have HGO := hid_in (fun W3 W' ho (hB : Below W2.heap.size W2 W3) (hg : W3.grownBy W' (some m)) hme => hR.gone HM.out hg2 hit2 hp ho hB hg hme)
      have HCU := hid_in (fun W' (hB : Below W2.heap.size W2 W') => (hR.wide HM.out hg2 hB).1.cut hp 0)
      have HDC := hid_in hdec
      have hvs := (hR.me.nms p hp).val
      have HVS := hid_in (fun W' (hB : Below W2.heap.size W2 W') => ((hR.wide HM.out hg2 hB).1.nms p hp).val)
      have HIT := hid_in hit2
      obtain ⟨e0, sv, sn, sp, sk, sd, sx⟩ := p
      obtain ⟨qp, qc, rfl⟩ : ∃ p c, sv = .slice p sn.length c := by obtain ⟨p, c, e1, _⟩ := hvs; exact ⟨p, c, e1⟩
      simp only [Spot.val] at hnx hen
      simp only at HST HGO HCU HVS HDC HIT
      obtain ⟨ql, HQL⟩ : ∃ ql, Hid (sn.length = ql) := ⟨_, hid_in rfl⟩
      rw [HQL.out] at HST HGO HVS hnx hen
      clear hit2 hdec hR hrel hp hg2 hs2 hvs
      have HC4 : Hid ([Value.slice qp ql qc, .string sp, .int .i64 sk, .bool sd, .string sx].length = 5) := rfl
      have HO4 : Hid (∀ v ∈ [Value.slice qp ql qc, .string sp, .int .i64 sk, .bool sd, .string sx], v.oneCell' = true) := by
        intro v hv
        simp only [List.mem_cons, List.not_mem_nil, or_false] at hv
        rcases hv with rfl | rfl | rfl | rfl | rfl <;> rfl
      go_upto_region 7 with (first | (refine Nd.wpList_store_new rfl rfl 80 5 _ _ rfl _ [Value.slice qp ql qc, .string sp, .int .i64 sk, .bool sd, .string sx] info63 rfl HC4 HO4 rfl rfl ?_; intro w3 hr3 hb3 hs3; have HR3 := hid_in hr3; have HB3 := hid_in hb3; clear hr3 hb3 hs3))
      have c0 : w3.cell? ⟨W2.heap.size, 0, none⟩ = some (.slice qp ql qc) := HR3.out.cell 0
      have HWI := hid_in (Vp.within_v (HVS.out _ HB3.out) (HVW.out _ (HRN.out _ HB3.out).2.1))
      cases hwi : withinS sn xs with
      | false =>
        rw [hwi] at HWI
        go_wp2_with (first | (go_at_call 43; refine HWI.out.mono ?_; rintro e w4 ⟨rfl, hd4⟩; have HB4 : Hid (Below W2.heap.size W2 w4) := (by obtain ⟨q, rfl⟩ := hd4; exact below_drewN HB3.out q); clear hd4))
        have ho : outX xs ⟨.slice qp ql qc, sn, sp, sk, sd, sx⟩ = true := by unfold outX; simp only; rw [hwi]; rfl
        have hd := HST.out _ ho HB4.out
        exact ⟨⟨_, _, hd⟩, HDC.out _ _ (List.Sublist.refl _) hd.me.mp (by obtain ⟨c, h1, _⟩ := hd.it; exact ⟨c, h1⟩)⟩
      | true =>
        rw [hwi] at HWI
        go_upto_region 8 with (first | (go_at_call 43; refine HWI.out.mono ?_; rintro e w4 ⟨rfl, hd4⟩; have HB4 : Hid (Below W2.heap.size W2 w4) := (by obtain ⟨q, rfl⟩ := hd4; exact below_drewN HB3.out q); clear hd4))
        have r2 := (HRW.out _ (HRN.out _ HB4.out).2.1).cell 2
        obtain ⟨w5, hdl, hm5, hg5, hs5⟩ := HCU.out _ HB4.out
        have HM5 := hid_in hm5
        have HG5 := hid_in hg5
        clear hm5 hg5 hs5
        have ho : outX xs ⟨.slice qp ql qc, sn, sp, sk, sd, sx⟩ = false := by unfold outX; simp only; rw [hwi]; rfl
        rw [HQL.out] at HM5
        have HD5 := hid_in (HGO.out _ _ ho HB4.out HG5.out HM5.out)
        clear ho
        go_wp2
        exact ⟨⟨_, _, HD5.out⟩, HDC.out _ _ List.filter_sublist HD5.out.me.mp (by obtain ⟨c, h1, _⟩ := HD5.out.it; exact ⟨c, h1⟩)⟩
end Go.Proofs.YtglfeocfhlmloaaGreat.Up
namespace Go.Proofs.YtglfeocfhlmloaaGreat.Up
open Go.RowKit
open Vp (Str B bl Val cmpL parseS showS withinS IsPath checkS)
open Nd (Row wp_world post_Row post_Row2 grownBy_setCell below_of_grown)
theorem toL_inj {a b : ByteArray} (h : a.toList = b.toList) : a = b := by
  rw [Lib.toList_data, Lib.toList_data] at h
  exact ByteArray.ext (Array.toList_inj.1 h)
/-- quotas that may be -/
def quotaOk (n z : Int) : Prop := 0 ≤ n ∧ n ≤ 128 ∧ 0 ≤ z ∧ z ≤ 8192
set_option maxHeartbeats 1000000 in
set_option maxRecDepth 100000 in
theorem new_bad (n z : Int) (w : World) (h : ¬ quotaOk n z) : Calls Tryz.prog 6 #[.int .i64 n, .int .i64 z] w fun e w' => e = .returned (.tuple #[.pointer none, .int .i64 1]) ∧ w' = w := by
  unfold quotaOk at h
  by_cases h1 : n < 0
  · clear h
    go_enter Tryz.func6, Tryz.ntmps6
    go_wp2
    go_ret2
    exact ⟨rfl, rfl⟩
  · by_cases h2 : 128 < n
    · clear h
      go_enter Tryz.func6, Tryz.ntmps6
      go_wp2
      go_ret2
      exact ⟨rfl, rfl⟩
    · by_cases h3 : z < 0
      · clear h
        go_enter Tryz.func6, Tryz.ntmps6
        go_wp2
        go_ret2
        exact ⟨rfl, rfl⟩
      · have h4 : 8192 < z := by omega
        clear h
        go_enter Tryz.func6, Tryz.ntmps6
        go_wp2
        go_ret2
        exact ⟨rfl, rfl⟩
theorem make56 (w : World) : (Instr.makeMap 47 none).run Tryz.prog w = .ok (.map (some w.heap.size)) (w.alloc (.map #[] 0)) := by
  simp [Instr.makeMap]
set_option maxHeartbeats 1000000 in
set_option maxRecDepth 100000 in
theorem new_ok (n z : Int) (w : World) (h : quotaOk n z) : Calls Tryz.prog 6 #[.int .i64 n, .int .i64 z] w fun e w' => ∃ g m, e = .returned (.tuple #[.pointer (some ⟨g, 0, none⟩), .int .i64 0]) ∧ Fs w' g m n z [] ∧ Below w.heap.size w w' ∧ w.heap.size ≤ m := by
  obtain ⟨h1, h2, h3, h4⟩ := h
  have k1 : ¬ n < 0 := by omega
  have k2 : ¬ 128 < n := by omega
  have k3 : ¬ z < 0 := by omega
  have k4 : ¬ 8192 < z := by omega
  clear h1 h2 h3 h4
  have hmk := make56
  go_enter Tryz.func6, Tryz.ntmps6
  go_wp2
  go_ret2
  refine ⟨w.heap.size + 1, rfl, w.heap.size, ⟨?_, ⟨⟨#[], 0, ?_, rfl, by simp, by simp⟩, by simp, by simp, by simp⟩⟩, ((Below.refl _ _).alloc (Nat.le_refl _) _).alloc (by simp) _, Nat.le_refl _⟩
  · have hr := Row.new (w.alloc (.map #[] 0)) [.int .i64 n, .int .i64 z, .map (some w.heap.size)] 49
    have e : (w.alloc (.map #[] 0)).heap.size = w.heap.size + 1 := by simp
    rw [e] at hr
    exact hr
  · rw [((Below.refl _ (w.alloc (.map #[] 0))).alloc (Nat.le_refl _) _).block w.heap.size (by simp)]
    exact (MapKept.heap_alloc w _).1
/-- what is wrong with an inode's form -/
def kindE (k : Int) (q : Bool) (d : ByteArray) : Int := if k = 2 then (if d = ⟨#[]⟩ then 0 else 1) else if k = 1 then (if q then 1 else 0) else if k = 3 then (if q then 1 else if d = ⟨#[]⟩ then 0 else 1) else 100
def formE (k : Int) (q : Bool) (d : ByteArray) : Int := if kindE k q d ≠ 0 then kindE k q d else if 1024 < d.size then 134 else 0
set_option maxHeartbeats 4000000 in
set_option maxRecDepth 100000 in
theorem kind_any (p : ByteArray) (k : Int) (q : Bool) (d : ByteArray) (w : World) : Calls Tryz.prog 62 #[.agg #[.string p, .int .i64 k, .bool q, .string d]] w fun e w' => e = .returned (.int .i64 (kindE k q d)) ∧ Below w.heap.size w w' := by
  by_cases hd : d = ⟨#[]⟩
  · subst hd
    by_cases h2 : k = 2
    · subst h2
      have e : kindE 2 q ⟨#[]⟩ = 0 := by simp [kindE]
      rw [e]
      rcases q with _ | _
      all_goals
        go_enter Tryz.func62, Tryz.ntmps62
        go_wp2
        go_ret
        exact ⟨rfl, (Below.refl _ _).alloc (Nat.le_refl _) _⟩
    · by_cases h1 : k = 1
      · subst h1
        rcases q with _ | _
        all_goals
          go_enter Tryz.func62, Tryz.ntmps62
          go_wp2
          go_ret
          exact ⟨by simp [kindE], (Below.refl _ _).alloc (Nat.le_refl _) _⟩
      · by_cases h3 : k = 3
        · subst h3
          rcases q with _ | _
          all_goals
            go_enter Tryz.func62, Tryz.ntmps62
            go_wp2
            go_ret
            exact ⟨by simp [kindE], (Below.refl _ _).alloc (Nat.le_refl _) _⟩
        · have e : kindE k q ⟨#[]⟩ = 100 := by simp [kindE, h1, h2, h3]
          rw [e]
          have b1 : (k == 1) = false := by simpa using h1
          have b2 : (k == 2) = false := by simpa using h2
          have b3 : (k == 3) = false := by simpa using h3
          clear h1 h2 h3
          go_enter Tryz.func62, Tryz.ntmps62
          go_wp2
          go_ret
          exact ⟨rfl, (Below.refl _ _).alloc (Nat.le_refl _) _⟩
  · have hd2 : (d == ⟨#[]⟩) = false := by rw [Bool.eq_false_iff]; exact fun hh => hd ((MapKept.bytes_beq d _).1 hh)
    have HD := hid_in hd
    have hd3 : d.toList.isEmpty = false := by
      rw [List.isEmpty_eq_false_iff]
      exact fun e => HD.out (toL_inj (b := ⟨#[]⟩) (e.trans (by rw [Lib.toList_data])))
    by_cases h2 : k = 2
    · subst h2
      have e : kindE 2 q d = 1 := by simp [kindE, HD.out]
      rw [e]
      clear hd
      go_enter Tryz.func62, Tryz.ntmps62
      go_wp2
      go_ret
      exact ⟨rfl, (Below.refl _ _).alloc (Nat.le_refl _) _⟩
    · by_cases h1 : k = 1
      · subst h1
        clear hd
        rcases q with _ | _
        all_goals
          go_enter Tryz.func62, Tryz.ntmps62
          go_wp2
          go_ret
          exact ⟨by simp [kindE], (Below.refl _ _).alloc (Nat.le_refl _) _⟩
      · by_cases h3 : k = 3
        · subst h3
          have e : kindE 3 q d = 1 := by simp [kindE, HD.out]
          rw [e]
          clear hd
          rcases q with _ | _
          all_goals
            go_enter Tryz.func62, Tryz.ntmps62
            go_wp2
            go_ret
            exact ⟨rfl, (Below.refl _ _).alloc (Nat.le_refl _) _⟩
        · have e : kindE k q d = 100 := by simp [kindE, h1, h2, h3]
          rw [e]
          have b1 : (k == 1) = false := by simpa using h1
          have b2 : (k == 2) = false := by simpa using h2
          have b3 : (k == 3) = false := by simpa using h3
          clear h1 h2 h3 hd
          go_enter Tryz.func62, Tryz.ntmps62
          go_wp2
          go_ret
          exact ⟨rfl, (Below.refl _ _).alloc (Nat.le_refl _) _⟩
set_option maxHeartbeats 1000000 in
set_option maxRecDepth 100000 in
theorem form_any (p : ByteArray) (k : Int) (q : Bool) (d : ByteArray) (w : World) : Calls Tryz.prog 40 #[.agg #[.string p, .int .i64 k, .bool q, .string d]] w fun e w' => e = .returned (.int .i64 (formE k q d)) ∧ Below w.heap.size w w' := by
  obtain ⟨w1, HW1⟩ : ∃ w1, Hid (w.alloc (.cells #[.string p, .int .i64 k, .bool q, .string d] 42) = w1) := ⟨_, hid_in rfl⟩
  have HB1 : Hid (Below w.heap.size w w1) := by rw [← HW1.out]; exact (Below.refl _ _).alloc (Nat.le_refl _) _
  have HR1 : Hid (Row w1 w.heap.size [.string p, .int .i64 k, .bool q, .string d] 42) := by rw [← HW1.out]; exact Row.new w [.string p, .int .i64 k, .bool q, .string d] 42
  have HK := hid_in (kind_any p k q d w1)
  have c0 : w1.cell? ⟨w.heap.size, 0, none⟩ = some (.string p) := HR1.out.cell 0
  have c1 : w1.cell? ⟨w.heap.size, 1, none⟩ = some (.int .i64 k) := HR1.out.cell 1
  have c2 : w1.cell? ⟨w.heap.size, 2, none⟩ = some (.bool q) := HR1.out.cell 2
  have c3 : w1.cell? ⟨w.heap.size, 3, none⟩ = some (.string d) := HR1.out.cell 3
  unfold formE
  by_cases he : kindE k q d = 0
  · rw [he] at HK ⊢
    rw [if_neg (by simp)]
    clear he
    by_cases hs : 1024 < d.size
    · rw [if_pos hs]
      have hs2 : (1024 : Int) < (d.size : Int) := by omega
      clear hs
      go_enter Tryz.func40, Tryz.ntmps40
      go_upto_region 1 with fail
      refine wp_world HW1.out ?_
      go_wp2_with (first | (go_at_call 62; refine HK.out.mono ?_; rintro e w2 ⟨rfl, hb2⟩; have HB2 := hid_in hb2; have d3 := (HR1.out.below hb2 HR1.out.lt).cell 3; clear hb2))
      go_ret
      exact ⟨rfl, HB1.out.trans (HB2.out.mono HB1.out.size)⟩
    · rw [if_neg hs]
      have hs2 : ¬ (1024 : Int) < (d.size : Int) := by omega
      clear hs
      go_enter Tryz.func40, Tryz.ntmps40
      go_upto_region 1 with fail
      refine wp_world HW1.out ?_
      go_wp2_with (first | (go_at_call 62; refine HK.out.mono ?_; rintro e w2 ⟨rfl, hb2⟩; have HB2 := hid_in hb2; have d3 := (HR1.out.below hb2 HR1.out.lt).cell 3; clear hb2))
      go_ret
      exact ⟨rfl, HB1.out.trans (HB2.out.mono HB1.out.size)⟩
  · rw [if_pos he]
    generalize kindE k q d = E at *
    go_enter Tryz.func40, Tryz.ntmps40
    go_upto_region 1 with fail
    refine wp_world HW1.out ?_
    go_wp2_with (first | (go_at_call 62; refine HK.out.mono ?_; rintro e w2 ⟨rfl, hb2⟩; have HB2 := hid_in hb2; have d3 := (HR1.out.below hb2 HR1.out.lt).cell 3; clear hb2))
    go_ret
    exact ⟨rfl, HB1.out.trans (HB2.out.mono HB1.out.size)⟩
end Go.Proofs.YtglfeocfhlmloaaGreat.Up
