/-
  The walk of the reference's Pack. The walk of the reference's Same, of results that are the same. Pack and Unpack, each told in one form; the walk of the statement OpResults.
-/
import Derived.Laws.CopyOwn
import Derived.Deep.CutRange
import Derived.Test.YtjlhjpooggkkoaaRows
import Derived.OwnWalk
import Derived.Deep.RegionLaw
import Derived.Deep.DrawnRows
import Derived.Laws.Tables
import Derived.Test.YtjlhjpooggkkoaaR00
import Derived.Test.YtjlhjpooggkkoaaR01
import Derived.Test.YtjlhjpooggkkoaaR02
import Derived.Test.YtjlhjpooggkkoaaR03
import Derived.Test.YtjlhjpooggkkoaaR04
import Derived.Test.YtjlhjpooggkkoaaR05
import Derived.Test.YtjlhjpooggkkoaaR06
import Derived.Test.YtjlhjpooggkkoaaR07
import Derived.Test.YtjlhjpooggkkoaaR08
import Derived.Test.YtjlhjpooggkkoaaR09
import Derived.Test.YtjlhjpooggkkoaaR10
namespace Go.Proofs.Ytjlhjpooggkkoaa.Nd
open Go.RowKit
theorem flag_c (W : World) (f : Bool) : Calls Try.prog 44 #[.bool f] W fun e w' => ∃ p c b, e = .returned (.slice p [if f then 1 else 0].length c) ∧ Sl w' p [if f then 1 else 0] c b 0 ∧ (p = none → [if f then (1 : Nat) else 0].length = 0 ∧ c = 0) ∧ w'.ownsRow W.heap.size 5 1 (.slice p [if f then 1 else 0].length c) [if f then (1 : Nat) else 0].length ([if f then 1 else 0].map u8v) ∧ Below W.heap.size W w' := by
  refine (rwflag_any W f).mono ?_
  rintro e w' ⟨v, rfl, ho, hb⟩
  obtain ⟨p, c, b, rfl, hs, hno⟩ := own_sl (xs := [if f then 1 else 0]) (by cases f <;> decide) ho
  exact ⟨p, c, b, rfl, hs, hno, ho, hb⟩
set_option maxHeartbeats 4000000 in
set_option maxRecDepth 100000 in
theorem rpack_data (r : Res) (vn : Value) (hok : r.ok) (hl : ¬ r.data.size ≤ 1100) (w : World) (hst : Strs w vn r.names) : Calls Try.prog 21 #[r.val vn] w fun e w' => e = .returned (.tuple #[.slice none 0 0, .int .i64 2]) ∧ Below w.heap.size w w' := by
  obtain ⟨k, f, z, d, ns⟩ := r
  simp only [Res.val] at *
  obtain ⟨pn, cn, bn, on_, hvn, hn1, hn2, hn3, hn4⟩ := hst
  subst hvn
  obtain ⟨W0, H0, HR0, HB0, HZ0⟩ := res_row w k z f d (.slice pn ns.length cn)
  have c3 : W0.cell? ⟨w.heap.size, 3, none⟩ = some (.string d) := HR0.out.cell 3
  have c4 : W0.cell? ⟨w.heap.size, 4, none⟩ = some (.slice pn ns.length cn) := HR0.out.cell 4
  have HN3 := hid_in hn3
  have HN4 : Hid (∀ W, Below w.heap.size w W → ∀ (i : Nat) s, ns[i]? = some s → W.cell? ⟨bn, on_ + i, none⟩ = some (.string s)) := fun W hW i s hi => by
    rw [hW.cell (p := ⟨bn, on_ + i, none⟩) (hn3 (by rintro rfl; simp at hi)).2]
    exact hn4 i s hi
  have HSZ := hid_in hok.names
  simp only at HSZ
  clear hn3 hn4
  have hdz := hok.data
  simp only at hdz
  have k1 : (1100 : Int) < (d.size : Int) := by omega
  clear hok hl
  go_enter Try.func21, Try.ntmps21
  go_upto_region 1 with fail
  refine wp_world H0.out ?_
  clear H0
  go_wp2
  go_ret2
  exact ⟨rfl, HB0.out⟩
set_option maxHeartbeats 4000000 in
set_option maxRecDepth 100000 in
theorem rpack_names (r : Res) (vn : Value) (hok : r.ok) (hd : r.data.size ≤ 1100) (hl : ¬ shortS r.names) (w : World) (hst : Strs w vn r.names) : Calls Try.prog 21 #[r.val vn] w fun e w' => e = .returned (.tuple #[.slice none 0 0, .int .i64 2]) ∧ Below w.heap.size w w' := by
  obtain ⟨k, f, z, d, ns⟩ := r
  simp only [Res.val] at *
  obtain ⟨pn, cn, bn, on_, hvn, hn1, hn2, hn3, hn4⟩ := hst
  subst hvn
  obtain ⟨W0, H0, HR0, HB0, HZ0⟩ := res_row w k z f d (.slice pn ns.length cn)
  have c3 : W0.cell? ⟨w.heap.size, 3, none⟩ = some (.string d) := HR0.out.cell 3
  have c4 : W0.cell? ⟨w.heap.size, 4, none⟩ = some (.slice pn ns.length cn) := HR0.out.cell 4
  have HN3 := hid_in hn3
  have HN4 : Hid (∀ W, Below w.heap.size w W → ∀ (i : Nat) s, ns[i]? = some s → W.cell? ⟨bn, on_ + i, none⟩ = some (.string s)) := fun W hW i s hi => by
    rw [hW.cell (p := ⟨bn, on_ + i, none⟩) (hn3 (by rintro rfl; simp at hi)).2]
    exact hn4 i s hi
  have HSZ := hid_in hok.names
  simp only at HSZ
  clear hn3 hn4
  have k1 : ¬ ((1100 : Int) < (d.size : Int)) := by omega
  have HNO := hid_in hl
  clear hok hl hd
  go_enter Try.func21, Try.ntmps21
  go_upto_region 1 with fail
  refine wp_world H0.out ?_
  clear H0
  go_upto_region 4 with fail
  go_loopw [4] (fun vk W => ∃ j : Nat, vk = .int .i64 (j : Int) ∧ j ≤ ns.length ∧ (∀ i s, i < j → ns[i]? = some s → s.size ≤ 1100) ∧ W = W0) (fun vk _ => ns.length - (intOf vk).toNat)
  case atStart => exact ⟨0, rfl, by omega, fun i s h => by omega, rfl⟩
  case round =>
    obtain ⟨j, rfl, hj, hjs, hWW⟩ := hrel
    replace hWW := hWW.symm
    subst hWW
    have HJS := hid_in hjs
    clear hjs
    by_cases hl : j < ns.length
    · have k2 : (j : Int) < (ns.length : Int) := by omega
      obtain ⟨s, hs⟩ : ∃ s, ns[j]? = some s := ⟨_, List.getElem?_eq_getElem hl⟩
      have c0 := HN4.out _ HB0.out j s hs
      have hne : ns ≠ [] := by rintro rfl; simp at hl
      obtain ⟨rfl, _⟩ := HN3.out hne
      have HS := hid_in hs
      have hz := HSZ.out s (List.mem_of_getElem? hs)
      clear hs hne
      by_cases hb : 1100 < s.size
      · have k3 : (1100 : Int) < (s.size : Int) := by omega
        have HBG := hid_in hb
        clear hb
        go_wp2
        go_ret2
        exact ⟨rfl, HB0.out⟩
      · have k3 : ¬ ((1100 : Int) < (s.size : Int)) := by omega
        have HB := hid_in hb
        clear hb
        go_wp2
        refine ⟨⟨j + 1, by go_num, by omega, fun i x h5 h6 => ?_, trivial⟩, by simp [intOf]; omega⟩
        rcases (show i < j ∨ i = j by omega) with h | rfl
        · exact HJS.out i x h h6
        · obtain rfl : s = x := Option.some.inj (HS.out.symm.trans h6)
          have := HB.out
          omega
    · have k2 : ¬ ((j : Int) < (ns.length : Int)) := by omega
      have HALL : Hid (shortS ns) := fun s hs => by
        obtain ⟨i, hi, rfl⟩ := List.getElem_of_mem hs
        exact HJS.out i _ (by omega) (List.getElem?_eq_getElem hi)
      clear hl
      exact absurd HALL.out HNO.out
set_option maxHeartbeats 4000000 in
set_option maxRecDepth 100000 in
theorem rpack_many (r : Res) (vn : Value) (hok : r.ok) (hd : r.data.size ≤ 1100) (hs : shortS r.names) (hm : 512 < r.names.length) (w : World) (hst : Strs w vn r.names) : Calls Try.prog 21 #[r.val vn] w fun e w' => e = .returned (.tuple #[.slice none 0 0, .int .i64 8]) ∧ Below w.heap.size w w' := by
  obtain ⟨k, f, z, d, ns⟩ := r
  simp only [Res.val] at *
  obtain ⟨pn, cn, bn, on_, hvn, hn1, hn2, hn3, hn4⟩ := hst
  subst hvn
  obtain ⟨W0, H0, HR0, HB0, HZ0⟩ := res_row w k z f d (.slice pn ns.length cn)
  have c3 : W0.cell? ⟨w.heap.size, 3, none⟩ = some (.string d) := HR0.out.cell 3
  have c4 : W0.cell? ⟨w.heap.size, 4, none⟩ = some (.slice pn ns.length cn) := HR0.out.cell 4
  have HN3 := hid_in hn3
  have HN4 : Hid (∀ W, Below w.heap.size w W → ∀ (i : Nat) s, ns[i]? = some s → W.cell? ⟨bn, on_ + i, none⟩ = some (.string s)) := fun W hW i s hi => by
    rw [hW.cell (p := ⟨bn, on_ + i, none⟩) (hn3 (by rintro rfl; simp at hi)).2]
    exact hn4 i s hi
  have HSZ := hid_in hok.names
  simp only at HSZ
  clear hn3 hn4
  have k1 : ¬ ((1100 : Int) < (d.size : Int)) := by omega
  have kM : (512 : Int) < (ns.length : Int) := by omega
  have HYES := hid_in hs
  clear hok hs hd hm
  go_enter Try.func21, Try.ntmps21
  go_upto_region 1 with fail
  refine wp_world H0.out ?_
  clear H0
  go_upto_region 4 with fail
  go_loopw [4] (fun vk W => ∃ j : Nat, vk = .int .i64 (j : Int) ∧ j ≤ ns.length ∧ (∀ i s, i < j → ns[i]? = some s → s.size ≤ 1100) ∧ W = W0) (fun vk _ => ns.length - (intOf vk).toNat)
  case atStart => exact ⟨0, rfl, by omega, fun i s h => by omega, rfl⟩
  case round =>
    obtain ⟨j, rfl, hj, hjs, hWW⟩ := hrel
    replace hWW := hWW.symm
    subst hWW
    have HJS := hid_in hjs
    clear hjs
    by_cases hl : j < ns.length
    · have k2 : (j : Int) < (ns.length : Int) := by omega
      obtain ⟨s, hs⟩ : ∃ s, ns[j]? = some s := ⟨_, List.getElem?_eq_getElem hl⟩
      have c0 := HN4.out _ HB0.out j s hs
      have hne : ns ≠ [] := by rintro rfl; simp at hl
      obtain ⟨rfl, _⟩ := HN3.out hne
      have HS := hid_in hs
      have hz := HSZ.out s (List.mem_of_getElem? hs)
      clear hs hne
      by_cases hb : 1100 < s.size
      · have k3 : (1100 : Int) < (s.size : Int) := by omega
        have HBG := hid_in hb
        clear hb
        exact absurd (HYES.out s (List.mem_of_getElem? HS.out)) (by have := HBG.out; omega)
      · have k3 : ¬ ((1100 : Int) < (s.size : Int)) := by omega
        have HB := hid_in hb
        clear hb
        go_wp2
        refine ⟨⟨j + 1, by go_num, by omega, fun i x h5 h6 => ?_, trivial⟩, by simp [intOf]; omega⟩
        rcases (show i < j ∨ i = j by omega) with h | rfl
        · exact HJS.out i x h h6
        · obtain rfl : s = x := Option.some.inj (HS.out.symm.trans h6)
          have := HB.out
          omega
    · have k2 : ¬ ((j : Int) < (ns.length : Int)) := by omega
      have HALL : Hid (shortS ns) := fun s hs => by
        obtain ⟨i, hi, rfl⟩ := List.getElem_of_mem hs
        exact HJS.out i _ (by omega) (List.getElem?_eq_getElem hi)
      clear hl
      go_wp2
      go_ret2
      exact ⟨rfl, HB0.out⟩
set_option maxHeartbeats 4000000 in
set_option maxRecDepth 100000 in
theorem rpack_ok (r : Res) (vn : Value) (hok : r.ok) (hd : r.data.size ≤ 1100) (hs : shortS r.names) (hm : r.names.length ≤ 512) (w : World) (hst : Strs w vn r.names) : Calls Try.prog 21 #[r.val vn] w fun e w' => (∃ u, e = .returned (.tuple #[u, .int .i64 0]) ∧ w'.ownsRow w.heap.size 5 1 u (encR r).length ((encR r).map u8v)) ∧ Below w.heap.size w w' := by
  have hll := preR_len r hd
  obtain ⟨k, f, z, d, ns⟩ := r
  simp only [Res.val] at *
  obtain ⟨pn, cn, bn, on_, hvn, hn1, hn2, hn3, hn4⟩ := hst
  subst hvn
  obtain ⟨W0, H0, HR0, HB0, HZ0⟩ := res_row w k z f d (.slice pn ns.length cn)
  have c3 : W0.cell? ⟨w.heap.size, 3, none⟩ = some (.string d) := HR0.out.cell 3
  have c4 : W0.cell? ⟨w.heap.size, 4, none⟩ = some (.slice pn ns.length cn) := HR0.out.cell 4
  have HN3 := hid_in hn3
  have HN4 : Hid (∀ W, Below w.heap.size w W → ∀ (i : Nat) s, ns[i]? = some s → W.cell? ⟨bn, on_ + i, none⟩ = some (.string s)) := fun W hW i s hi => by
    rw [hW.cell (p := ⟨bn, on_ + i, none⟩) (hn3 (by rintro rfl; simp at hi)).2]
    exact hn4 i s hi
  have HSZ := hid_in hok.names
  simp only at HSZ
  clear hn3 hn4
  have k1 : ¬ ((1100 : Int) < (d.size : Int)) := by omega
  have kM : ¬ ((512 : Int) < (ns.length : Int)) := by omega
  have HYES := hid_in hs
  have HM := hid_in hm
  have HZd := hid_in hd
  have HIk := hid_in hok.code
  have HIz := hid_in hok.size
  simp only at HIk HIz
  have HNL : Hid (ns.length < 18446744073709551616) := by show _ < _; omega
  have hww : IntKind.u64.wrap (ns.length : Int) = (ns.length : Int) := by rw [IntKind.wrap_u64]; omega
  obtain ⟨T0, HT0⟩ : ∃ T : List Nat, Hid ((Wire.num (Wire.zz k) : List Nat) = T) := ⟨Wire.num (Wire.zz k), by show _ = _; rfl⟩
  obtain ⟨T1, HT1⟩ : ∃ T : List Nat, Hid (([if f then 1 else 0] : List Nat) = T) := ⟨[if f then 1 else 0], by show _ = _; rfl⟩
  obtain ⟨T2, HT2⟩ : ∃ T : List Nat, Hid ((Wire.num (Wire.zz z) : List Nat) = T) := ⟨Wire.num (Wire.zz z), by show _ = _; rfl⟩
  obtain ⟨T3, HT3⟩ : ∃ T : List Nat, Hid (((Wire.num d.size ++ bytesS d) : List Nat) = T) := ⟨(Wire.num d.size ++ bytesS d), by show _ = _; rfl⟩
  obtain ⟨T4, HT4⟩ : ∃ T : List Nat, Hid ((Wire.num ns.length : List Nat) = T) := ⟨Wire.num ns.length, by show _ = _; rfl⟩
  have HLL : Hid ((((((T0 ++ T1) ++ T2) ++ T3) ++ T4) : List Nat).length ≤ 2000) := by
    show _ ≤ _
    rw [← HT0.out, ← HT1.out, ← HT2.out, ← HT3.out, ← HT4.out]
    exact hll
  clear hok hs hd hm hll
  go_enter Try.func21, Try.ntmps21
  go_upto_region 1 with fail
  refine wp_world H0.out ?_
  clear H0
  go_upto_region 4 with fail
  go_loopw [4] (fun vk W => ∃ j : Nat, vk = .int .i64 (j : Int) ∧ j ≤ ns.length ∧ (∀ i s, i < j → ns[i]? = some s → s.size ≤ 1100) ∧ W = W0) (fun vk _ => ns.length - (intOf vk).toNat)
  case atStart => exact ⟨0, rfl, by omega, fun i s h => by omega, rfl⟩
  case round =>
    obtain ⟨j, rfl, hj, hjs, hWW⟩ := hrel
    replace hWW := hWW.symm
    subst hWW
    have HJS := hid_in hjs
    clear hjs
    by_cases hl : j < ns.length
    · have k2 : (j : Int) < (ns.length : Int) := by omega
      obtain ⟨s, hs⟩ : ∃ s, ns[j]? = some s := ⟨_, List.getElem?_eq_getElem hl⟩
      have c0 := HN4.out _ HB0.out j s hs
      have hne : ns ≠ [] := by rintro rfl; simp at hl
      obtain ⟨rfl, _⟩ := HN3.out hne
      have HS := hid_in hs
      have hz := HSZ.out s (List.mem_of_getElem? hs)
      clear hs hne
      by_cases hb : 1100 < s.size
      · have k3 : (1100 : Int) < (s.size : Int) := by omega
        have HBG := hid_in hb
        clear hb
        exact absurd (HYES.out s (List.mem_of_getElem? HS.out)) (by have := HBG.out; omega)
      · have k3 : ¬ ((1100 : Int) < (s.size : Int)) := by omega
        have HB := hid_in hb
        clear hb
        go_wp2
        refine ⟨⟨j + 1, by go_num, by omega, fun i x h5 h6 => ?_, trivial⟩, by simp [intOf]; omega⟩
        rcases (show i < j ∨ i = j by omega) with h | rfl
        · exact HJS.out i x h h6
        · obtain rfl : s = x := Option.some.inj (HS.out.symm.trans h6)
          have := HB.out
          omega
    · have k2 : ¬ ((j : Int) < (ns.length : Int)) := by omega
      have HALL : Hid (shortS ns) := fun s hs => by
        obtain ⟨i, hi, rfl⟩ := List.getElem_of_mem hs
        exact HJS.out i _ (by omega) (List.getElem?_eq_getElem hi)
      clear hl
      go_upto_region 10 with fail
      clear c3 c4
      have HC0 := hid_in (int_c W0 k HIk.out)
      rw [HT0.out] at HC0
      have c0_ : W0.cell? ⟨w.heap.size, 0, none⟩ = some (.int .i64 k) := HR0.out.cell 0
      go_upto_region 11 with (first | (go_at_call 33; refine HC0.out.mono ?_; rintro e w1 ⟨p1, c1, b1, rfl, hs1, hn1, ho1, hb1⟩; have HRE1 : Hid (RE W0 w1 _ T0) := ⟨ho1, hb1⟩; clear hs1 hn1 ho1 hb1 c0_))
      clear HC0
      have hr1 := HRE1.out.row HR0.out
      have c1_ : w1.cell? ⟨w.heap.size, 1, none⟩ = some (.bool f) := hr1.cell 1
      clear hr1
      have HC1 := hid_in (flag_c w1 f)
      rw [HT1.out] at HC1
      have HF1 : Hid (T0.length + T1.length ≤ 140737488355328) := by
        have := HLL.out
        show _ ≤ _
        simp only [List.length_append] at this ⊢
        omega
      go_upto_region 12 with (first | (go_at_call 44; refine HC1.out.mono ?_; rintro e w2 ⟨p2, c2, b2, rfl, hs2, hn2, ho2, hb2⟩; have HRE2 := hid_in (HRE1.out.below hb2); have HS2 := hid_in hs2; have HN2 := hid_in hn2; clear hs2 hn2 ho2 hb2 c1_ HRE1) | (at_builtin; refine wpList_app W0.heap.size rfl _ _ rfl _ T0 T1 rfl HRE2.out.own _ _ _ _ _ rfl rfl HS2.out HN2.out HF1.out HRE2.out.bel.size ?_; intro v3 w3 ho3 hg3; have HRE3 := hid_in (HRE2.out.more ho3 hg3); clear ho3 hg3 HRE2 HS2 HN2))
      clear HC1 HF1
      have hr2 := HRE3.out.row HR0.out
      have c2_ : w3.cell? ⟨w.heap.size, 2, none⟩ = some (.int .i64 z) := hr2.cell 2
      clear hr2
      have HC2 := hid_in (int_c w3 z HIz.out)
      rw [HT2.out] at HC2
      have HF2 : Hid ((T0 ++ T1).length + T2.length ≤ 140737488355328) := by
        have := HLL.out
        show _ ≤ _
        simp only [List.length_append] at this ⊢
        omega
      go_upto_region 13 with (first | (go_at_call 33; refine HC2.out.mono ?_; rintro e w4 ⟨p4, c4, b4, rfl, hs4, hn4, ho4, hb4⟩; have HRE4 := hid_in (HRE3.out.below hb4); have HS4 := hid_in hs4; have HN4 := hid_in hn4; clear hs4 hn4 ho4 hb4 c2_ HRE3) | (at_builtin; refine wpList_app W0.heap.size rfl _ _ rfl _ (T0 ++ T1) T2 rfl HRE4.out.own _ _ _ _ _ rfl rfl HS4.out HN4.out HF2.out HRE4.out.bel.size ?_; intro v5 w5 ho5 hg5; have HRE5 := hid_in (HRE4.out.more ho5 hg5); clear ho5 hg5 HRE4 HS4 HN4))
      clear HC2 HF2
      have hr3 := HRE5.out.row HR0.out
      have c3_ : w5.cell? ⟨w.heap.size, 3, none⟩ = some (.string d) := hr3.cell 3
      clear hr3
      have HC3 := hid_in (text_cc w5 d HZd.out)
      rw [HT3.out] at HC3
      have HF3 : Hid (((T0 ++ T1) ++ T2).length + T3.length ≤ 140737488355328) := by
        have := HLL.out
        show _ ≤ _
        simp only [List.length_append] at this ⊢
        omega
      go_upto_region 14 with (first | (go_at_call 34; refine HC3.out.mono ?_; rintro e w6 ⟨p6, c6, b6, rfl, hs6, hn6, ho6, hb6⟩; have HRE6 := hid_in (HRE5.out.below hb6); have HS6 := hid_in hs6; have HN6 := hid_in hn6; clear hs6 hn6 ho6 hb6 c3_ HRE5) | (at_builtin; refine wpList_app W0.heap.size rfl _ _ rfl _ ((T0 ++ T1) ++ T2) T3 rfl HRE6.out.own _ _ _ _ _ rfl rfl HS6.out HN6.out HF3.out HRE6.out.bel.size ?_; intro v7 w7 ho7 hg7; have HRE7 := hid_in (HRE6.out.more ho7 hg7); clear ho7 hg7 HRE6 HS6 HN6))
      clear HC3 HF3
      have hr4 := HRE7.out.row HR0.out
      have c4_ : w7.cell? ⟨w.heap.size, 4, none⟩ = some (.slice pn ns.length cn) := hr4.cell 4
      clear hr4
      have HC4 := hid_in (num_c w7 ns.length HNL.out)
      rw [HT4.out] at HC4
      have HF4 : Hid ((((T0 ++ T1) ++ T2) ++ T3).length + T4.length ≤ 140737488355328) := by
        have := HLL.out
        show _ ≤ _
        simp only [List.length_append] at this ⊢
        omega
      go_upto_region 15 with (first | (go_at_call 45; refine HC4.out.mono ?_; rintro e w8 ⟨p8, c8, b8, rfl, hs8, hn8, ho8, hb8⟩; have HRE8 := hid_in (HRE7.out.below hb8); have HS8 := hid_in hs8; have HN8 := hid_in hn8; clear hs8 hn8 ho8 hb8 c4_ HRE7) | (at_builtin; refine wpList_app W0.heap.size rfl _ _ rfl _ (((T0 ++ T1) ++ T2) ++ T3) T4 rfl HRE8.out.own _ _ _ _ _ rfl rfl HS8.out HN8.out HF4.out HRE8.out.bel.size ?_; intro v9 w9 ho9 hg9; have HRE9 := hid_in (HRE8.out.more ho9 hg9); clear ho9 hg9 HRE8 HS8 HN8))
      clear HC4 HF4
      obtain ⟨PR, HPR⟩ : ∃ PR : List Nat, Hid ((((((T0 ++ T1) ++ T2) ++ T3) ++ T4) : List Nat) = PR) := ⟨((((T0 ++ T1) ++ T2) ++ T3) ++ T4), by show _ = _; rfl⟩
      rw [HPR.out] at HRE9
      have HPL : Hid (PR.length ≤ 2000) := by show _ ≤ _; rw [← HPR.out]; exact HLL.out
      go_upto_region 16 with fail
      go_loopw [5, 6] (fun vb vk W => ∃ j : Nat, vk = .int .i64 (j : Int) ∧ j ≤ ns.length ∧ RE W0 W vb (PR ++ (ns.take j).flatMap textB)) (fun _ vk _ => ns.length - (intOf vk).toNat)
      case atStart => exact ⟨0, rfl, by omega, by simpa using HRE9.out⟩
      case round =>
        obtain ⟨j, rfl, hj, hre⟩ := hrel
        have HLJ : Hid ((PR ++ (ns.take j).flatMap textB).length ≤ 1000000) := by
          have h1 := flat_le (ns.take j) (fun x hx => HYES.out x (List.mem_of_mem_take hx))
          have h2 := HPL.out
          have h3 := HM.out
          show _ ≤ _
          rw [List.length_append]
          rw [List.length_take] at h1
          omega
        obtain ⟨PJ, HPJ⟩ : ∃ PJ : List Nat, Hid (PR ++ (ns.take j).flatMap textB = PJ) := ⟨_, rfl⟩
        rw [HPJ.out] at hre HLJ
        have HREJ := hid_in hre
        clear hre
        have hrj := HREJ.out.row HR0.out
        have c4j : wr.cell? ⟨w.heap.size, 4, none⟩ = some (.slice pn ns.length cn) := hrj.cell 4
        clear hrj
        have HBJ : Hid (Below w.heap.size w wr) := HB0.out.trans (HREJ.out.bel.mono HB0.out.size)
        by_cases hl : j < ns.length
        · have k5 : (j : Int) < (ns.length : Int) := by omega
          obtain ⟨s, hs⟩ : ∃ s, ns[j]? = some s := ⟨_, List.getElem?_eq_getElem hl⟩
          have c0 := HN4.out _ HBJ.out j s hs
          have hne : ns ≠ [] := by rintro rfl; simp at hl
          obtain ⟨rfl, _⟩ := HN3.out hne
          have HSN := hid_in (flat_snocB hs)
          have HSS : Hid (s.size ≤ 1100) := HYES.out s (List.mem_of_getElem? hs)
          have HCT := hid_in (text_cc wr s HSS.out)
          obtain ⟨TS, HTS⟩ : ∃ TS : List Nat, Hid ((Wire.num s.size ++ bytesS s) = TS) := ⟨_, rfl⟩
          have HTL : Hid (PJ.length + TS.length ≤ 140737488355328) := by
            have h1 := textB_len s HSS.out
            have h2 := HLJ.out
            unfold textB at h1
            rw [HTS.out] at h1
            show _ ≤ _
            omega
          rw [HTS.out] at HCT HSN
          clear hs hne
          go_wp2_with (first | (go_at_call 34; refine HCT.out.mono ?_; rintro e u1 ⟨p1, c1, b1, rfl, hs1, hn1, ho1, hb1⟩; have HREA := hid_in (HREJ.out.below hb1); have HSA := hid_in hs1; have HNA := hid_in hn1; clear hs1 hn1 ho1 hb1 c4j c0) | (at_builtin; refine wpList_app W0.heap.size rfl _ _ rfl _ PJ TS rfl HREA.out.own _ _ _ _ _ rfl rfl HSA.out HNA.out HTL.out HREA.out.bel.size ?_; intro v2 u2 ho2 hg2; have HREB := hid_in (HREA.out.more ho2 hg2); clear ho2 hg2 HSA HNA))
          refine ⟨⟨j + 1, by go_num, by omega, ?_⟩, by simp [intOf]; omega⟩
          rw [HSN.out, ← List.append_assoc, HPJ.out]
          exact HREB.out
        · have k5 : ¬ ((j : Int) < (ns.length : Int)) := by omega
          have HJ : Hid ((ns.take j).flatMap textB = ns.flatMap textB) := by show _ = _; rw [List.take_of_length_le (by omega)]
          go_wp2
          go_ret2
          have h := HREJ.out.fin HB0.out
          rw [← HPJ.out, HJ.out, ← HPR.out, ← HT0.out, ← HT1.out, ← HT2.out, ← HT3.out, ← HT4.out] at h
          exact ⟨⟨_, rfl, h.1⟩, h.2⟩
end Go.Proofs.Ytjlhjpooggkkoaa.Nd
namespace Go.Proofs.Ytjlhjpooggkkoaa.Nd
open Go.RowKit
theorem Strs.form {w : World} {v : Value} {ns : List ByteArray} (h : Strs w v ns) : ∃ p c, v = .slice p ns.length c := by
  obtain ⟨p, c, _, _, rfl, _⟩ := h
  exact ⟨p, c, rfl⟩
set_option maxHeartbeats 4000000 in
set_option maxRecDepth 100000 in
theorem same_yesR (r : Res) (va vb : Value) (w : World) (ha : Strs w va r.names) (hb : Strs w vb r.names) : Calls Try.prog 24 #[r.val va, r.val vb] w fun e w' => e = .returned (.bool true) ∧ Below w.heap.size w w' := by
  obtain ⟨k, f, z, d, ns⟩ := r
  simp only [Res.val] at *
  obtain ⟨W0, H0, HR0, HB0, HZ0⟩ := res_row w k z f d va
  obtain ⟨W1, H1, HR1, HB1, HZ1⟩ := res_row W0 k z f d vb
  have HB1' := hid_in (HB0.out.trans (HB1.out.mono HB0.out.size))
  have HRA := hid_in (HR0.out.below HB1.out HR0.out.lt)
  have HSA := hid_in (ha.below HB1'.out)
  have HSB := hid_in (hb.below HB1'.out)
  obtain ⟨g1, Hg1⟩ : ∃ g, W0.heap.size = g := ⟨_, rfl⟩
  rw [Hg1] at HR1
  have HG1 := hid_in Hg1
  clear Hg1 ha hb
  obtain ⟨pa, ca, ba, oa, rfl, ha1, ha2, ha3, ha4⟩ := HSA.out
  obtain ⟨pb, cb, bb, ob, rfl, hb1, hb2, hb3, hb4⟩ := HSB.out
  have HA3 := hid_in ha3
  have HA4 := hid_in ha4
  have HB3 := hid_in hb3
  have HB4 := hid_in hb4
  have a0 : W1.cell? ⟨w.heap.size, 0, none⟩ = some (.int .i64 k) := HRA.out.cell 0
  have a1 : W1.cell? ⟨w.heap.size, 1, none⟩ = some (.bool f) := HRA.out.cell 1
  have a2 : W1.cell? ⟨w.heap.size, 2, none⟩ = some (.int .i64 z) := HRA.out.cell 2
  have a3 : W1.cell? ⟨w.heap.size, 3, none⟩ = some (.string d) := HRA.out.cell 3
  have a4 : W1.cell? ⟨w.heap.size, 4, none⟩ = some (.slice pa ns.length ca) := HRA.out.cell 4
  have b0 : W1.cell? ⟨g1, 0, none⟩ = some (.int .i64 k) := HR1.out.cell 0
  have b1 : W1.cell? ⟨g1, 1, none⟩ = some (.bool f) := HR1.out.cell 1
  have b2 : W1.cell? ⟨g1, 2, none⟩ = some (.int .i64 z) := HR1.out.cell 2
  have b3 : W1.cell? ⟨g1, 3, none⟩ = some (.string d) := HR1.out.cell 3
  have b4 : W1.cell? ⟨g1, 4, none⟩ = some (.slice pb ns.length cb) := HR1.out.cell 4
  clear ha3 ha4 hb3 hb4 HSA HSB
  go_enter Try.func24, Try.ntmps24
  go_upto_region 1 with fail
  rw [show ((w.alloc (.cells #[.int .i64 k, .bool f, .int .i64 z, .string d, .slice pa ns.length ca] 42)).alloc (.cells #[.int .i64 k, .bool f, .int .i64 z, .string d, .slice pb ns.length cb] 42)) = W1 by rw [H0.out, H1.out]]
  rw [show w.heap.size + 1 = g1 by have := HZ0.out; have := HG1.out; omega]
  clear H0 H1 HZ0 HZ1 HG1 HR0 HB0 HB1
  go_upto_region 4 with fail
  clear a0 a1 a2 a3 b0 b1 b2 b3
  go_loopw [5] (fun vk W => ∃ j : Nat, vk = .int .i64 (j : Int) ∧ j ≤ ns.length ∧ ∃ m, W = W1.drewN m) (fun vk _ => ns.length - (intOf vk).toNat)
  case atStart => exact ⟨0, rfl, by omega, 0, rfl⟩
  case round =>
    obtain ⟨j, rfl, hj, m, hWW⟩ := hrel
    have HM : Hid (∃ m, wr = W1.drewN m) := ⟨m, hWW⟩
    have a4' : wr.cell? ⟨w.heap.size, 4, none⟩ = some (.slice pa ns.length ca) := by rw [hWW]; simpa [World.cell?] using a4
    have b4' : wr.cell? ⟨g1, 4, none⟩ = some (.slice pb ns.length cb) := by rw [hWW]; simpa [World.cell?] using b4
    have HBW : Hid (Below w.heap.size w wr) := by show Below _ _ _; rw [hWW]; exact below_drewN HB1'.out m
    by_cases hl : j < ns.length
    · have k2 : (j : Int) < (ns.length : Int) := by omega
      obtain ⟨s, hs⟩ : ∃ s, ns[j]? = some s := ⟨_, List.getElem?_eq_getElem hl⟩
      have hne : ns ≠ [] := by rintro rfl; simp at hl
      obtain ⟨rfl, _⟩ := HA3.out hne
      obtain ⟨rfl, _⟩ := HB3.out hne
      have x1 : wr.cell? ⟨ba, oa + j, none⟩ = some (.string s) := by rw [hWW]; simpa [World.cell?] using HA4.out j s hs
      have x2 : wr.cell? ⟨bb, ob + j, none⟩ = some (.string s) := by rw [hWW]; simpa [World.cell?] using HB4.out j s hs
      clear hs hne hWW a4 b4
      go_upto_region 6 with fail
      go_region
      go_wp2_with fail
      refine ⟨⟨j + 1, by go_num, by omega, ?_⟩, by simp [intOf]; omega⟩
      obtain ⟨m', hm'⟩ := HM.out
      exact ⟨m' + 1, by rw [hm']; rfl⟩
    · have k2 : ¬ ((j : Int) < (ns.length : Int)) := by omega
      clear hWW a4 b4
      go_wp2
      go_ret
      exact ⟨rfl, HBW.out⟩
end Go.Proofs.Ytjlhjpooggkkoaa.Nd
namespace Go.Proofs.Ytjlhjpooggkkoaa.Nd
open Go.RowKit
/-- what Pack answers -/
structure PakA (r : Res) (X : List Nat) (E : Int) : Prop where
  prog : ∀ W vn, Strs W vn r.names → Calls Try.prog 20 #[r.val vn] W fun e w' => (∃ v, e = .returned (.tuple #[v, .int .i64 E]) ∧ Byt w' v X) ∧ Below W.heap.size W w'
  ref : ∀ W vn, Strs W vn r.names → Calls Try.prog 21 #[r.val vn] W fun e w' => (∃ v, e = .returned (.tuple #[v, .int .i64 E]) ∧ Byt w' v X) ∧ Below W.heap.size W w'
theorem pak_ok (r : Res) (hok : r.ok) (hs : r.short) (hn : r.names.length ≤ 512) : PakA r (encR r) 0 := by
  refine ⟨fun W vn hv => ?_, fun W vn hv => ?_⟩
  · refine (pack_ok r vn hok hs.1 hs.2 hn W hv).mono ?_
    rintro e w' ⟨⟨u, rfl, ho⟩, hb⟩
    exact ⟨⟨u, rfl, own_byt (encR_lt hok hs hn) ho⟩, hb⟩
  · refine (rpack_ok r vn hok hs.1 hs.2 hn W hv).mono ?_
    rintro e w' ⟨⟨u, rfl, ho⟩, hb⟩
    exact ⟨⟨u, rfl, own_byt (encR_lt hok hs hn) ho⟩, hb⟩
theorem pak_no {r : Res} {E : Int} (h1 : ∀ W vn, Strs W vn r.names → Calls Try.prog 20 #[r.val vn] W fun e w' => e = .returned (.tuple #[.slice none 0 0, .int .i64 E]) ∧ Below W.heap.size W w')
    (h2 : ∀ W vn, Strs W vn r.names → Calls Try.prog 21 #[r.val vn] W fun e w' => e = .returned (.tuple #[.slice none 0 0, .int .i64 E]) ∧ Below W.heap.size W w') : PakA r [] E := by
  refine ⟨fun W vn hv => ?_, fun W vn hv => ?_⟩
  · refine (h1 W vn hv).mono ?_
    rintro e w' ⟨rfl, hb⟩
    exact ⟨⟨_, rfl, Byt.nil _⟩, hb⟩
  · refine (h2 W vn hv).mono ?_
    rintro e w' ⟨rfl, hb⟩
    exact ⟨⟨_, rfl, Byt.nil _⟩, hb⟩
theorem pak_both (r : Res) (hok : r.ok) : ∃ X E, PakA r X E ∧ ((r.short ∧ r.names.length ≤ 512 ∧ X = encR r ∧ E = 0) ∨ E ≠ 0) := by
  by_cases hd : r.data.size ≤ 1100
  · by_cases hs : shortS r.names
    · by_cases hn : r.names.length ≤ 512
      · exact ⟨_, 0, pak_ok r hok ⟨hd, hs⟩ hn, .inl ⟨⟨hd, hs⟩, hn, rfl, rfl⟩⟩
      · exact ⟨[], 8, pak_no (fun W vn hv => pack_many r vn hok hd hs (by omega) W hv) (fun W vn hv => rpack_many r vn hok hd hs (by omega) W hv), .inr (by decide)⟩
    · exact ⟨[], 2, pak_no (fun W vn hv => pack_names r vn hok hd hs W hv) (fun W vn hv => rpack_names r vn hok hd hs W hv), .inr (by decide)⟩
  · exact ⟨[], 2, pak_no (fun W vn _ => pack_data r vn hok hd W) (fun W vn hv => rpack_data r vn hok hd W hv), .inr (by decide)⟩
/-- what Unpack answers -/
structure UnpA (bs : List Nat) (q : Res) (G : Int) (K : Bool) : Prop where
  prog : ∀ W p c b off, Sl W p bs c b off → (p = none → bs.length = 0 ∧ c = 0) → bs.length ≤ 140737488355328 → Calls Try.prog 22 #[.slice p bs.length c] W fun e w' => (∃ vn, e = .returned (.tuple #[q.val vn, .int .i64 G]) ∧ Strs w' vn q.names) ∧ Below W.heap.size W w'
  ref : ∀ W p c b off, Sl W p bs c b off → Calls Try.prog 23 #[.slice p bs.length c] W fun e w' => (∃ vn, e = .returned (.tuple #[q.val vn, .bool K]) ∧ Strs w' vn q.names) ∧ Below W.heap.size W w'
theorem strs_nil (w : World) : Strs w (.slice none 0 0) [] := ⟨none, 0, 0, 0, rfl, by simp, by omega, fun h => absurd rfl h, fun i s h => by simp at h⟩
theorem unp_both (bs : List Nat) : ∃ q G K, UnpA bs q G K ∧ ((G = 0 ∧ K = true ∧ okR bs ∧ q = (rdR bs).1) ∨ (G = 21 ∧ K = false ∧ ¬ okR bs ∧ q = zeroRes)) := by
  by_cases h : okR bs
  · refine ⟨(rdR bs).1, 0, true, ⟨fun W p c b off h1 h2 h3 => ?_, fun W p c b off h1 => ?_⟩, .inl ⟨rfl, rfl, h, rfl⟩⟩
    · refine (unpack_p bs p c b off W h1 h2 h3).mono ?_
      rintro e w' ⟨⟨_, vn, rfl, hv⟩ | ⟨h', _⟩, hb⟩
      · exact ⟨⟨vn, rfl, hv⟩, hb⟩
      · exact absurd h h'
    · refine (runpack_p bs p c b off W h1).mono ?_
      rintro e w' ⟨⟨_, vn, rfl, hv⟩ | ⟨h', _⟩, hb⟩
      · exact ⟨⟨vn, rfl, hv⟩, hb⟩
      · exact absurd h h'
  · refine ⟨zeroRes, 21, false, ⟨fun W p c b off h1 h2 h3 => ?_, fun W p c b off h1 => ?_⟩, .inr ⟨rfl, rfl, h, rfl⟩⟩
    · refine (unpack_p bs p c b off W h1 h2 h3).mono ?_
      rintro e w' ⟨⟨h', _⟩ | ⟨_, rfl⟩, hb⟩
      · exact absurd h' h
      · exact ⟨⟨_, rfl, strs_nil _⟩, hb⟩
    · refine (runpack_p bs p c b off W h1).mono ?_
      rintro e w' ⟨⟨h', _⟩ | ⟨_, rfl⟩, hb⟩
      · exact absurd h' h
      · exact ⟨⟨_, rfl, strs_nil _⟩, hb⟩
set_option maxHeartbeats 4000000 in
set_option maxRecDepth 100000 in
theorem results_core (r : Res) (vn : Value) (X : List Nat) (E : Int) (hE : PakA r X E) (bs : List Nat) (q : Res) (G : Int) (K : Bool) (hD : UnpA bs q G K) (hGK : (G = 0 ∧ K = true) ∨ (G = 21 ∧ K = false))
    (p : Option Addr) (cap b off : Nat) (w : World) (hst : Strs w vn r.names) (hsl : Sl w p bs cap b off) (hno : p = none → bs.length = 0 ∧ cap = 0) (hre : bs.length ≤ 140737488355328) :
    Calls Try.prog 7 #[r.val vn, .slice p bs.length cap] w fun e w' => e = .returned (.bool true) ∧ Below w.heap.size w w' := by
  have HA := hid_in (fun W => awakeO_any W)
  have HEP := hid_in (fun W (hb : Below w.heap.size w W) => hE.prog W vn (hst.below hb))
  have HER := hid_in (fun W (hb : Below w.heap.size w W) => hE.ref W vn (hst.below hb))
  have HDP := hid_in (fun W (hb : Below w.heap.size w W) => hD.prog W p cap b off (hsl.below hb) hno hre)
  have HDR := hid_in (fun W (hb : Below w.heap.size w W) => hD.ref W p cap b off (hsl.below hb))
  have HSM := hid_in (fun W va vb (h1 : Strs W va q.names) (h2 : Strs W vb q.names) => same_yesR q va vb W h1 h2)
  obtain ⟨k, f, z, d, ns⟩ := r
  obtain ⟨qk, qf, qz, qd, qn⟩ := q
  obtain ⟨pn, cn, bn, on_, rfl, _⟩ := hst
  simp only [Res.val] at HEP HER HDP HDR HSM ⊢
  obtain ⟨W0, H0, HR0, HB0, HZ0⟩ := res_row w k z f d (.slice pn ns.length cn)
  obtain ⟨S, HS⟩ : ∃ S, Hid (str X = S) := ⟨_, rfl⟩
  clear hE hD hsl hno hre
  generalize bs.length = n at *
  go_enter Try.func7, Try.ntmps7
  go_upto_region 1 with fail
  refine wp_world H0.out ?_
  clear H0
  go_upto_region 3 with (first | (go_at_call 9; refine (HA.out _).mono ?_; rintro e w1 ⟨rfl, hb1⟩; have HB1 := hid_in (HB0.out.trans (hb1.mono HB0.out.size)); have HR1 := hid_in (HR0.out.below hb1 HR0.out.lt); clear hb1))
  have hr1 := HR1.out
  have c0 : w1.cell? ⟨w.heap.size, 0, none⟩ = some (.int .i64 k) := hr1.cell 0
  have c1 : w1.cell? ⟨w.heap.size, 1, none⟩ = some (.bool f) := hr1.cell 1
  have c2 : w1.cell? ⟨w.heap.size, 2, none⟩ = some (.int .i64 z) := hr1.cell 2
  have c3 : w1.cell? ⟨w.heap.size, 3, none⟩ = some (.string d) := hr1.cell 3
  have c4 : w1.cell? ⟨w.heap.size, 4, none⟩ = some (.slice pn ns.length cn) := hr1.cell 4
  clear hr1
  go_upto_region 4 with (first | (go_at_call 20; refine (HEP.out _ HB1.out).mono ?_; rintro e w2 ⟨⟨x2, rfl, hx2⟩, hb2⟩; have HX2 := hid_in hx2; have HB2 := hid_in (HB1.out.trans (hb2.mono HB1.out.size)); have HR2 := hid_in (HR1.out.below hb2 HR1.out.lt); clear hb2 hx2))
  have hr2 := HR2.out
  clear c0 c1 c2 c3 c4
  have c0 : w2.cell? ⟨w.heap.size, 0, none⟩ = some (.int .i64 k) := hr2.cell 0
  have c1 : w2.cell? ⟨w.heap.size, 1, none⟩ = some (.bool f) := hr2.cell 1
  have c2 : w2.cell? ⟨w.heap.size, 2, none⟩ = some (.int .i64 z) := hr2.cell 2
  have c3 : w2.cell? ⟨w.heap.size, 3, none⟩ = some (.string d) := hr2.cell 3
  have c4 : w2.cell? ⟨w.heap.size, 4, none⟩ = some (.slice pn ns.length cn) := hr2.cell 4
  clear hr2
  go_upto_region 5 with (first | (go_at_call 21; refine (HER.out _ HB2.out).mono ?_; rintro e w3 ⟨⟨x3, rfl, hx3⟩, hb3⟩; have HX3 := hid_in hx3; have HX2' := hid_in (HX2.out.below hb3); have HB3 := hid_in (HB2.out.trans (hb3.mono HB2.out.size)); clear hb3 hx3))
  clear c0 c1 c2 c3 c4
  go_upto_region 6 with (first | (go_at_call 22; refine (HDP.out _ HB3.out).mono ?_; rintro e w4 ⟨⟨v4, rfl, hv4⟩, hb4⟩; obtain ⟨p4, c4, hf4⟩ := hv4.form; subst hf4; have HV4 := hid_in hv4; have HX2'' := hid_in (HX2'.out.below hb4); have HX3'' := hid_in (HX3.out.below hb4); have HB4 := hid_in (HB3.out.trans (hb4.mono HB3.out.size)); clear hb4 hv4))
  obtain ⟨W5, H5, HR5, HB5, HZ5⟩ := res_row w4 qk qz qf qd (.slice p4 qn.length c4)
  have HB5' := hid_in (HB4.out.trans (HB5.out.mono HB4.out.size))
  have HX25 := hid_in (HX2''.out.below HB5.out)
  have HX35 := hid_in (HX3''.out.below HB5.out)
  have HV5 := hid_in (HV4.out.below HB5.out)
  obtain ⟨g4, Hg4⟩ : ∃ g, w4.heap.size = g := ⟨_, rfl⟩
  rw [Hg4] at HR5 ⊢
  refine wp_world H5.out ?_
  clear H5 HB5 HZ5 Hg4
  go_upto_region 7 with (first | (go_at_call 23; refine (HDR.out _ HB5'.out).mono ?_; rintro e w6 ⟨⟨v6, rfl, hv6⟩, hb6⟩; obtain ⟨p6, c6, hf6⟩ := hv6.form; subst hf6; have HV6 := hid_in hv6; have HX26 := hid_in (HX25.out.below hb6); have HX36 := hid_in (HX35.out.below hb6); have HV46 := hid_in (HV5.out.below hb6); have HB6 := hid_in (HB5'.out.trans (hb6.mono HB5'.out.size)); have HR6 := hid_in (HR5.out.below hb6 HR5.out.lt); clear hb6 hv6))
  obtain ⟨W7, H7, HR7, HB7, HZ7⟩ := res_row w6 qk qz qf qd (.slice p6 qn.length c6)
  have HB7' := hid_in (HB6.out.trans (HB7.out.mono HB6.out.size))
  have hv1 := (HX26.out.below HB7.out).conv
  have hv2 := (HX36.out.below HB7.out).conv
  rw [HS.out] at hv1 hv2
  have hr7 := HR7.out
  have hr6 := HR6.out.below HB7.out HR6.out.lt
  have HSM7 := hid_in (HSM.out W7 _ _ (HV46.out.below HB7.out) (HV6.out.below HB7.out))
  obtain ⟨g6, Hg6⟩ : ∃ g, w6.heap.size = g := ⟨_, rfl⟩
  rw [Hg6] at hr7 ⊢
  refine wp_world H7.out ?_
  have d0 : W7.cell? ⟨g4, 0, none⟩ = some (.int .i64 qk) := hr6.cell 0
  have d1 : W7.cell? ⟨g4, 1, none⟩ = some (.bool qf) := hr6.cell 1
  have d2 : W7.cell? ⟨g4, 2, none⟩ = some (.int .i64 qz) := hr6.cell 2
  have d3 : W7.cell? ⟨g4, 3, none⟩ = some (.string qd) := hr6.cell 3
  have d4 : W7.cell? ⟨g4, 4, none⟩ = some (.slice p4 qn.length c4) := hr6.cell 4
  have e0 : W7.cell? ⟨g6, 0, none⟩ = some (.int .i64 qk) := hr7.cell 0
  have e1 : W7.cell? ⟨g6, 1, none⟩ = some (.bool qf) := hr7.cell 1
  have e2 : W7.cell? ⟨g6, 2, none⟩ = some (.int .i64 qz) := hr7.cell 2
  have e3 : W7.cell? ⟨g6, 3, none⟩ = some (.string qd) := hr7.cell 3
  have e4 : W7.cell? ⟨g6, 4, none⟩ = some (.slice p6 qn.length c6) := hr7.cell 4
  clear H7 HB7 HZ7 Hg6 hr6 hr7 HX2 HX3 HX2' HX2'' HX3'' HX25 HX35 HX26 HX36 HSM
  rcases hGK with ⟨rfl, rfl⟩ | ⟨rfl, rfl⟩
  all_goals
    go_wp2_with (first | (go_at_call 24; refine HSM7.out.mono ?_; rintro e w8 ⟨rfl, hb8⟩; have HB8 := hid_in (HB7'.out.trans (hb8.mono HB7'.out.size)); clear hb8))
    go_ret
    exact ⟨rfl, HB8.out⟩
theorem results_any (r : Res) (vn : Value) (hok : r.ok) (bs : List Nat) (p : Option Addr) (cap b off : Nat) (w : World) (hst : Strs w vn r.names) (hsl : Sl w p bs cap b off) (hno : p = none → bs.length = 0 ∧ cap = 0) (hre : bs.length ≤ 140737488355328) :
    Calls Try.prog 7 #[r.val vn, .slice p bs.length cap] w fun e w' => e = .returned (.bool true) ∧ Below w.heap.size w w' := by
  obtain ⟨X, E, hE, _⟩ := pak_both r hok
  obtain ⟨q, G, K, hD, h⟩ := unp_both bs
  exact results_core r vn X E hE bs q G K hD (by rcases h with ⟨h1, h2, _⟩ | ⟨h1, h2, _⟩; exact .inl ⟨h1, h2⟩; exact .inr ⟨h1, h2⟩) p cap b off w hst hsl hno hre
end Go.Proofs.Ytjlhjpooggkkoaa.Nd
