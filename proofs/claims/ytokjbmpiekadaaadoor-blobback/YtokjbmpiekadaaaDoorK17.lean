/-
  Spoil.
-/
import Derived.Test.YtokjbmpiekadaaaDoorK7
import Derived.Test.YtokjbmpiekadaaaDoorK11
namespace Go.Proofs.YtokjbmpiekadaaaDoor
open Go.RowKit
attribute [local go_sem ↓] run_load39 quiet_load39 wp_load39 Go.wp_at_zero Go.wp_at_succ
attribute [local go_sem] Is39_drewN rowOf_drewN Is39_drew rowOf_drew ptrB_pointer

theorem xor8 (x y : Nat) (hx : x < 256) (hy : y < 256) : bits .xor .u8 (x : Int) (y : Int) = ((x ^^^ y : Nat) : Int) := u8_xor_nat x y hx hy
theorem spoil_cell {w : World} {b : Nat} {vs : List Value} {bs : List Nat} {i : Nat} (hr : Row w b vs 5) (ht : vs.take bs.length = bs.map u8v) (hi : i < bs.length) : w.cell? ⟨b, i, none⟩ = some (.int .u8 ((bs.getD i 0 : Nat) : Int)) := by
  have h1 : (vs.take bs.length)[i]? = some (u8v (bs.getD i 0)) := by rw [ht]; simp [hi]
  rw [List.getElem?_take_of_lt hi] at h1
  rw [hr.cell, h1]
  rfl
set_option maxHeartbeats 400000 in
set_option maxRecDepth 100000 in
/-- a clone of some bytes: its row is known whole -/
theorem clone_row (bs : List Nat) (ad : Addr) (cap b off : Nat) (w : World) (hs : Sl w (some ad) bs cap b off) (h0 : 0 < bs.length) (hre : bs.length ≤ 140737488355328) :
    Calls Tryd.prog 39 #[.slice (some ad) bs.length cap] w fun e w' => ∃ cap' b' vs, e = .returned (.slice (some ⟨b', 0, none⟩) bs.length cap') ∧ Row w' b' vs 5 ∧ vs.take bs.length = bs.map u8v ∧ bs.length ≤ cap' ∧ cap' ≤ 9223372036854775807 ∧ w.heap.size ≤ b' ∧ Below w.heap.size w w' := by
  have hpn : some ad = none → bs.length = 0 ∧ cap = 0 := fun h => by cases h
  have H0 := hid_in h0
  clear h0
  obtain ⟨i5i, hi5, he5⟩ := Option.map_eq_some_iff.1 i5
  simp only [Prod.mk.injEq] at he5
  obtain ⟨e1, e2, e3⟩ := he5
  have HI5 : Hid (Tryd.prog.info? 5 = some i5i) := hi5
  have HE1 : Hid (i5i.size = 1) := e1
  have HE2 : Hid (i5i.bytes = 1) := e2
  have HE3 : Hid (i5i.zero = some (.int .u8 0)) := e3
  clear hi5 e1 e2 e3
  have hown0 : (w.alloc (.cells #[] 5)).ownsRow w.heap.size 5 1 (.slice (some ⟨w.heap.size, 0, none⟩) 0 0) 0 [] :=
    World.ownsRow_made (base := w.heap.size) (e := 5) (size := 1) w #[] 0 (Nat.le_refl _) (by simp) rfl
  have hb0 : Below w.heap.size w (w.alloc (.cells #[] 5)) := (Below.refl _ _).alloc (Nat.le_refl _) _
  have hBs : w.heap.size ≤ (w.alloc (.cells #[] 5)).heap.size := by simp
  have hsrc0 : ∀ ad', some ad = some ad' → ∀ j u, (bs.map u8v)[j]? = some u → (w.alloc (.cells #[] 5)).cell? (ad'.add j) = some u := by
    intro ad' had j u hu
    cases had
    have hj : j < bs.length := by simpa using (List.getElem?_eq_some_iff.1 hu).1
    obtain rfl : ad = ⟨b, off, none⟩ := by have := hs.at_ (by omega); exact Option.some.inj this
    have hc := hs.src j hj
    have hlt := World.block_lt_of_cell? w _ hc
    rw [Addr.add_mid, hb0.cell hlt, hc]
    simp [hj] at hu
    rw [← hu]
    simp [hj]
  have hl0 : (bs.map u8v).length = bs.length := by simp
  have hfit0 : 0 + bs.length ≤ 140737488355328 := by omega
  have HS := hid_in hs.lt
  have HF0 := hid_in hfit0
  have hn := nil_no ad
  clear hs hre hfit0
  go_enter Tryd.func39, Tryd.ntmps39
  go_wp2_with (first | (at_builtin; refine wpList_append_any rfl _ _ 30 rfl w.heap.size 5 i5i (.int .u8 0) Tryd.underlying30 HI5.out HE3.out HE1.out HE2.out rfl _ 0 [] rfl hown0 (some ad) bs.length cap (bs.map u8v) rfl hl0 hpn hsrc0 (one_u8 bs) HF0.out hBs ?_; intro v1 w1 hown1 hg1; have hb1 := own_step hb0 hg1 hBs rfl hown0; rw [Nat.zero_add, List.nil_append] at hown1))
  obtain ⟨hl, ⟨rfl, hx⟩ | ⟨g1, cap1, cur, rfl, hb, hg, h1, h2, h3, h4⟩⟩ := hown1
  · exact absurd hx (by have := H0.out; omega)
  · go_ret
    refine ⟨cap1, g1, cur.toList, rfl, by unfold Row; simpa using hg, by simpa using h4, h1, by unfold maxLen at h2; omega, hb, hb1⟩
set_option maxHeartbeats 1000000 in
set_option maxRecDepth 100000 in
theorem Spoil_ok {w : World} {g m n : Nat} {M : List Nat → Option (List Nat)} {q u : Int} (h : St w g m M n q u) (d : List Nat) (hd : d.length = 32) (V : List Value) (HV : Hid (V = d.map u8v)) (bs : List Nat) (hM : M d = some bs)
    (at_ turn : Nat) (hat : at_ < bs.length) (ht0 : turn ≠ 0) (ht : turn < 256) (hre : bs.length ≤ 140737488355328) :
    Calls Tryd.prog 22 #[.pointer (some ⟨g, 0, none⟩), .agg V.toArray, .int .i64 (at_ : Int), .int .u8 (turn : Int)] w fun e w' => e = .returned (.int .i64 0) ∧ St w' g m (updM M d (bs.set at_ (bs.getD at_ 0 ^^^ turn))) n q u ∧ Kp g m w w' := by
  have hs := h.alloc (.cells V.toArray 39)
  have hvl : V.length = 32 := by rw [HV.out]; simpa using hd
  have hr := Row.newAt w _ V 39 rfl
  have hb0 : Below w.heap.size w (w.alloc (.cells V.toArray 39)) := (Below.refl _ _).alloc (Nat.le_refl _) _
  have HB0 := hid_in hb0
  have hf := find_some hs d hd V HV bs hM
  have HS := hid_in hs
  have HD := hid_in hd
  have HM := hid_in hM
  have HRE := hid_in hre
  have k1 : (at_ : Int) < (bs.length : Int) := by omega
  have k2 : ((turn : Int) == 0) = false := by rw [beq_eq_false_iff_ne]; omega
  have HAT := hid_in hat
  have HT := hid_in ht
  clear h hM hs hd hb0 hre hat ht0 ht
  obtain ⟨x, HX⟩ : ∃ x, Hid (x = bs.getD at_ 0) := ⟨_, rfl⟩
  obtain ⟨y, HY⟩ : ∃ y, Hid (y = x ^^^ turn) := ⟨_, rfl⟩
  go_enter Tryd.func22, Tryd.ntmps22
  go_wp2_with (first | (refine wpList_load_Row rfl 39 _ rfl w.heap.size rfl 39 _ hr _ Tryd.underlying39 rfl 32 info39 hvl ?_) | (go_at_call 26; refine hf.mono ?_; rintro e w1 ⟨hb1, p, cap, b, off, rfl, hs1, hp1, hn1⟩; obtain ⟨ad, rfl⟩ : ∃ ad, p = some ad := ⟨_, hs1.at_ (by have := HAT.out; omega)⟩; have HS1 := hid_in (hs1.below hb1); have HB1 := hid_in hb1; clear hs1 hp1 hn1 hb1 hf) | (go_at_call 39; refine (clone_row bs ad cap b off w1 HS1.out (by have := HAT.out; omega) HRE.out).mono ?_; rintro e w2 ⟨cap2, b2, vs, rfl, hr2, htk, hc1, hc2, hB2, hb2⟩; have c2 : w2.cell? ⟨b2, at_, none⟩ = some (.int .u8 (x : Int)) := (by rw [HX.out]; exact spoil_cell hr2 htk HAT.out); have f2 := hr2.frozen at_; have hxor : bits .xor .u8 (x : Int) (turn : Int) = (y : Int) := (by rw [HY.out, HX.out]; exact xor8 (bs.getD at_ 0) turn (getD_lt HS1.out.lt at_) HT.out); have HR2 := hid_in hr2; have HTK := hid_in htk; have HC1 := hid_in hc1; have HC2 := hid_in hc2; have HBB := hid_in hB2; have HB2 := hid_in hb2; clear hr2 htk hc1 hc2 hB2 hb2))
  obtain ⟨W, HW⟩ : ∃ W, Hid (w2.setCell ⟨b2, at_, none⟩ (.int .u8 (y : Int)) = W) := ⟨_, rfl⟩
  refine wp_world HW.out ?_
  have hbW : Below w1.heap.size w1 W := by rw [← HW.out]; exact HB2.out.setCell HBB.out _
  have hrW : Row W b2 (vs.set at_ (u8v y)) 5 := by rw [← HW.out]; exact HR2.out.set_same at_ _
  have hstW := (HS.out.below HB1.out).below hbW
  have hrowW := (hr.below HB1.out hr.lt).below hbW (hr.below HB1.out hr.lt).lt
  have hx8 : x < 256 := by rw [HX.out]; exact getD_lt HS1.out.lt at_
  have hy8 : y < 256 := by rw [HY.out]; exact Nat.xor_lt_two_pow (n := 8) hx8 HT.out
  have hbs : Bs W g m (.slice (some ⟨b2, 0, none⟩) bs.length cap2) (bs.set at_ y) := by
    refine ⟨_, cap2, b2, 0, by rw [List.length_set], ⟨?_, by rw [List.length_set]; exact HC1.out, HC2.out, fun _ => rfl, fun j hj => ?_⟩, fun h => (by cases h), fun _ => ⟨?_, ?_, _, _, hrW⟩⟩
    · intro z hz
      rcases List.mem_or_eq_of_mem_set hz with hz | rfl
      · exact HS1.out.lt z hz
      · exact hy8
    · rw [List.length_set] at hj
      rw [Nat.zero_add, hrW.cell]
      by_cases hc : at_ = j
      · subst hc
        have hlv : at_ < vs.length := by
          have := congrArg List.length HTK.out
          simp at this
          omega
        rw [List.getElem?_set_self hlv]
        simp [hj]
      · have h1 : (vs.take bs.length)[j]? = some (u8v (bs.getD j 0)) := by rw [HTK.out]; simp [hj]
        rw [List.getElem?_take_of_lt hj] at h1
        rw [List.getElem?_set_ne hc, h1]
        simp [hc]
    · have := (HS.out.below HB1.out).glt; have := HBB.out; omega
    · have := (HS.out.below HB1.out).mlt; have := HBB.out; omega
  have hstd : St W.drew g m M n q u := hstW.drewN 1
  obtain ⟨w3, hup, hst3, hk3⟩ := hstd.put d HD.out V HV _ _ (hbs.kp (Kp.of_below (below_drewN (Below.refl W.heap.size W) 1)))
  rw [HM.out] at hst3
  have c0 : W.cell? ⟨g, 0, none⟩ = some (.map (some m)) := hstW.row.cell 0
  have hI : Is39 W w.heap.size := ⟨V, hrowW, hvl⟩
  have hR := rowOf_row hrowW
  have HST3 := hid_in hst3
  have HK3 := hid_in hk3
  have HBW := hid_in hbW
  clear hbW hrW hstW hrowW hbs hstd hst3 hk3 c2 f2 hxor hr hvl hx8 hy8
  go_region
  all_goals
    go_wp2
    go_ret
    refine ⟨rfl, ?_, (Kp.of_below (HB0.out.trans ((HB1.out.trans (HBW.out.drew.mono HB1.out.size)).mono (by simp)))).trans HK3.out⟩
    have h3 := HST3.out
    rw [HY.out, HX.out] at h3
    exact h3
set_option maxHeartbeats 1000000 in
set_option maxRecDepth 100000 in
theorem Spoil_arg {w : World} {g m n : Nat} {M : List Nat → Option (List Nat)} {q u : Int} (h : St w g m M n q u) (d : List Nat) (hd : d.length = 32) (V : List Value) (HV : Hid (V = d.map u8v)) (bs : List Nat) (hM : M d = some bs)
    (at_ turn : Int) (hc : at_ < 0 ∨ (bs.length : Int) ≤ at_ ∨ turn = 0) :
    Calls Tryd.prog 22 #[.pointer (some ⟨g, 0, none⟩), .agg V.toArray, .int .i64 at_, .int .u8 turn] w fun e w' => e = .returned (.int .i64 1) ∧ Below w.heap.size w w' := by
  have hs := h.alloc (.cells V.toArray 39)
  have hvl : V.length = 32 := by rw [HV.out]; simpa using hd
  have hr := Row.newAt w _ V 39 rfl
  have hb0 : Below w.heap.size w (w.alloc (.cells V.toArray 39)) := (Below.refl _ _).alloc (Nat.le_refl _) _
  have HB0 := hid_in hb0
  have hf := hid_in (find_some hs d hd V HV bs hM)
  clear h hM hs hd hb0 HV
  by_cases h1 : at_ < 0
  · clear hc
    go_enter Tryd.func22, Tryd.ntmps22
    go_wp2_with (first | (refine wpList_load_Row rfl 39 _ rfl w.heap.size rfl 39 _ hr _ Tryd.underlying39 rfl 32 info39 hvl ?_) | (go_at_call 26; refine hf.out.mono ?_; rintro e w1 ⟨hb1, p, cap, b, off, rfl, hs1, hp1, hn1⟩; have HB1 := hid_in hb1; clear hs1 hp1 hn1 hb1 hf))
    go_ret
    exact ⟨rfl, HB0.out.trans (HB1.out.mono (by simp))⟩
  · by_cases h2 : (bs.length : Int) ≤ at_
    · clear hc
      have h3 : 0 ≤ at_ := by omega
      go_enter Tryd.func22, Tryd.ntmps22
      go_wp2_with (first | (refine wpList_load_Row rfl 39 _ rfl w.heap.size rfl 39 _ hr _ Tryd.underlying39 rfl 32 info39 hvl ?_) | (go_at_call 26; refine hf.out.mono ?_; rintro e w1 ⟨hb1, p, cap, b, off, rfl, hs1, hp1, hn1⟩; have HB1 := hid_in hb1; clear hs1 hp1 hn1 hb1 hf))
      go_ret
      exact ⟨rfl, HB0.out.trans (HB1.out.mono (by simp))⟩
    · obtain rfl : turn = 0 := by omega
      have h3 : 0 ≤ at_ := by omega
      have h4 : at_ < (bs.length : Int) := by omega
      clear hc
      go_enter Tryd.func22, Tryd.ntmps22
      go_wp2_with (first | (refine wpList_load_Row rfl 39 _ rfl w.heap.size rfl 39 _ hr _ Tryd.underlying39 rfl 32 info39 hvl ?_) | (go_at_call 26; refine hf.out.mono ?_; rintro e w1 ⟨hb1, p, cap, b, off, rfl, hs1, hp1, hn1⟩; have HB1 := hid_in hb1; clear hs1 hp1 hn1 hb1 hf))
      go_ret
      exact ⟨rfl, HB0.out.trans (HB1.out.mono (by simp))⟩
end Go.Proofs.YtokjbmpiekadaaaDoor
