/-
  put: over a list of one.
-/
import Derived.Test.YtokjbmpiekadaaaDoorK7
import Derived.Test.YtokjbmpiekadaaaDoorK10
namespace Go.Proofs.YtokjbmpiekadaaaDoor
open Go.RowKit
attribute [local go_sem ↓] run_load39 quiet_load39 wp_load39 Go.wp_at_zero Go.wp_at_succ
attribute [local go_sem] Is39_drewN rowOf_drewN Is39_drew rowOf_drew ptrB_pointer

set_option maxHeartbeats 1000000 in
set_option maxRecDepth 100000 in
theorem put_long (w : World) (g lb : Nat) (p : Option Addr) (len cap : Nat) (c0 : w.cell? ⟨lb, 0, none⟩ = some (.slice p len cap)) (hl : 4096 < len) :
    Calls Tryd.prog 29 #[.pointer (some ⟨g, 0, none⟩), .slice (some ⟨lb, 0, none⟩) 1 1] w fun e w' => e = .returned (.tuple #[.slice none 0 0, .int .i64 2]) ∧ w' = w := by
  have hc := hid_in (contains_one lb p len cap true (decide_eq_true hl) w c0)
  clear hl c0
  go_enter Tryd.func29, Tryd.ntmps29
  go_wp2_with (go_at_call 45; refine hc.out.mono ?_; rintro e w1 ⟨rfl, rfl⟩)
  go_ret2
  exact ⟨rfl, rfl⟩

set_option maxHeartbeats 1000000 in
set_option maxRecDepth 100000 in
theorem put_full {w : World} {g m n : Nat} {M : List Nat → Option (List Nat)} {q u : Int} (h : St w g m M n q u) (htab : Tab w) (bs : List Nat) (V : List Value) (HV : Hid (V = (Sha.sum bs).map u8v)) (lb : Nat) (p : Option Addr) (b off cap : Nat)
    (hs : Sl w p bs cap b off) (c0 : w.cell? ⟨lb, 0, none⟩ = some (.slice p bs.length cap)) (hl : bs.length ≤ 4096) (hu0 : 0 ≤ u) (huq : u ≤ q) (hq : q ≤ 9223372036854775807)
    (N : Int) (HN : Hid (N = if (M (Sha.sum bs)).isSome then 0 else (bs.length : Int))) (hfull : q - u < N) :
    Calls Tryd.prog 29 #[.pointer (some ⟨g, 0, none⟩), .slice (some ⟨lb, 0, none⟩) 1 1] w fun e w' => e = .returned (.tuple #[.slice none 0 0, .int .i64 3]) ∧ Below w.heap.size w w' := by
  have hc := hid_in (contains_one lb p bs.length cap false (decide_eq_false (by omega)) w c0)
  have HSUM := hid_in (sums_one bs V HV lb p b off cap w htab hs (by omega) c0)
  have HNEED : Hid (∀ w1, Below w.heap.size w w1 → Row w1 w.heap.size V 39 → Calls Tryd.prog 48 #[.pointer (some ⟨g, 0, none⟩), .slice (some ⟨lb, 0, none⟩) 1 1, .slice (some ⟨w.heap.size, 0, none⟩) 1 1] w1 fun e w' => e = .returned (.int .i64 N) ∧ Below w1.heap.size w1 w' ∧ w'.cell? ⟨g, 1, none⟩ = some (.int .i64 q) ∧ w'.cell? ⟨g, 2, none⟩ = some (.int .i64 u)) := by
    intro w1 hb1 hr1
    refine (need_any (h.below hb1) (Sha.sum bs) (sum_length bs) V HV lb w.heap.size hr1 p bs.length cap ((hb1.cell (p := ⟨lb, 0, none⟩) (World.block_lt_of_cell? w _ c0)).trans c0) (by omega)).mono ?_
    rintro e w2 ⟨rfl, hb2⟩
    have h2 := (h.below hb1).below hb2
    exact ⟨by rw [HN.out], hb2, h2.row.cell 1, h2.row.cell 2⟩
  clear h htab hs c0 hl HN HV
  go_enter Tryd.func29, Tryd.ntmps29
  go_wp2_with (first | (go_at_call 45; refine hc.out.mono ?_; rintro e w1 ⟨rfl, hw⟩; obtain rfl := hw.symm) | (go_at_call 47; refine HSUM.out.mono ?_; rintro e w1 ⟨rfl, hr1, hb1⟩) | (go_at_call 48; refine (HNEED.out _ hb1 hr1).mono ?_; rintro e w2 ⟨rfl, hb2, c1, c2⟩))
  go_quiet (fail)
  go_wp2
  go_ret2
  exact ⟨rfl, below_drewN (hb1.trans (hb2.mono hb1.size)) _⟩

theorem St.setU {w : World} {g m n : Nat} {M : List Nat → Option (List Nat)} {q u : Int} (h : St w g m M n q u) (u' : Int) : St (w.setCell ⟨g, 2, none⟩ (.int .i64 u')) g m M n q u' := by
  have hne := h.ne
  refine ⟨h.row.set_same 2 _, ?_⟩
  obtain ⟨V, hV, h1, h2⟩ := h.map
  refine ⟨V, hV.of_block (Below.heap_setCell _ _ _ _ (fun e => hne e.symm)), fun d bs hd => ?_, h2⟩
  obtain ⟨v, hv, hb⟩ := h1 d bs hd
  exact ⟨v, hv, hb.kp (Kp.of_g (grownBy_setCell w ⟨g, 2, none⟩ _))⟩
theorem Sl.off_st {w : World} {g m n : Nat} {M : List Nat → Option (List Nat)} {q u : Int} (h : St w g m M n q u) {p : Option Addr} {bs : List Nat} {cap b off : Nat} (hs : Sl w p bs cap b off) (h0 : 0 < bs.length) : b ≠ g ∧ b ≠ m := by
  have hc := hs.src 0 h0
  constructor
  · rintro rfl
    rw [h.row.cell] at hc
    have hlt : off + 0 < 3 := by
      have := (List.getElem?_eq_some_iff.1 hc).1
      simpa using this
    rcases (show off = 0 ∨ off = 1 ∨ off = 2 by omega) with rfl | rfl | rfl <;> simp [u8v] at hc
  · rintro rfl
    obtain ⟨V, ⟨es, c, hb, _⟩, _⟩ := h.map
    simp [World.cell?, hb] at hc
set_option maxHeartbeats 1000000 in
set_option maxRecDepth 100000 in
theorem put_ok {w : World} {g m n : Nat} {M : List Nat → Option (List Nat)} {q u : Int} (h : St w g m M n q u) (htab : Tab w) (bs : List Nat) (V : List Value) (HV : Hid (V = (Sha.sum bs).map u8v)) (lb : Nat) (p : Option Addr) (b off cap : Nat)
    (hs : Sl w p bs cap b off) (hpn : p = none → bs.length = 0 ∧ cap = 0) (c0 : w.cell? ⟨lb, 0, none⟩ = some (.slice p bs.length cap)) (hl : bs.length ≤ 4096) (hu0 : 0 ≤ u) (huq : u ≤ q) (hq : q ≤ 9223372036854775807)
    (N : Int) (HN : Hid (N = if (M (Sha.sum bs)).isSome then 0 else (bs.length : Int))) (hfull : N ≤ q - u) (hN0 : 0 ≤ N) (n' : Nat) (HN' : Hid (n' = if (M (Sha.sum bs)).isSome then n else n + 1)) :
    Calls Tryd.prog 29 #[.pointer (some ⟨g, 0, none⟩), .slice (some ⟨lb, 0, none⟩) 1 1] w fun e w' => e = .returned (.tuple #[.slice (some ⟨w.heap.size, 0, none⟩) 1 1, .int .i64 0]) ∧ Row w' w.heap.size V 39 ∧ St w' g m (updM M (Sha.sum bs) bs) n' q (u + N) ∧ Kp g m w w' := by
  have hc := hid_in (contains_one lb p bs.length cap false (decide_eq_false (by omega)) w c0)
  have HSUM := hid_in (sums_one bs V HV lb p b off cap w htab hs (by omega) c0)
  have HNEED : Hid (∀ w1, Below w.heap.size w w1 → Row w1 w.heap.size V 39 → Calls Tryd.prog 48 #[.pointer (some ⟨g, 0, none⟩), .slice (some ⟨lb, 0, none⟩) 1 1, .slice (some ⟨w.heap.size, 0, none⟩) 1 1] w1 fun e w' => e = .returned (.int .i64 N) ∧ Below w1.heap.size w1 w' ∧ w'.cell? ⟨g, 1, none⟩ = some (.int .i64 q) ∧ w'.cell? ⟨g, 2, none⟩ = some (.int .i64 u)) := by
    intro w1 hb1 hr1
    refine (need_any (h.below hb1) (Sha.sum bs) (sum_length bs) V HV lb w.heap.size hr1 p bs.length cap ((hb1.cell (p := ⟨lb, 0, none⟩) (World.block_lt_of_cell? w _ c0)).trans c0) (by omega)).mono ?_
    rintro e w2 ⟨rfl, hb2⟩
    have h2 := (h.below hb1).below hb2
    exact ⟨by rw [HN.out], hb2, h2.row.cell 1, h2.row.cell 2⟩
  have hvl : V.length = 32 := by rw [HV.out, List.length_map, sum_length]
  have hv1 : ∀ v ∈ V, v.oneCell' = true := by rw [HV.out]; exact one_u8 _
  have HVL := hid_in hvl
  have HV1 := hid_in hv1
  obtain ⟨Z, hz, hzl⟩ := zero39
  have HZL := hid_in hzl
  have HST := hid_in h
  have HS := hid_in hs
  have HPN := hid_in hpn
  have HC0 := hid_in c0
  have HL := hid_in hl
  clear h htab hs c0 hl HN hpn hvl hv1 hzl
  go_enter Tryd.func29, Tryd.ntmps29
  go_wp2_with (first | (go_at_call 45; refine hc.out.mono ?_; rintro e w1 ⟨rfl, hw⟩; obtain rfl := hw.symm) | (go_at_call 47; refine HSUM.out.mono ?_; rintro e w1 ⟨rfl, hr1, hb1⟩) | (go_at_call 48; refine (HNEED.out _ hb1 hr1).mono ?_; rintro e w2 ⟨rfl, hb2, c1, c2⟩))
  go_quiet (fail)
  obtain ⟨W, HW⟩ : ∃ W, Hid (w2.drewN nq = W) := ⟨_, rfl⟩
  have hbW : Below w.heap.size w W := by rw [← HW.out]; exact below_drewN (hb1.trans (hb2.mono hb1.size)) _
  have hrW : Row W w.heap.size V 39 := by rw [← HW.out]; exact (hr1.below hb2 hr1.lt).drewN _
  go_wp2
  refine wp_world HW.out ?_
  clear hc HSUM HNEED HW hr1 hb1 hb2 c1 c2
  refine wp_loop_rounds 2 ?_
  rw [rounds_succ]
  have HBW := hid_in hbW
  clear hbW
  go_wp2_with (first | (refine wpList_load_Row rfl 39 _ rfl w.heap.size rfl 39 _ hrW _ Tryd.underlying39 rfl 32 info39 HVL.out ?_) | (refine wpList_store_Row rfl 39 _ _ rfl W.heap.size 0 V rfl rfl 39 Z (Row.newAt W _ Z 39 rfl) 32 info39 HVL.out (by rw [HZL.out]; decide) HV1.out ?_; intro w7 hr7 hg7 hs7; rw [splice_all _ _ (by rw [HVL.out, HZL.out])] at hr7))
  have hbW7 : Below W.heap.size W w7 := below_of_grown ((Below.refl _ _).alloc (Nat.le_refl _) _) hg7 (by simp) (Nat.le_refl _)
  have hb7 : Below w.heap.size w w7 := HBW.out.trans (hbW7.mono HBW.out.size)
  have hI : Is39 w7 W.heap.size := ⟨V, hr7, HVL.out⟩
  have hR := rowOf_row hr7
  have c07 : w7.cell? ⟨lb, 0, none⟩ = some (.slice p bs.length cap) := (hb7.cell (p := ⟨lb, 0, none⟩) (World.block_lt_of_cell? w _ HC0.out)).trans HC0.out
  have HLAY := hid_in (lay_any ((HST.out.below hb7).drewN 1) (Sha.sum bs) (sum_length bs) V HV bs p cap b off ((HS.out.below hb7).below (below_drewN (Below.refl _ _) 1)) HPN.out (by have := HL.out; omega))
  rw [← HN'.out] at HLAY
  have HR0 := hid_in (hrW.below hbW7 hrW.lt)
  have HB7 := hid_in hb7
  have HLT := hid_in (show w.heap.size ≠ g ∧ w.heap.size ≠ m by have := HST.out.glt; have := HST.out.mlt; omega)
  clear hbW7 hb7 hr7 hg7 hs7 hrW hz HS HPN HC0 HL HV1 HZL HST
  go_region_with (first | (go_at_call 49; refine HLAY.out.mono ?_; rintro e w8 ⟨rfl, hst8, hk8⟩; have HST8 := hid_in hst8; have HK8 := hid_in hk8; have c2 : w8.cell? ⟨g, 2, none⟩ = some (.int .i64 u) := hst8.row.cell 2; have f2 : w8.frozen? ⟨g, 2, none⟩ = false := hst8.row.frozen 2; clear hst8 hk8))
  all_goals
    go_wp2
    rw [rounds_succ]
    go_wp2
    go_ret2
    have hk : Kp g m w w8 := (Kp.of_below HB7.out).trans ((Kp.of_below (below_drewN (Below.refl _ _) 1)).trans HK8.out)
    have hkg := Kp.of_g (g := g) (m := m) (grownBy_setCell w8 ⟨g, 2, none⟩ (.int .i64 (u + N)))
    exact ⟨rfl, hkg.row (HK8.out.row (HR0.out.drewN 1) HLT.out.1 HLT.out.2) HLT.out.1 HLT.out.2, HST8.out.setU _, hk.trans hkg⟩
end Go.Proofs.YtokjbmpiekadaaaDoor
