/-
  The walk of sha.schedule: the words of a block.
-/
import Derived.Test.YtokjbmpiekadaaaDoorWords
import Derived.Test.YtokjbmpiekadaaaDoorLaws
import Derived.BigQuiet
import Derived.BigRegion
import Derived.Deep.MidRow
import Derived.Deep.Light
namespace Go.Proofs.YtokjbmpiekadaaaDoor
open Go.RowKit

theorem wl_step0 (bl : List Nat) (t : Nat) (h : t < 16) : Sha.wl bl (t + 1) = Sha.wl bl t ++ [Sha.word0 bl t] := by simp [Sha.wl, h]
theorem wl_step1 (bl : List Nat) (t : Nat) (h : 16 ≤ t) : Sha.wl bl (t + 1) = Sha.wl bl t ++ [Sha.wnext (Sha.wl bl t) t] := by
  have : ¬ t < 16 := by omega
  simp [Sha.wl, this]
theorem wnext_form (y2 y7 y15 y16 : Nat) : ((Sha.s1 y2 : Int) + (y7 : Int) + (Sha.s0 y15 : Int) + (y16 : Int)) % 4294967296 = (((Sha.s1 y2 + y7 + Sha.s0 y15 + y16) % 4294967296 : Nat) : Int) := by simp

set_option maxHeartbeats 1000000 in
theorem schedule_any (bl : List Nat) (hl : bl.length = 64) (hby : ∀ x ∈ bl, x < 256) (w : World) :
    Calls Tryd.prog 69 #[.agg (bl.map u8v).toArray] w fun e w' => e = .returned (.agg ((Sha.wl bl 64).map u32v).toArray) ∧ Below w.heap.size w w' := by
  go_enter Tryd.func69, Tryd.ntmps69
  go_wp2_with fail
  go_loopw [10] (fun i w' => ∃ (t : Nat) (cs : List Nat), t ≤ 16 ∧ i = .int .i64 (t : Int) ∧ cs.length = 64 ∧ cs.take t = Sha.wl bl t ∧ Row w' w.heap.size (bl.map u8v) 103 ∧ Row w' (w.heap.size + 1) ((List.replicate 64 0).map u32v) 69 ∧ Row w' (w.heap.size + 1 + 1) (cs.map u32v) 69 ∧ Below w.heap.size w w') (fun i _ => 16 - (intOf i).toNat)
  case atStart =>
    refine ⟨0, List.replicate 64 0, by omega, rfl, rfl, rfl, ?_, ?_, ?_, ?_⟩
    · exact ((Row.new w _ 103).alloc _).alloc _
    · exact (Row.newAt (w.alloc _) (w.heap.size + 1) ((List.replicate 64 0).map u32v) 69 (by simp)).alloc _
    · exact Row.newAt ((w.alloc _).alloc _) (w.heap.size + 1 + 1) ((List.replicate 64 0).map u32v) 69 (by simp)
    · exact ((((Below.refl _ _).alloc (Nat.le_refl _) _).alloc (by simp) _).alloc (by simp; omega) _)
  case round =>
    obtain ⟨t, cs, ht, rfl, hc, htk, hb1, hb2, hb3, hbel⟩ := hrel
    by_cases hlt : t < 16
    · have c0 : wr.cell? ⟨w.heap.size, 4 * t, none⟩ = some (.int .u8 ((bl.getD (4 * t) 0 : Nat) : Int)) := hb1.cellMap (4 * t) (by omega)
      have c1 : wr.cell? ⟨w.heap.size, 4 * t + 1, none⟩ = some (.int .u8 ((bl.getD (4 * t + 1) 0 : Nat) : Int)) := hb1.cellMap (4 * t + 1) (by omega)
      have c2 : wr.cell? ⟨w.heap.size, 4 * t + 2, none⟩ = some (.int .u8 ((bl.getD (4 * t + 2) 0 : Nat) : Int)) := hb1.cellMap (4 * t + 2) (by omega)
      have c3 : wr.cell? ⟨w.heap.size, 4 * t + 3, none⟩ = some (.int .u8 ((bl.getD (4 * t + 3) 0 : Nat) : Int)) := hb1.cellMap (4 * t + 3) (by omega)
      have c4 : wr.cell? ⟨w.heap.size + 1 + 1, t, none⟩ = some (.int .u32 ((cs.getD t 0 : Nat) : Int)) := hb3.cellMap t (by omega)
      have c5 := hb3.frozen t
      have b0 : bl.getD (4 * t) 0 < 256 := getD_lt hby _
      have b1 : bl.getD (4 * t + 1) 0 < 256 := getD_lt hby _
      have b2 : bl.getD (4 * t + 2) 0 < 256 := getD_lt hby _
      have b3 : bl.getD (4 * t + 3) 0 < 256 := getD_lt hby _
      have hw0 : Hid (Sha.word0 bl t = bl.getD (4 * t) 0 * 16777216 + bl.getD (4 * t + 1) 0 * 65536 + bl.getD (4 * t + 2) 0 * 256 + bl.getD (4 * t + 3) 0) := rfl
      generalize bl.getD (4 * t) 0 = x0 at c0 b0 hw0
      generalize bl.getD (4 * t + 1) 0 = x1 at c1 b1 hw0
      generalize bl.getD (4 * t + 2) 0 = x2 at c2 b2 hw0
      generalize bl.getD (4 * t + 3) 0 = x3 at c3 b3 hw0
      generalize cs.getD t 0 = x4 at c4
      go_wp2
      go_region
      go_wp2
      go_roundw
      case rel =>
        go_light
        rw [word0_form x0 x1 x2 x3 b0 b1 b2 b3, ← hw0.out]
        refine ⟨t + 1, cs.set t (Sha.word0 bl t), by omega, by go_num, by simpa using hc, ?_, ?_, ?_, ?_, ?_⟩
        · rw [take_set_succ _ (by omega), wl_step0 bl t hlt, htk]
        · exact (hb1.set_other _ _ (by simp; omega)).drew
        · exact (hb2.set_other _ _ (by simp)).drew
        · rw [List.map_set]; exact (hb3.set_same t _).drew
        · exact (hbel.setCell (by simp; omega) _).drew
      case measure => simp [intOf]; omega
    · obtain rfl : t = 16 := by omega
      clear hlt ht
      go_wp2_with fail
      go_loopw [5] (fun i w' => ∃ (t : Nat) (cs : List Nat), 16 ≤ t ∧ t ≤ 64 ∧ i = .int .i64 (t : Int) ∧ cs.length = 64 ∧ cs.take t = Sha.wl bl t ∧ Row w' (w.heap.size + 1) ((List.replicate 64 0).map u32v) 69 ∧ Row w' (w.heap.size + 1 + 1) (cs.map u32v) 69 ∧ Below w.heap.size w w') (fun i _ => 64 - (intOf i).toNat)
      case atStart => exact ⟨16, cs, by omega, by omega, rfl, hc, htk, hb2, hb3, hbel⟩
      case round =>
        clear hb1 hb2 hb3 hbel hc htk
        obtain ⟨t, cs, ht0, ht, rfl, hc, htk, hb2, hb3, hbel⟩ := hrel
        by_cases hlt : t < 64
        · have hwl := wl_lt bl hby t
          have c0 : wr.cell? ⟨w.heap.size + 1 + 1, t - 15, none⟩ = some (.int .u32 (((Sha.wl bl t).getD (t - 15) 0 : Nat) : Int)) := by
            rw [← htk, getD_take (by omega)]; exact hb3.cellMap (t - 15) (by omega)
          have c1 : wr.cell? ⟨w.heap.size + 1 + 1, t - 2, none⟩ = some (.int .u32 (((Sha.wl bl t).getD (t - 2) 0 : Nat) : Int)) := by
            rw [← htk, getD_take (by omega)]; exact hb3.cellMap (t - 2) (by omega)
          have c2 : wr.cell? ⟨w.heap.size + 1 + 1, t - 7, none⟩ = some (.int .u32 (((Sha.wl bl t).getD (t - 7) 0 : Nat) : Int)) := by
            rw [← htk, getD_take (by omega)]; exact hb3.cellMap (t - 7) (by omega)
          have c3 : wr.cell? ⟨w.heap.size + 1 + 1, t - 16, none⟩ = some (.int .u32 (((Sha.wl bl t).getD (t - 16) 0 : Nat) : Int)) := by
            rw [← htk, getD_take (by omega)]; exact hb3.cellMap (t - 16) (by omega)
          have c4 : wr.cell? ⟨w.heap.size + 1 + 1, t, none⟩ = some (.int .u32 ((cs.getD t 0 : Nat) : Int)) := hb3.cellMap t (by omega)
          have c5 := hb3.frozen t
          have b0 : (Sha.wl bl t).getD (t - 15) 0 < 4294967296 := getD_lt hwl _
          have b1 : (Sha.wl bl t).getD (t - 2) 0 < 4294967296 := getD_lt hwl _
          have b2 : (Sha.wl bl t).getD (t - 7) 0 < 4294967296 := getD_lt hwl _
          have b3 : (Sha.wl bl t).getD (t - 16) 0 < 4294967296 := getD_lt hwl _
          have hw0 : Hid (Sha.wnext (Sha.wl bl t) t = (Sha.s1 ((Sha.wl bl t).getD (t - 2) 0) + (Sha.wl bl t).getD (t - 7) 0 + Sha.s0 ((Sha.wl bl t).getD (t - 15) 0) + (Sha.wl bl t).getD (t - 16) 0) % 4294967296) := rfl
          have htk' : Hid (cs.take t = Sha.wl bl t) := htk
          clear hwl htk
          generalize (Sha.wl bl t).getD (t - 15) 0 = y15 at c0 b0 hw0
          generalize (Sha.wl bl t).getD (t - 2) 0 = y2 at c1 b1 hw0
          generalize (Sha.wl bl t).getD (t - 7) 0 = y7 at c2 b2 hw0
          generalize (Sha.wl bl t).getD (t - 16) 0 = y16 at c3 b3 hw0
          generalize cs.getD t 0 = y0 at c4
          have f0 := s0_form y15 b0
          have f1 := s1_form y2 b1
          go_wp2_with fail
          go_quiet (fail)
          go_wp2_with fail
          refine (right_at y15 7 7 rfl b0 (by omega) (by omega) _).mono ?_
          rintro e w' ⟨rfl, rfl⟩
          go_wp2_with fail
          refine (right_at y15 18 18 rfl b0 (by omega) (by omega) _).mono ?_
          rintro e w' ⟨rfl, rfl⟩
          go_wp2_with fail
          refine (right_at y2 17 17 rfl b1 (by omega) (by omega) _).mono ?_
          rintro e w' ⟨rfl, rfl⟩
          go_wp2_with fail
          refine (right_at y2 19 19 rfl b1 (by omega) (by omega) _).mono ?_
          rintro e w' ⟨rfl, rfl⟩
          go_wp2_with fail
          go_region
          go_wp2
          go_roundw
          case rel =>
            go_light
            (repeat apply Exists.intro)
            refine ⟨?r, rfl⟩
            rw [wnext_form y2 y7 y15 y16, ← hw0.out]
            refine ⟨t + 1, cs.set t (Sha.wnext (Sha.wl bl t) t), by omega, by omega, by go_num, by simpa using hc, ?_, ?_, ?_, ?_⟩
            · rw [take_set_succ _ (by omega), wl_step1 bl t ht0, htk'.out]
            · exact (hb2.drewN _).set_other _ _ (by simp)
            · rw [List.map_set]; exact (hb3.drewN _).set_same t _
            · exact (below_drewN hbel _).setCell (by simp; omega) _
          case measure => simp [intOf]; omega
        · obtain rfl : t = 64 := by omega
          have htk' : Hid (cs = Sha.wl bl 64) := by show cs = _; rw [← htk, List.take_of_length_le (by omega)]
          clear htk ht ht0 hlt
          go_wp2_with (first | (refine wpList_load_Row rfl 69 _ rfl (w.heap.size + 1 + 1) rfl 69 _ hb3 _ Tryd.underlying69 rfl 64 info69 (by simp [hc]) ?_) | (refine wpList_store_Row rfl 69 _ _ rfl (w.heap.size + 1) 0 (cs.map u32v) rfl rfl 69 _ hb2 64 info69 (by simp [hc]) (by simp) (one_u32 cs) ?_; intro w1 hr1 hg1 hs1))
          go_outline
          refine post_Row 2 69 Tryd.results69 (w.heap.size + 1) rfl 69 _ hr1 _ Tryd.underlying69 rfl 64 info69 (by simp [splice_all, hc]) rfl ⟨?_, below_of_grown hbel hg1 (by have := hbel.size; omega) (by omega)⟩
          rw [splice_all _ _ (by simp [hc]), htk'.out]
end Go.Proofs.YtokjbmpiekadaaaDoor
