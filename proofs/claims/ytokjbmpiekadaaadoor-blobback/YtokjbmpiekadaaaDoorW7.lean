/-
  The walks of (*sha.Hash).Sum and sha.Sum: the digest of all bytes so far.
-/
import Derived.Test.YtokjbmpiekadaaaDoorW6
namespace Go.Proofs.YtokjbmpiekadaaaDoor
open Go.RowKit

theorem ending_bytes (n : Nat) : ∀ x ∈ Sha.ending n, x < 256 := by
  intro x hx
  simp only [Sha.ending, List.mem_cons, List.mem_append, List.mem_replicate, List.not_mem_nil, or_false] at hx
  rcases hx with rfl | ⟨_, rfl⟩ | rfl | rfl | rfl | rfl | rfl | rfl | rfl | rfl <;> omega
theorem hc_one (s : Sha.St) (bl : List Nat) (T : Nat) : ∀ v ∈ hcells s bl T, v.oneCell' = true := by
  intro v hv
  simp only [hcells, List.mem_append, List.mem_singleton] at hv
  rcases hv with hv | hv | rfl
  · exact one_u32 _ v hv
  · exact one_u8 _ v hv
  · rfl
theorem hc_state {w : World} {g : Nat} {s : Sha.St} {bl : List Nat} {T : Nat} {t : TypeId} (h : Row w g (hcells s bl T) t) : w.rangeAt g 0 (s.list.map u32v) := by
  intro j v hv
  have hj : j < (s.list.map u32v).length := (List.getElem?_eq_some_iff.1 hv).1
  rw [h.cell, hcells, Nat.zero_add, List.getElem?_append_left hj, hv]
theorem sum_fed {w : World} {g : Nat} {m : List Nat} {T : Nat} (h : FedT w g (m ++ Sha.ending m.length) T) : ∃ s bl, Row w g (hcells s bl T) 105 ∧ bl.length = 64 ∧ Ok s ∧ Hid (Sha.digestOf s = Sha.sum m) := by
  obtain ⟨s, bl, hrow, hs, hl, _, _, hok⟩ := h
  exact ⟨s, bl, hrow, hl, hok, by show _ = _; rw [hs]; rfl⟩

theorem digest_length (s : Sha.St) : (Sha.digestOf s).length = 32 := rfl
theorem zero53 (w : World) : (zeroValue 105).run Tryd.prog w = .ok (.agg (hcells ⟨0, 0, 0, 0, 0, 0, 0, 0⟩ (List.replicate 64 0) 0).toArray) w := by kernel_rfl

theorem zero53' : ∃ Z : List Value, (∀ w, (zeroValue 105).run Tryd.prog w = .ok (.agg Z.toArray) w) ∧ Z.length = 73 := ⟨_, zero53, rfl⟩

set_option maxHeartbeats 400000 in
set_option maxRecDepth 100000 in
theorem hsum_any (g : Nat) (m : List Nat) (w : World) (htab : Tab w) (hfed : Fed w g m) (hsz : m.length < 1152921504606846000) :
    Calls Tryd.prog 54 #[.pointer (some ⟨g, 0, none⟩)] w fun e w' => e = .returned (.agg ((Sha.sum m).map u8v).toArray) ∧ Below w.heap.size w w' := by
  obtain ⟨s, bl, hrow, hs, hl, hby, hbl, hok⟩ := hfed
  have c72 : w.cell? ⟨g, 72, none⟩ = some (.int .i64 (m.length : Int)) := by rw [hrow.cell, hc_total s bl _ hl]
  have hlt := hrow.lt
  have HS : Hid (s = Sha.run m (m.length / 64)) := hs
  have HBL : Hid (bl.take (m.length % 64) = m.drop (64 * (m.length / 64))) := hbl
  clear hs hbl
  obtain ⟨Z, hz, hzl⟩ := zero53'
  go_enter Tryd.func54, Tryd.ntmps54
  go_wp2_with (first | (refine wpList_load_Row rfl 105 _ rfl g rfl 105 (hcells s bl m.length) (hrow.alloc _) _ Tryd.underlying105 rfl 73 info105 (hc_length _ _ _ hl) ?_) | (refine wpList_store_Row rfl 105 _ _ rfl (w.heap.size + 1) 0 (hcells s bl m.length) rfl rfl 105 Z (Row.newAt (w.alloc _) _ Z 105 (by simp)) 73 info105 (hc_length _ _ _ hl) (by omega) (hc_one _ _ _) ?_; intro w1 hr1 hg1 hs1; rw [splice_all _ _ (by rw [hc_length _ _ _ hl, hzl])] at hr1; have c72' : w1.cell? ⟨g, 72, none⟩ = some (.int .i64 (m.length : Int)) := by { rw [((hrow.alloc _).alloc _).grown hg1 (by simp; omega) |>.cell, hc_total s bl _ hl] }))
  refine (ending_any m.length (by omega) w1).mono ?_
  rintro e w2 ⟨rfl, hre, hb2, hs2⟩
  simp only [World.size_alloc] at hs1
  have hbw1 : Below w.heap.size w w1 := below_of_grown (((Below.refl _ _).alloc (Nat.le_refl _) _).alloc (by simp) _) hg1 (by simp; omega) (by omega)
  have hr0 : Row w1 w.heap.size ((List.replicate 32 0).map u8v) 39 := ((Row.newAt w _ ((List.replicate 32 0).map u8v) 39 rfl).alloc _).grown hg1 (by simp)
  have htab1 : Tab w1 := htab.below hbw1 htab.pos
  have hfed1 : Fed w1 (w.heap.size + 1) m := ⟨s, bl, hr1, HS.out, hl, hby, HBL.out, hok⟩
  have hpos := htab.pos
  have hfed2 : Fed w2 (w.heap.size + 1) m := ⟨s, bl, hr1.below hb2 (by omega), HS.out, hl, hby, HBL.out, hok⟩
  have htab2 : Tab w2 := htab1.below hb2 htab1.pos
  have hr02 := hr0.below hb2 (by omega)
  have hlen := ending_length m.length
  have hbw2 : Below w.heap.size w w2 := hbw1.trans (hb2.mono (by omega))
  have hwr := write_any (w.heap.size + 1) m (Sha.ending m.length) (ending_bytes m.length) (some ⟨w1.heap.size, 0, none⟩) w1.heap.size 0 (Sha.ending m.length).length w2 htab2 (by omega) hfed2 (Nat.le_refl _) (by omega) (by omega) (fun _ => ⟨rfl, by omega⟩) (fun j hj => by rw [Nat.zero_add]; exact hre.cellMap j hj)
  have HWR := hwr
  generalize (Sha.ending m.length).length = el at hwr ⊢
  rw [hs1] at hwr
  clear c72 c72' hz hr0 hr1 HS HBL hfed1 htab1 hbw1 hb2 hg1 hlen HWR
  go_wp2_with fail
  refine hwr.mono ?_
  rintro e w3 ⟨rfl, hfed3, hg3⟩
  clear hwr hfed2
  obtain ⟨s3, bl3, hrow3, hl3, hok3, HD⟩ := sum_fed hfed3
  have hr03 := hr02.grown hg3 (by simp)
  have hbw3 : Below w.heap.size w w3 := below_of_grown hbw2 hg3 (by omega) (by omega)
  have hst := hc_state hrow3
  clear hfed3 hr02 hre
  go_wp2_with (first | (refine wpList_load_mid rfl 68 _ rfl (w.heap.size + 1) 0 rfl (s3.list.map u32v) _ hst Tryd.underlying68 rfl (by rw [info68]; rfl) ?_))
  refine (digestOf_any s3 hok3 w3).mono ?_
  rintro e w4 ⟨rfl, hb4⟩
  have hr04 := hr03.below hb4 hr03.lt
  have hbw4 : Below w.heap.size w w4 := hbw3.trans (hb4.mono hbw3.size)
  have hdl := digest_length s3
  generalize Sha.digestOf s3 = D at hdl HD ⊢
  go_wp2_with (first | (refine wpList_store_Row rfl 39 _ _ rfl w.heap.size 0 (D.map u8v) rfl rfl 39 _ hr04 32 info39 (by simpa using hdl) (by simp) (one_u8 D) ?_; intro w5 hr5 hg5 hs5))
  refine post_Row 2 39 Tryd.results54 w.heap.size rfl 39 _ hr5 _ Tryd.underlying39 rfl 32 info39 (by rw [splice_all _ _ (by simpa using hdl)]; simpa using hdl) rfl ⟨?_, below_of_grown hbw4 hg5 hbw4.size (Nat.le_refl _)⟩
  rw [splice_all _ _ (by simpa using hdl), HD.out]
end Go.Proofs.YtokjbmpiekadaaaDoor
