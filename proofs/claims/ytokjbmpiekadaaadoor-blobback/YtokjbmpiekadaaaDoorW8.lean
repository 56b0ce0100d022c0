/-
  The walks of sha.Sum, and of the calls on a hash that is not there.
-/
import Derived.Test.YtokjbmpiekadaaaDoorW7
namespace Go.Proofs.YtokjbmpiekadaaaDoor
open Go.RowKit

theorem new_fed (w : World) :
    Calls Tryd.prog 52 #[] w fun e w' => e = .returned (.pointer (some ⟨w.heap.size, 0, none⟩)) ∧ Fed w' w.heap.size [] ∧ Below w.heap.size w w' ∧ w'.heap.size = w.heap.size + 1 :=
  (new_any w).mono fun _ _ ⟨he, hr, hb, hs⟩ => ⟨he, fed_new hr, hb, hs⟩

set_option maxHeartbeats 400000 in
set_option maxRecDepth 100000 in
theorem sum_any (bs : List Nat) (hbs : ∀ x ∈ bs, x < 256) (p : Option Addr) (b off cap : Nat) (w : World) (htab : Tab w) (hcap : bs.length ≤ cap) (hcap2 : cap ≤ 9223372036854775807)
    (hsz : bs.length < 1152921504606846000) (hp : 0 < bs.length → p = some ⟨b, off, none⟩) (hsrc : ∀ j, j < bs.length → w.cell? ⟨b, off + j, none⟩ = some (u8v (bs.getD j 0))) :
    Calls Tryd.prog 38 #[.slice p bs.length cap] w fun e w' => e = .returned (.agg ((Sha.sum bs).map u8v).toArray) ∧ Below w.heap.size w w' := by
  have hpos := htab.pos
  go_enter Tryd.func38, Tryd.ntmps38
  go_wp2_with fail
  refine (new_fed _).mono ?_
  rintro e w1 ⟨rfl, hfed1, hb1, hs1⟩
  rw [World.size_alloc] at hs1 hfed1 hb1 ⊢
  have hr0 : Row w1 w.heap.size ((List.replicate 32 0).map u8v) 39 := (Row.newAt w _ ((List.replicate 32 0).map u8v) 39 rfl).below hb1 (by omega)
  have hbw1 : Below w.heap.size w w1 := ((Below.refl _ _).alloc (Nat.le_refl _) _).trans (hb1.mono (by omega))
  have htab1 : Tab w1 := htab.below hbw1 hpos
  have hwr := write_any (w.heap.size + 1) [] bs hbs p b off cap w1 htab1 (by omega) hfed1 hcap hcap2 (by simp; omega) (fun h => ⟨hp h, fun e => by have := World.block_lt_of_cell? w _ (hsrc 0 h); simp at this; omega⟩) (fun j hj => by rw [hbw1.cell (World.block_lt_of_cell? w _ (hsrc j hj))]; exact hsrc j hj)
  clear hsrc hp hbs
  go_wp2_with fail
  refine hwr.mono ?_
  rintro e w2 ⟨rfl, hfed2, hg2⟩
  rw [List.nil_append] at hfed2
  have htab2 : Tab w2 := htab1.grown hg2 (by simp)
  have hr2 := hr0.grown hg2 (by simp)
  have hbw2 : Below w.heap.size w w2 := below_of_grown hbw1 hg2 (by omega) (by omega)
  clear hwr
  go_wp2_with fail
  refine (hsum_any (w.heap.size + 1) bs w2 htab2 hfed2 hsz).mono ?_
  rintro e w3 ⟨rfl, hb3⟩
  have hr3 := hr2.below hb3 hr2.lt
  have hbw3 : Below w.heap.size w w3 := hbw2.trans (hb3.mono hbw2.size)
  obtain ⟨D, HD, hdl⟩ : ∃ D, Hid (D = Sha.sum bs) ∧ D.length = 32 := ⟨_, rfl, digest_length _⟩
  rw [← HD.out]
  clear hfed2 hfed1 hb3 hr2
  go_wp2_with (first | (refine wpList_store_Row rfl 39 _ _ rfl w.heap.size 0 (D.map u8v) rfl rfl 39 _ hr3 32 info39 (by simpa using hdl) (by simp) (one_u8 D) ?_; intro w5 hr5 hg5 hs5))
  refine post_Row 2 39 Tryd.results38 w.heap.size rfl 39 _ hr5 _ Tryd.underlying39 rfl 32 info39 (by rw [splice_all _ _ (by simpa using hdl)]; simpa using hdl) rfl ⟨?_, below_of_grown hbw3 hg5 hbw3.size (Nat.le_refl _)⟩
  rw [splice_all _ _ (by simpa using hdl), HD.out]
end Go.Proofs.YtokjbmpiekadaaaDoor
