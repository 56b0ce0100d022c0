/-
  The walk of the reference's Fold.
-/
import Derived.Test.YtbccjomnfclkdaaS13
namespace Go.Proofs.Ytbccjomnfclkdaa
open Go.RowKit
theorem info49 : (Try.prog.info? 49).map (·.size) = some 32 := by kernel_rfl
theorem set_mid {α : Type} (A B : List α) (x y : α) (k : Nat) (h : k = A.length) : (A ++ x :: B).set k y = A ++ y :: B := by
  subst h; simp
def facc (bs : List Nat) (i : Nat) : List Nat := bs.take i ++ List.replicate (32 - i) 0
def fold (bs : List Nat) : List Nat := facc bs (min bs.length 32)
theorem facc_length (bs : List Nat) (i : Nat) (h1 : i ≤ bs.length) (h2 : i ≤ 32) : (facc bs i).length = 32 := by simp [facc]; omega
theorem facc_set (bs : List Nat) (i : Nat) (h1 : i < bs.length) (h2 : i < 32) : (facc bs i).set i (bs.getD i 0) = facc bs (i + 1) := by
  have e1 : facc bs i = bs.take i ++ 0 :: List.replicate (31 - i) 0 := by
    unfold facc; rw [show 32 - i = (31 - i) + 1 by omega]; rfl
  have e2 : facc bs (i + 1) = bs.take i ++ bs.getD i 0 :: List.replicate (31 - i) 0 := by
    unfold facc; rw [List.take_succ_eq_append_getElem h1, show 32 - (i + 1) = 31 - i by omega, List.append_assoc]; simp [h1]
  rw [e1, e2, set_mid _ _ _ _ _ (by simp; omega)]
set_option maxHeartbeats 400000 in
set_option maxRecDepth 100000 in
theorem fold_any (bs : List Nat) (p : Option Addr) (b off cap : Nat) (w : World) (hcap2 : bs.length ≤ 9223372036854775807)
    (hp : 0 < bs.length → p = some ⟨b, off, none⟩) (hsrc : ∀ j, j < bs.length → w.cell? ⟨b, off + j, none⟩ = some (u8v (bs.getD j 0))) :
    Calls Try.prog 22 #[.slice p bs.length cap] w fun e w' => e = .returned (.agg ((fold bs).map u8v).toArray) ∧ Below w.heap.size w w' := by
  go_enter Try.func22, Try.ntmps22
  go_wp2_with fail
  go_loopw [4] (fun vi w' => ∃ i : Nat, i ≤ 32 ∧ i ≤ bs.length ∧ vi = .int .i64 (i : Int) ∧ Row w' w.heap.size ((List.replicate 32 0).map u8v) 49 ∧ Row w' (w.heap.size + 1) ((facc bs i).map u8v) 49 ∧ Below w.heap.size w w') (fun vi _ => 32 - (intOf vi).toNat)
  case atStart =>
    refine ⟨0, by omega, by omega, rfl, (Row.newAt w _ ((List.replicate 32 0).map u8v) 49 rfl).alloc _, ?_, ((Below.refl _ _).alloc (Nat.le_refl _) _).alloc (by simp) _⟩
    exact Row.newAt (w.alloc _) _ ((facc bs 0).map u8v) 49 (by simp)
  case round =>
    obtain ⟨i, hi, hib, rfl, hr0, hr, hbw⟩ := hrel
    by_cases hend : i < 32 ∧ i < bs.length
    · obtain ⟨h1, h2⟩ := hend
      obtain rfl := hp (by omega)
      have h1' : (i : Int) < 32 := by omega
      have h2' : (i : Int) < (bs.length : Int) := by omega
      have hl := facc_length bs i hib hi
      have c0 : wr.cell? ⟨w.heap.size + 1, i, none⟩ = some (.int .u8 (((facc bs i).getD i 0 : Nat) : Int)) := hr.cellMap _ (by omega)
      have f0 := hr.frozen i
      have c1 : wr.cell? ⟨b, off + i, none⟩ = some (.int .u8 ((bs.getD i 0 : Nat) : Int)) := by
        rw [hbw.cell (World.block_lt_of_cell? w _ (hsrc i h2))]; exact hsrc i h2
      have HS : Hid ((facc bs i).set i (bs.getD i 0) = facc bs (i + 1)) := facc_set bs i h2 h1
      generalize (facc bs i).getD i 0 = y at c0
      generalize bs.getD i 0 = x at c1 HS
      clear hsrc hp hl
      go_wp2
      go_roundw
      case rel =>
        go_light
        refine ⟨i + 1, by omega, by omega, by go_num, hr0.set_other _ _ (by simp), ?_, hbw.setCell (by simp) _⟩
        rw [← HS.out, List.map_set]
        exact hr.set_same _ _
      case measure => simp [intOf]; omega
    · have HE : Hid (i = min bs.length 32) := by show i = _; omega
      have hl := facc_length bs i hib hi
      clear hsrc hp
      by_cases h1 : i < 32
      · have h1' : (i : Int) < 32 := by omega
        have h2' : ¬ (i : Int) < (bs.length : Int) := by omega
        go_wp2_with (first | (refine wpList_load_Row rfl 49 _ rfl (w.heap.size + 1) rfl 49 _ hr _ Try.underlying49 rfl 32 info49 (by simp [hl]) ?_) | (refine wpList_store_Row rfl 49 _ _ rfl w.heap.size 0 ((facc bs i).map u8v) rfl rfl 49 _ hr0 32 info49 (by simp [hl]) (by simp) (one_u8 _) ?_; intro w3 hr4 hg4 hs4))
        refine post_Row 2 49 Try.results22 w.heap.size rfl 49 _ hr4 _ Try.underlying49 rfl 32 info49 (by simp [splice_all, hl]) rfl ⟨?_, below_of_grown hbw hg4 hbw.size (Nat.le_refl _)⟩
        rw [splice_all _ _ (by simp [hl]), HE.out]; rfl
      · have h1' : ¬ (i : Int) < 32 := by omega
        go_wp2_with (first | (refine wpList_load_Row rfl 49 _ rfl (w.heap.size + 1) rfl 49 _ hr _ Try.underlying49 rfl 32 info49 (by simp [hl]) ?_) | (refine wpList_store_Row rfl 49 _ _ rfl w.heap.size 0 ((facc bs i).map u8v) rfl rfl 49 _ hr0 32 info49 (by simp [hl]) (by simp) (one_u8 _) ?_; intro w3 hr4 hg4 hs4))
        refine post_Row 2 49 Try.results22 w.heap.size rfl 49 _ hr4 _ Try.underlying49 rfl 32 info49 (by simp [splice_all, hl]) rfl ⟨?_, below_of_grown hbw hg4 hbw.size (Nat.le_refl _)⟩
        rw [splice_all _ _ (by simp [hl]), HE.out]; rfl
end Go.Proofs.Ytbccjomnfclkdaa
