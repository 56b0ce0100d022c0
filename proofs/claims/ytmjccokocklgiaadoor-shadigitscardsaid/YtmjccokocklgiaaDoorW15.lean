/-
  The walk of the reference's Unhex.
-/
import Derived.Test.YtmjccokocklgiaaDoorW14
namespace Go.Proofs.YtmjccokocklgiaaDoor
open Go.RowKit

/-- the digest while i digits have been read, x the last of them if they are odd -/
def racc (d : List Nat) (i x : Nat) : List Nat := if i % 2 = 0 then uacc d (i / 2) else uacc (d ++ [x]) (i / 2 + 1)
theorem racc_length (d : List Nat) (i x : Nat) (hd : d.length = i / 2) (hi : i < 64 ∨ i = 64) : (racc d i x).length = 32 := by
  unfold racc
  split
  · exact uacc_length d _ hd (by omega)
  · exact uacc_length _ _ (by simp [hd]) (by omega)
theorem racc_at (d : List Nat) (i x : Nat) (hd : d.length = i / 2) (hi : i < 64) : (racc d i x).getD (i / 2) 0 = if i % 2 = 0 then 0 else x := by
  unfold racc
  split
  · unfold uacc
    rw [show 32 - i / 2 = (31 - i / 2) + 1 by omega, List.replicate_succ]
    simp [hd]
  · unfold uacc
    simp [hd]
theorem racc_set0 (d : List Nat) (i x n : Nat) (hd : d.length = i / 2) (hi : i < 64) (he : i % 2 = 0) : (racc d i x).set (i / 2) n = racc d (i + 1) n := by
  unfold racc
  rw [if_pos he, if_neg (by omega), uacc_set d (i / 2) n hd (by omega), show (i + 1) / 2 = i / 2 by omega]
theorem racc_set1 (d : List Nat) (i x v : Nat) (hd : d.length = i / 2) (he : i % 2 ≠ 0) : (racc d i x).set (i / 2) v = racc (d ++ [v]) (i + 1) 0 := by
  unfold racc
  rw [if_neg he, if_pos (by omega), show (i + 1) / 2 = i / 2 + 1 by omega]
  unfold uacc
  rw [List.append_assoc, List.append_assoc, List.singleton_append, List.singleton_append, set_mid _ _ _ _ _ hd.symm]

theorem rel_yes (l : List Nat) (w wr : World) (d : List Nat) (i x y n c : Nat) (hi : i < 64) (hd : Sha.udig l (i / 2) = some d) (hx : i % 2 ≠ 0 → Sha.uval (l.getD (i - 1) 0) = some x) (hdl : d.length = i / 2) (hc : l.getD i 0 = c) (hn : Sha.uval c = some n) (hy : (if i % 2 = 0 then 0 else x) = y)
    (hr0 : Row wr w.heap.size ((List.replicate 32 0).map u8v) 25) (hr : Row wr (w.heap.size + 1) ((racc d i x).map u8v) 25) (hbw : Below w.heap.size w wr) :
    ∃ (i' : Nat) (d' : List Nat) (x' : Nat), i' ≤ 64 ∧ Value.int .i64 ((i : Int) + 1) = .int .i64 (i' : Int) ∧ Sha.udig l (i' / 2) = some d' ∧ (i' % 2 ≠ 0 → Sha.uval (l.getD (i' - 1) 0) = some x') ∧ Row (wr.setCell ⟨w.heap.size + 1, i / 2, none⟩ (.int .u8 ((y * 16 + n : Nat) : Int))) w.heap.size ((List.replicate 32 0).map u8v) 25 ∧ Row (wr.setCell ⟨w.heap.size + 1, i / 2, none⟩ (.int .u8 ((y * 16 + n : Nat) : Int))) (w.heap.size + 1) ((racc d' i' x').map u8v) 25 ∧ Below w.heap.size w (wr.setCell ⟨w.heap.size + 1, i / 2, none⟩ (.int .u8 ((y * 16 + n : Nat) : Int))) := by
  by_cases he : i % 2 = 0
  · rw [if_pos he] at hy
    subst hy
    rw [Nat.zero_mul, Nat.zero_add]
    refine ⟨i + 1, d, n, by omega, rfl, by rw [show (i + 1) / 2 = i / 2 by omega]; exact hd, fun _ => by rw [Nat.add_sub_cancel, hc]; exact hn, hr0.set_other _ _ (by simp), ?_, hbw.setCell (by simp) _⟩
    rw [← racc_set0 d i x n hdl hi he, List.map_set]
    exact hr.set_same _ _
  · rw [if_neg he] at hy
    subst hy
    have hp : Sha.pv l (i / 2) = some (x * 16 + n) := by
      unfold Sha.pv
      rw [show 2 * (i / 2) = i - 1 by omega, show i - 1 + 1 = i by omega, hx he, hc, hn]
    refine ⟨i + 1, d ++ [x * 16 + n], 0, by omega, rfl, ?_, fun h => by omega, hr0.set_other _ _ (by simp), ?_, hbw.setCell (by simp) _⟩
    · rw [show (i + 1) / 2 = i / 2 + 1 by omega]
      simp only [Sha.udig, hd, hp]
    · rw [← racc_set1 d i x _ hdl he, List.map_set]
      exact hr.set_same _ _

set_option maxHeartbeats 1000000 in
set_option maxRecDepth 100000 in
theorem runhex_any (s : ByteArray) (_hs2 : s.size ≤ 9223372036854775807) (w : World) :
    Calls Tryd.prog 18 #[.string s] w fun e w' => e = .returned (.tuple #[.agg ((Sha.unhex (bytesS s)).1.map u8v).toArray, .int .i64 (((Sha.unhex (bytesS s)).2 : Nat) : Int)]) ∧ Below w.heap.size w w' := by
  by_cases h64 : s.size = 64
  · have hlen : (bytesS s).length = 64 := by rw [bytesS_length]; exact h64
    have hlt := bytesS_lt s
    have hix := fun (j : Nat) (hj : j < 64) => index_str s j (by omega)
    have HU : Hid (Sha.unhex (bytesS s) = match Sha.udig (bytesS s) 32 with | some d => (d, 0) | none => (Sha.zeros32, 21)) := by show _ = _; unfold Sha.unhex; rw [if_pos hlen]; rfl
    generalize bytesS s = l at hlen hlt hix HU ⊢
    have k1 : ((s.size : Int) != 64) = false := by rw [bne_eq_false_iff_eq]; omega
    have HIX : Hid (∀ (j : Nat), j < 64 → ∀ (k : Int), k = (j : Int) → ∀ (w : World), (Instr.index 9 (.string s) (.int .i64 k)).run Tryd.prog w = .ok (.int .u8 ((l.getD j 0 : Nat) : Int)) w) := hix
    clear hix h64
    go_enter Tryd.func18, Tryd.ntmps18
    go_wp2_with fail
    go_loopw [5] (fun vi w' => ∃ (i : Nat) (d : List Nat) (x : Nat), i ≤ 64 ∧ vi = .int .i64 (i : Int) ∧ Sha.udig l (i / 2) = some d ∧ (i % 2 ≠ 0 → Sha.uval (l.getD (i - 1) 0) = some x) ∧ Row w' w.heap.size ((List.replicate 32 0).map u8v) 25 ∧ Row w' (w.heap.size + 1) ((racc d i x).map u8v) 25 ∧ Below w.heap.size w w') (fun vi _ => 64 - (intOf vi).toNat)
    case atStart =>
      refine ⟨0, [], 0, by omega, rfl, rfl, fun h => absurd rfl h, (Row.newAt w _ ((List.replicate 32 0).map u8v) 25 rfl).alloc _, ?_, ((Below.refl _ _).alloc (Nat.le_refl _) _).alloc (by simp) _⟩
      exact Row.newAt (w.alloc _) _ ((racc [] 0 0).map u8v) 25 (by simp)
    case round =>
      obtain ⟨i, d, x, hi, rfl, hd, hx, hr0, hr, hbw⟩ := hrel
      have hdl := udig_length l (i / 2) d hd
      have HD : Hid (Sha.udig l (i / 2) = some d) := hd
      have HX : Hid (i % 2 ≠ 0 → Sha.uval (l.getD (i - 1) 0) = some x) := hx
      have HDL : Hid (d.length = i / 2) := hdl
      clear hd hx hdl
      by_cases hlt64 : i < 64
      · have x0 := HIX.out i hlt64 (i : Int) rfl
        have b0 : l.getD i 0 < 256 := getD_lt hlt _
        have HC : Hid (l.getD i 0 = l.getD i 0) := rfl
        have hal := racc_length d i x HDL.out (by omega)
        have c0 : wr.cell? ⟨w.heap.size + 1, i / 2, none⟩ = some (.int .u8 (((racc d i x).getD (i / 2) 0 : Nat) : Int)) := hr.cellMap _ (by omega)
        have f0 := hr.frozen (i / 2)
        rw [racc_at d i x HDL.out hlt64] at c0
        obtain ⟨c, HCC⟩ : ∃ c, Hid (l.getD i 0 = c) := ⟨_, rfl⟩
        rw [HCC.out] at x0 b0
        clear HC hal hlt
        have hcases : (c < 48 ∨ (57 < c ∧ c < 97) ∨ 102 < c) ∨ (48 ≤ c ∧ c ≤ 57) ∨ (97 ≤ c ∧ c ≤ 102) := by omega
        rcases hcases with hno | hyes
        · have hun : Sha.uval c = none := by unfold Sha.uval; rw [if_neg (by omega), if_neg (by omega)]
          have hpv : Sha.pv l (i / 2) = none := by
            unfold Sha.pv
            by_cases he : i % 2 = 0
            · rw [show 2 * (i / 2) = i by omega, HCC.out, hun]
            · rw [show 2 * (i / 2) + 1 = i by omega, HCC.out, hun]
              cases Sha.uval (l.getD (2 * (i / 2)) 0) <;> rfl
          have HZ : Hid (Sha.unhex l = (Sha.zeros32, 21)) := by show _ = _; rw [HU.out, udig_none l (i / 2) hpv 32 (by omega)]
          clear hun hpv c0 f0
          have g1 : (i : Int) < 64 := by omega
          rcases hno with h | ⟨h, h'⟩ | h
          · have k3 : ¬ (48 : Int) ≤ (c : Int) := by omega
            have k4 : ¬ (97 : Int) ≤ (c : Int) := by omega
            go_wp2_with (first | (refine wpList_store_Row rfl 25 _ _ rfl w.heap.size 0 (Sha.zeros32.map u8v) rfl rfl 25 _ hr0 32 info25 rfl (by simp) (one_u8 _) ?_; intro w3 hr4 hg4 hs4))
            refine post_Row2 2 3 25 Tryd.results18 w.heap.size rfl 25 _ hr4 _ Tryd.underlying25 rfl 32 info25 rfl rfl ⟨?_, below_of_grown hbw hg4 hbw.size (Nat.le_refl _)⟩
            rw [HZ.out]; rfl
          · have k3 : (48 : Int) ≤ (c : Int) := by omega
            have k4 : ¬ (97 : Int) ≤ (c : Int) := by omega
            have k5 : ¬ (c : Int) ≤ 57 := by omega
            go_wp2_with (first | (refine wpList_store_Row rfl 25 _ _ rfl w.heap.size 0 (Sha.zeros32.map u8v) rfl rfl 25 _ hr0 32 info25 rfl (by simp) (one_u8 _) ?_; intro w3 hr4 hg4 hs4))
            refine post_Row2 2 3 25 Tryd.results18 w.heap.size rfl 25 _ hr4 _ Tryd.underlying25 rfl 32 info25 rfl rfl ⟨?_, below_of_grown hbw hg4 hbw.size (Nat.le_refl _)⟩
            rw [HZ.out]; rfl
          · have k3 : (48 : Int) ≤ (c : Int) := by omega
            have k4 : (97 : Int) ≤ (c : Int) := by omega
            have k5 : ¬ (c : Int) ≤ 57 := by omega
            have k6 : ¬ (c : Int) ≤ 102 := by omega
            go_wp2_with (first | (refine wpList_store_Row rfl 25 _ _ rfl w.heap.size 0 (Sha.zeros32.map u8v) rfl rfl 25 _ hr0 32 info25 rfl (by simp) (one_u8 _) ?_; intro w3 hr4 hg4 hs4))
            refine post_Row2 2 3 25 Tryd.results18 w.heap.size rfl 25 _ hr4 _ Tryd.underlying25 rfl 32 info25 rfl rfl ⟨?_, below_of_grown hbw hg4 hbw.size (Nat.le_refl _)⟩
            rw [HZ.out]; rfl
        · obtain ⟨n, hun, hn16⟩ : ∃ n, Sha.uval c = some n ∧ n < 16 := by
            rcases hyes with h | h
            · exact ⟨c - 48, by unfold Sha.uval; rw [if_pos h], by omega⟩
            · exact ⟨c - 87, by unfold Sha.uval; rw [if_neg (by omega), if_pos h], by omega⟩
          have HUN : Hid (Sha.uval c = some n) := hun
          have hy16 : (if i % 2 = 0 then 0 else x) < 16 := by
            split
            · omega
            · rename_i he; exact uval_lt _ _ (HX.out he)
          obtain ⟨y, HY⟩ : ∃ y, Hid ((if i % 2 = 0 then 0 else x) = y) := ⟨_, rfl⟩
          rw [HY.out] at c0 hy16
          have g1 : (i : Int) < 64 := by omega
          rcases hyes with ⟨h, h'⟩ | ⟨h, h'⟩
          · have k3 : (48 : Int) ≤ (c : Int) := by omega
            have k5 : (c : Int) ≤ 57 := by omega
            have hn : n = c - 48 := by unfold Sha.uval at hun; rw [if_pos ⟨h, h'⟩] at hun; exact (Option.some.inj hun).symm
            have HNN : Hid (n = c - 48) := hn
            clear hun hn
            go_wp2
            go_roundw
            case rel =>
              go_light
              have e0 : (y : Int) * 16 + ((c : Int) - 48) = ((y * 16 + n : Nat) : Int) := by have := HNN.out; omega
              rw [e0]
              exact rel_yes l w wr d i x y n c hlt64 HD.out HX.out HDL.out HCC.out HUN.out HY.out hr0 hr hbw
            case measure => simp [intOf]; omega
          · have k3 : (48 : Int) ≤ (c : Int) := by omega
            have k5 : ¬ (c : Int) ≤ 57 := by omega
            have k4 : (97 : Int) ≤ (c : Int) := by omega
            have k6 : (c : Int) ≤ 102 := by omega
            have hn : n = c - 87 := by unfold Sha.uval at hun; rw [if_neg (by omega), if_pos ⟨h, h'⟩] at hun; exact (Option.some.inj hun).symm
            have HNN : Hid (n = c - 87) := hn
            clear hun hn
            go_wp2
            go_roundw
            case rel =>
              go_light
              have e0 : (y : Int) * 16 + ((c : Int) - 97 + 10) = ((y * 16 + n : Nat) : Int) := by have := HNN.out; omega
              rw [e0]
              exact rel_yes l w wr d i x y n c hlt64 HD.out HX.out HDL.out HCC.out HUN.out HY.out hr0 hr hbw
            case measure => simp [intOf]; omega
      · have HI : Hid (i = 64) := by show i = 64; omega
        have hal := racc_length d i x HDL.out (by omega)
        have g1 : ¬ (i : Int) < 64 := by omega
        go_wp2_with (first | (refine wpList_load_Row rfl 25 _ rfl (w.heap.size + 1) rfl 25 _ hr _ Tryd.underlying25 rfl 32 info25 (by simp [hal]) ?_) | (refine wpList_store_Row rfl 25 _ _ rfl w.heap.size 0 ((racc d i x).map u8v) rfl rfl 25 _ hr0 32 info25 (by simp [hal]) (by simp) (one_u8 _) ?_; intro w3 hr4 hg4 hs4))
        refine post_Row2 2 3 25 Tryd.results18 w.heap.size rfl 25 _ hr4 _ Tryd.underlying25 rfl 32 info25 (by simp [splice_all, hal]) rfl ⟨?_, below_of_grown hbw hg4 hbw.size (Nat.le_refl _)⟩
        have hd := HD.out
        rw [HI.out] at hd
        have hz : Sha.unhex l = (d, 0) := by rw [HU.out, hd]
        rw [splice_all _ _ (by simp [hal]), hz, show racc d i x = d by unfold racc uacc; rw [HI.out]; simp]
        rfl
  · have hu : Sha.unhex (bytesS s) = (Sha.zeros32, 21) := by unfold Sha.unhex; rw [if_neg (by rw [bytesS_length]; exact h64)]
    rw [hu]
    have k1 : ((s.size : Int) != 64) = true := by rw [bne_iff_ne]; omega
    clear hu h64
    go_enter Tryd.func18, Tryd.ntmps18
    go_wp2_with (first | (refine wpList_load_Row rfl 25 _ rfl (w.heap.size + 1) rfl 25 (Sha.zeros32.map u8v) (Row.newAt (w.alloc _) _ _ 25 (by simp)) _ Tryd.underlying25 rfl 32 info25 rfl ?_) | (refine wpList_store_Row rfl 25 _ _ rfl w.heap.size 0 (Sha.zeros32.map u8v) rfl rfl 25 ((List.replicate 32 0).map u8v) ((Row.newAt w _ _ 25 rfl).alloc _) 32 info25 rfl (by simp) (one_u8 _) ?_; intro w3 hr4 hg4 hs4))
    refine post_Row2 2 3 25 Tryd.results18 w.heap.size rfl 25 _ hr4 _ Tryd.underlying25 rfl 32 info25 rfl rfl ⟨rfl, below_of_grown (((Below.refl _ _).alloc (Nat.le_refl _) _).alloc (by simp) _) hg4 (by simp; omega) (Nat.le_refl _)⟩
end Go.Proofs.YtmjccokocklgiaaDoor
