/-
  The walk of the statement ShaDigits.
-/
import Derived.Test.YtmjccokocklgiaaDoorW16
import Derived.Test.YtmjccokocklgiaaDoorL4
import Derived.Deep.RegionHeld3
import Derived.Deep.DrawnRows
namespace Go.Proofs.YtmjccokocklgiaaDoor
open Go.RowKit

theorem range_below {w w' : World} {b o : Nat} {cs : List Value} (h : w.rangeAt b o cs) (hb : Below w.heap.size w w') : w'.rangeAt b o cs := fun j v hv => by
  rw [hb.cell (World.block_lt_of_cell? w _ (h j v hv))]; exact h j v hv
theorem range_row {w : World} {b : Nat} {vs : List Value} {t : TypeId} (h : Row w b vs t) : w.rangeAt b 0 vs := fun j v hv => by
  rw [Nat.zero_add, h.cell]; exact hv
theorem unhex_length (l : List Nat) : (Sha.unhex l).1.length = 32 := by
  unfold Sha.unhex
  split
  · split
    · rename_i d h; exact udig_length l 32 d h
    · rfl
  · rfl

/-- a block's cells -/
def rowOf (w : World) (g : Nat) : List Value := match w.heap[g]? with
  | some (.cells cs _ _) => cs.toList
  | _ => []
def Has25 (w : World) (g : Nat) : Prop := ∃ vs, Row w g vs 25 ∧ vs.length = 32
theorem rowOf_row {w : World} {g : Nat} {vs : List Value} {t : TypeId} (h : Row w g vs t) : rowOf w g = vs := by
  unfold Row at h; simp [rowOf, h]
theorem wp_load25 {d : Option Tmp} {t : Tmp} {ty : TypeId} {ps : String} {af : Array Edge} {gd : Option (Nat × Bool)} {a : Act} {w : World} {K : Act → World → Prop} {Q : Exit → Act → World → Prop} (h1 : a.eval (.tmp t) = .pointer (some ⟨ptrBlock (a.eval (.tmp t)), 0, none⟩)) (h2 : Has25 w (ptrBlock (a.eval (.tmp t)))) :
    Oper.wp Tryd.prog { dst := d, op := Op.load 25 (Operand.tmp t), type := ty, pos := ps, after := af, guard := gd } a w K Q = K (a.put d (.agg (rowOf w (ptrBlock (a.eval (.tmp t)))).toArray)) w := by
  obtain ⟨vs, hr, hl⟩ := h2
  have hrun := run_loadVar_mid (P := Tryd.prog) w _ 0 25 _ _ (range_row hr) Tryd.underlying25 rfl (by rw [info25, hl])
  rw [rowOf_row hr]
  unfold Oper.wp execOp
  generalize ptrBlock (a.eval (.tmp t)) = g at h1 hrun
  simp only [h1, Instr.loadAt, Instr.sureAddr, Sem.run_bind, Sem.run_pure, Result.andThen_ok, hrun]
  rfl
attribute [local go_sem ↓] Go.wp_at_zero Go.wp_at_succ wp_load25
attribute [local go_sem] ptrBlock_pointer

theorem rows3 {w : World} {gx gu gv : Nat} {XV UV : List Value} (hx : Row w gx XV 25) (hu : Row w gu UV 25) (hv : Row w gv UV 25) (hxl : XV.length = 32) (hul : UV.length = 32) :
    Has25 w gx ∧ Has25 w gu ∧ Has25 w gv ∧ rowOf w gx = XV ∧ rowOf w gu = UV ∧ rowOf w gv = UV :=
  ⟨⟨_, hx, hxl⟩, ⟨_, hu, hul⟩, ⟨_, hv, hul⟩, rowOf_row hx, rowOf_row hu, rowOf_row hv⟩

set_option maxHeartbeats 2000000 in
set_option maxRecDepth 100000 in
theorem digits_any (xs : List Nat) (p : Option Addr) (ca b1 o1 : Nat) (s : ByteArray) (hs : s.size ≤ 9223372036854775807) (w : World) (htab : Tab w) (h1 : Sl w p xs ca b1 o1) :
    Calls Tryd.prog 5 #[.slice p xs.length ca, .string s] w fun e w' => e = .returned (.bool true) ∧ Below w.heap.size w w' := by
  go_enter Tryd.func5, Tryd.ntmps5
  go_wp2_with fail
  refine (awake_any w htab).mono ?_
  rintro e w1 ⟨rfl, hb1⟩
  have h1' := h1.below hb1
  go_wp2_with fail
  refine (fold_any xs p b1 o1 ca w1 (by have := h1.cap1; have := h1.cap2; omega) h1'.at_ h1'.src).mono ?_
  rintro e w2 ⟨rfl, hb2⟩
  have hbw2 : Below w.heap.size w w2 := hb1.trans (hb2.mono hb1.size)
  have hxl := fold_length xs
  have hxb := fold_lt xs h1.lt
  generalize fold xs = X at hxl hxb ⊢
  clear h1 h1' hb1 hb2
  go_wp2_with (first | (refine wpList_store_Row rfl 25 _ _ rfl w2.heap.size 0 (X.map u8v) rfl rfl 25 ((List.replicate 32 0).map u8v) (Row.newAt w2 _ _ 25 rfl) 32 info25 (by simpa using hxl) (by simp) (one_u8 X) ?_; intro w3 hrx hg3 hs3; rw [splice_all _ _ (by simpa using hxl)] at hrx; have hb3 := below_new hg3; clear hg3 hs3))
  have hbw3 : Below w.heap.size w w3 := hbw2.trans (hb3.mono hbw2.size)
  obtain ⟨gx, hgx⟩ : ∃ gx, gx = w2.heap.size := ⟨_, rfl⟩
  rw [← hgx] at hrx ⊢
  clear hb3 hbw2 hgx
  obtain ⟨U, n, HU, hul⟩ : ∃ U n, Hid (Sha.unhex (bytesS s) = (U, n)) ∧ U.length = 32 := ⟨_, _, rfl, unhex_length _⟩
  have hu3 := unhex_any s hs w3
  rw [HU.out] at hu3
  refine hu3.mono ?_
  clear hu3
  rintro e w4 ⟨rfl, hb4⟩
  have hbw4 : Below w.heap.size w w4 := hbw3.trans (hb4.mono hbw3.size)
  have hrx4 := hrx.below hb4 hrx.lt
  clear hrx hb4 hbw3
  go_wp2_with (first | (refine wpList_store_Row rfl 25 _ _ rfl w4.heap.size 0 (U.map u8v) rfl rfl 25 ((List.replicate 32 0).map u8v) (Row.newAt w4 _ _ 25 rfl) 32 info25 (by simpa using hul) (by simp) (one_u8 U) ?_; intro w5 hru hg5 hs5; rw [splice_all _ _ (by simpa using hul)] at hru; have hb5 := below_new hg5; have hrx5 := hrx4.below hb5 hrx4.lt; clear hg5 hs5))
  have hbw5 : Below w.heap.size w w5 := hbw4.trans (hb5.mono hbw4.size)
  obtain ⟨gu, hgu⟩ : ∃ gu, gu = w4.heap.size := ⟨_, rfl⟩
  rw [← hgu] at hru ⊢
  clear hb5 hbw4 hgu hrx4
  have hv5 := runhex_any s hs w5
  rw [HU.out] at hv5
  refine hv5.mono ?_
  clear hv5
  rintro e w6 ⟨rfl, hb6⟩
  have hbw6 : Below w.heap.size w w6 := hbw5.trans (hb6.mono hbw5.size)
  have hrx6 := hrx5.below hb6 hrx5.lt
  have hru6 := hru.below hb6 hru.lt
  clear hrx5 hru hb6 hbw5
  go_wp2_with (first | (refine wpList_store_Row rfl 25 _ _ rfl w6.heap.size 0 (U.map u8v) rfl rfl 25 ((List.replicate 32 0).map u8v) (Row.newAt w6 _ _ 25 rfl) 32 info25 (by simpa using hul) (by simp) (one_u8 U) ?_; intro w7 hrv hg7 hs7; rw [splice_all _ _ (by simpa using hul)] at hrv; have hb7 := below_new hg7; have hrx7 := hrx6.below hb7 hrx6.lt; have hru7 := hru6.below hb7 hru6.lt; clear hg7 hs7))
  have hbw7 : Below w.heap.size w w7 := hbw6.trans (hb7.mono hbw6.size)
  obtain ⟨gv, hgv⟩ : ∃ gv, gv = w6.heap.size := ⟨_, rfl⟩
  rw [← hgv] at hrv ⊢
  clear hb7 hbw6 hgv hrx6 hru6
  obtain ⟨XV, HXV, hxv⟩ : ∃ XV : List Value, Hid (XV = X.map u8v) ∧ XV.length = 32 := ⟨_, rfl, by simpa using hxl⟩
  obtain ⟨UV, HUV, huv⟩ : ∃ UV : List Value, Hid (UV = U.map u8v) ∧ UV.length = 32 := ⟨_, rfl, by simpa using hul⟩
  rw [← HXV.out] at hrx7
  rw [← HUV.out] at hru7 hrv
  have heq := eq25 U U hul hul
  rw [decide_eq_true rfl, ← HUV.out] at heq
  have hx := hex_any X hxl hxb
  have hy := rhex_any X hxl hxb
  obtain ⟨S, HS⟩ : ∃ S, Hid (S = str (Sha.hex X)) := ⟨_, rfl⟩
  rw [← HS.out, ← HXV.out] at hx hy
  have HX : Hid (∀ w : World, Calls Tryd.prog 19 #[.agg XV.toArray] w fun e w' => e = .returned (.string S) ∧ Below w.heap.size w w') := hx
  have HY : Hid (∀ w : World, Calls Tryd.prog 20 #[.agg XV.toArray] w fun e w' => e = .returned (.string S) ∧ Below w.heap.size w w') := hy
  have hss : (S.toList == S.toList) = true := by simp
  have hr3 := rows3 hrx7.drew hru7.drew hrv.drew hxv huv
  have hbd : Below w.heap.size w w7.drew := hbw7.drew
  have hrxd := hrx7.drew
  have hrud := hru7.drew
  have hrvd := hrv.drew
  obtain ⟨a1, a2, a3, a4, a5, a6⟩ := hr3
  clear hx hy hrx7 hru7 hrv HU hbw7 hxl hxb hul htab hs
  go_region_with (first | (go_at_call 19; refine (HX.out w7.drew).mono ?_; rintro e w8 ⟨rfl, hb8⟩; have hrx8 := hrxd.below hb8 hrxd.lt; have hru8 := hrud.below hb8 hrud.lt; have hrv8 := hrvd.below hb8 hrvd.lt; have hr38 := rows3 hrx8 hru8 hrv8 hxv huv; obtain ⟨a7, a8, a9, a10, a11, a12⟩ := hr38) | (go_at_call 20; refine (HY.out w8).mono ?_; rintro e w9 ⟨rfl, hb9⟩; have hrx9 := hrx8.below hb9 hrx8.lt; have hru9 := hru8.below hb9 hru8.lt; have hrv9 := hrv8.below hb9 hrv8.lt; have hr39 := rows3 hrx9 hru9 hrv9 hxv huv; obtain ⟨a13, a14, a15, a16, a17, a18⟩ := hr39))
  all_goals
    go_wp2
    go_ret
    refine ⟨?_, (hbd.trans (hb8.mono hbd.size)).trans (hb9.mono (Nat.le_trans hbd.size hb8.size))⟩
    go_simp
end Go.Proofs.YtmjccokocklgiaaDoor
