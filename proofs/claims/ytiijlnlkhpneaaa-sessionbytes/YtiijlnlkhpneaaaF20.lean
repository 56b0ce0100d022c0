/-
  The walk of play: a script on both tables.
-/
import Derived.OwnWalk
import Derived.Laws.CopyOwn
import Derived.Laws.Tables
import Derived.Deep.RegionLaw
import Derived.Deep.DrawnRows
import Derived.Test.YtiijlnlkhpneaaaF00
import Derived.Test.YtiijlnlkhpneaaaF01
import Derived.Test.YtiijlnlkhpneaaaF02
import Derived.Test.YtiijlnlkhpneaaaF03
import Derived.Test.YtiijlnlkhpneaaaF04
import Derived.Test.YtiijlnlkhpneaaaF05
import Derived.Test.YtiijlnlkhpneaaaF06
import Derived.Test.YtiijlnlkhpneaaaF07
import Derived.Test.YtiijlnlkhpneaaaF08
import Derived.Test.YtiijlnlkhpneaaaF09
import Derived.Test.YtiijlnlkhpneaaaF10
import Derived.Test.YtiijlnlkhpneaaaF11
import Derived.Test.YtiijlnlkhpneaaaF12
import Derived.Test.YtiijlnlkhpneaaaF13
import Derived.Test.YtiijlnlkhpneaaaF16
import Derived.Test.YtiijlnlkhpneaaaF17
import Derived.Test.YtiijlnlkhpneaaaF18
import Derived.Test.YtiijlnlkhpneaaaF19
namespace Go.Proofs.Ytiijlnlkhpneaaa.Se
open Go.RowKit
open Nd (take_put Row wp_world post_Row grownBy_setCell below_of_grown grownBy_trans grown_of_below grownBy_refl)
theorem RT.grown {w w' : World} {B r g : Nat} {room : Int} {X : List Seat} (h : RT w B r room X) (hg : w.grownBy w' (some g)) (hgB : g < B) : RT w' B r room X := by
  obtain ⟨v, h1, h2⟩ := h.ex
  exact ⟨⟨v, h1.grown hg (fun e => by have := Option.some.inj e; have := h.ge; omega), h2.grown hg hgB⟩, h.ge⟩
theorem RT.row_lt {w : World} {B r b : Nat} {room : Int} {X : List Seat} (h : RT w B r room X) (hb : rowOf w r = some b) : b < w.heap.size := by
  obtain ⟨v, h1, h2⟩ := h.ex
  have c1 := h1.cell 1
  simp only [List.getElem?_cons_succ, List.getElem?_cons_zero] at c1
  unfold rowOf at hb
  rw [c1] at hb
  obtain ⟨_, ⟨rfl, h0⟩ | ⟨g, cap, cur, rfl, hB, hh, hn, hm, hs, ht⟩⟩ := h2
  · cases hb
  · simp only at hb
    obtain rfl := Option.some.inj hb
    exact (Array.getElem?_eq_some_iff.1 hh).1
/-- what is neither table nor row stays -/
def Oth2 (w : World) (g r : Nat) (W : World) : Prop := ∀ b, b < w.heap.size → b ≠ g → b ≠ r → rowOf w r ≠ some b → W.heap[b]? = w.heap[b]? ∧ rowOf W r ≠ some b
theorem Oth2.refl (w : World) (g r : Nat) : Oth2 w g r w := fun _ _ _ _ h => ⟨rfl, h⟩
theorem Oth2.trans {a b c : World} {g r : Nat} (h : Oth2 a g r b) (k : Oth2 b g r c) (hs : a.heap.size ≤ b.heap.size) : Oth2 a g r c := fun x hx h1 h2 hn =>
  ⟨(k x (Nat.lt_of_lt_of_le hx hs) h1 h2 (h x hx h1 h2 hn).2).1.trans (h x hx h1 h2 hn).1, (k x (Nat.lt_of_lt_of_le hx hs) h1 h2 (h x hx h1 h2 hn).2).2⟩
theorem Oth.two {w W : World} {r : Nat} (h : Oth w r W) (g : Nat) : Oth2 w g r W := fun b hb _ h2 hn => h b hb h2 hn
theorem Oth2.of_grown {w w' : World} {g r : Nat} (h : w.grownBy w' (some g)) (hr : r < w.heap.size) (hne : r ≠ g) : Oth2 w g r w' := fun b hb h1 _ hn =>
  ⟨h.block b hb (fun e => h1 (Option.some.inj e)), by
    have e : w'.cell? ⟨r, 1, none⟩ = w.cell? ⟨r, 1, none⟩ := by
      unfold World.cell?
      rw [h.block r hr (fun e => hne (Option.some.inj e))]
    unfold rowOf at hn ⊢
    rw [e]
    exact hn⟩
/-- what an act makes of a table -/
def stepT (room : Int) (T : List Seat) (x : Act1) : List Seat := if x.forget then forgT T x.client else recT room T x.client x.number x.at_ x.reply
def playT (room : Int) (T : List Seat) (ss : List Act1) : List Seat := ss.foldl (stepT room) T
theorem play_snoc {room : Int} {T : List Seat} {ss : List Act1} {i : Nat} {x : Act1} (h : ss[i]? = some x) : playT room T (ss.take (i + 1)) = stepT room (playT room T (ss.take i)) x := by
  unfold playT
  rw [List.take_add_one, h, List.foldl_append]
  rfl
theorem forgT_right {T : List Seat} (hr : Right T) (c : Int) : Right (forgT T c) := by
  unfold forgT
  split
  · rename_i h
    obtain ⟨i, s, hi, rfl, hs, hg⟩ := isC_at h hr.len
    rw [hg, show ((i : Int) + 1 - 1).toNat = i by omega]
    exact hr.set i _ (hr.at_ i s hs).hush
  · exact hr
theorem stepT_right {room : Int} (h0 : 0 ≤ room) {T : List Seat} (hr : Right T) (x : Act1) : Right (stepT room T x) := by
  unfold stepT
  split
  · exact forgT_right hr _
  · exact recT_right h0 hr _ _ _ _
theorem playT_right {room : Int} (h0 : 0 ≤ room) : ∀ (ss : List Act1) {T : List Seat}, Right T → Right (playT room T ss)
  | [], _, hr => hr
  | x :: r, _, hr => playT_right h0 r (stepT_right h0 hr x)
/-- both tables between two calls; y is the program's seats, T the reference's -/
structure PS (w a : World) (B g r : Nat) (room : Int) (y T : List Seat) (W : World) : Prop where
  tab : Tab W g room y
  rt : RT W B r room (T.filter seated)
  bel : Below a.heap.size a W
  oth : Oth2 w g r W
  size : w.heap.size ≤ W.heap.size
/-- .. and the act's row -/
structure PA (w a : World) (B g r : Nat) (room : Int) (y T : List Seat) (bs : Nat) (cs : List Value) (W : World) : Prop where
  ps : PS w a B g r room y T W
  row : Row W bs cs 44
  own : rowOf W r ≠ some bs
theorem PA.rt {w a : World} {B g r : Nat} {room : Int} {y T : List Seat} {bs : Nat} {cs : List Value} {W : World} (h : PA w a B g r room y T bs cs W) : RT W B r room (T.filter seated) := h.ps.rt
theorem row_ne {W : World} {b r : Nat} {vs us : List Value} {t u : TypeId} (h : Row W b vs t) (k : Row W r us u) (hn : t ≠ u) : b ≠ r := by
  rintro rfl
  unfold Row at h k
  rw [h] at k
  simp only [Option.some.injEq, Obj.cells.injEq] at k
  exact hn k.2.1
theorem PA.prog {w a : World} {B g r : Nat} {room : Int} {y y' T : List Seat} {bs : Nat} {cs : List Value} {W W' : World} (h : PA w a B g r room y T bs cs W) (ht : Tab W' g room y') (hg : W.grownBy W' (some g)) (hgB : g < B) (ha : a.heap.size ≤ g) : PA w a B g r room y' T bs cs W' := by
  obtain ⟨v, h1, _⟩ := h.ps.rt.ex
  have hrg : r ≠ g := by have := h.ps.rt.ge; omega
  have hbg : bs ≠ g := row_ne h.row h.ps.tab.row (by decide)
  have hbr : bs ≠ r := row_ne h.row h1 (by decide)
  have ho := Oth2.of_grown hg h1.lt hrg
  exact ⟨⟨ht, h.ps.rt.grown hg hgB, below_of_grown h.ps.bel hg h.ps.bel.size ha, h.ps.oth.trans ho h.ps.size, Nat.le_trans h.ps.size hg.size⟩, h.row.grown hg (fun e => hbg (Option.some.inj e)), (ho bs h.row.lt hbg hbr h.own).2⟩
theorem PA.ref {w a : World} {B g r : Nat} {room : Int} {y T T' : List Seat} {bs : Nat} {cs : List Value} {W W' : World} (h : PA w a B g r room y T bs cs W) (hd : RD W B r room (T'.filter seated) W') (hgB : g < B) (ha : a.heap.size ≤ g) : PA w a B g r room y T' bs cs W' := by
  obtain ⟨v, h1, _⟩ := h.ps.rt.ex
  have hbr : bs ≠ r := row_ne h.row h1 (by decide)
  have hb := hd.oth bs h.row.lt hbr h.own
  refine ⟨⟨h.ps.tab.k61 hd.keep, hd.tab, h.ps.bel.trans (hd.bel.mono (by omega)), h.ps.oth.trans (hd.oth.two g) h.ps.size, Nat.le_trans h.ps.size hd.bel.size⟩, ?_, hb.2⟩
  have h3 := h.row
  unfold Row at h3 ⊢
  rw [hb.1]
  exact h3
set_option maxHeartbeats 8000000 in
set_option maxRecDepth 100000 in
theorem play_any {a w : World} {B g r : Nat} {room : Int} {T : List Seat} (hP : PS w a B g r room T T w) (hr : Right T) (h0 : 0 ≤ room) (hg : a.heap.size ≤ g) (hgB : g < B) (ss : List Act1) (v : Value) (h : Acts a v ss) :
    Calls Try.prog 11 #[.pointer (some ⟨g, 0, none⟩), .pointer (some ⟨r, 0, none⟩), v] w fun e w' => e = .returned (.bool true) ∧ PS w a B g r room (playT room T (ss.take 200)) (playT room T (ss.take 200)) w' := by
  obtain ⟨p, c, rfl, hl, hat⟩ := h.at_
  have HAT := hid_in hat
  have HG := hid_in hg
  have HGB := hid_in hgB
  have H0 := hid_in h0
  have HR := hid_in hr
  have HP := hid_in hP
  have hM : (ss.length : Int) ≤ 9223372036854775807 := by omega
  generalize hn : ss.length = M at *
  have HNN := hid_in hn
  obtain ⟨K, HK⟩ : ∃ K, Hid (K = min M 200) := ⟨_, hid_in rfl⟩
  have HKT : Hid (ss.take K = ss.take 200) := hid_in (by
    rw [HK.out, ← HNN.out]
    rcases Nat.le_total ss.length 200 with h1 | h1
    · rw [Nat.min_eq_left h1, List.take_length, List.take_of_length_le h1]
    · rw [Nat.min_eq_right h1])
  rw [← HKT.out]
  clear h hat hl hn hP hr h0 hg hgB
  go_enter Try.func11, Try.ntmps11
  go_wp2_with fail
  go_loopw [7] (fun vi W => ∃ i : Nat, i ≤ K ∧ vi = .int .i64 (i : Int) ∧ Hid (PS w a B g r room (playT room T (ss.take i)) (playT room T (ss.take i)) W)) (fun vi _ => K - (intOf vi).toNat)
  case atStart => exact ⟨0, by omega, rfl, HP.out⟩
  case round =>
    obtain ⟨i, hi, rfl, hpr⟩ := hrel
    by_cases hlt : i < K
    · have hj1 : (i : Int) < (M : Int) := by have := HK.out; omega
      have hj2 : (i : Int) < 200 := by have := HK.out; omega
      have hj3 : ¬ (i : Int) < 0 := by omega
      have hj4 : 0 ≤ (i : Int) := by omega
      have HLT := hid_in hlt
      have hlo : i < ss.length := by rw [HNN.out]; have := HK.out; omega
      obtain ⟨b, o, rfl, hcs⟩ := HAT.out (by intro e; rw [e] at hlo; simp at hlo)
      obtain ⟨k0, k1, k2, k3, k4⟩ := hcs _ hpr.out.bel i _ (List.getElem?_eq_getElem hlo)
      have HSN := hid_in (play_snoc (room := room) (T := T) (List.getElem?_eq_getElem hlo))
      have HRT := hid_in (playT_right H0.out (ss.take i) HR.out)
      generalize ss[i] = x at *
      obtain ⟨xf, xc, xn, xa, xr⟩ := x
      simp only at k0 k1 k2 k3 k4
      generalize playT room T (ss.take i) = T1 at *
      obtain ⟨w3, HW3⟩ : ∃ w3, Hid (wr.alloc (.cells #[.bool xf, .int .i64 xc, .int .i64 xn, .int .i64 xa, .string xr] 44) = w3) := ⟨_, hid_in rfl⟩
      have HB3 : Hid (Below wr.heap.size wr w3) := hid_in (by rw [← HW3.out]; exact (Below.refl _ _).alloc (Nat.le_refl _) _)
      have HR3 : Hid (Row w3 wr.heap.size [.bool xf, .int .i64 xc, .int .i64 xn, .int .i64 xa, .string xr] 44) := hid_in (by rw [← HW3.out]; exact Row.new wr [.bool xf, .int .i64 xc, .int .i64 xn, .int .i64 xa, .string xr] 44)
      have HA3 : Hid (PA w a B g r room T1 T1 wr.heap.size [.bool xf, .int .i64 xc, .int .i64 xn, .int .i64 xa, .string xr] w3.drew) := hid_in (by
        have hb := HB3.out.drew
        have ho := (Oth.of_below hb hpr.out.rt.lt).two g
        refine ⟨⟨hpr.out.tab.below hb hpr.out.tab.lt, hpr.out.rt.below hb, hpr.out.bel.trans (hb.mono hpr.out.bel.size), hpr.out.oth.trans ho hpr.out.size, Nat.le_trans hpr.out.size hb.size⟩, HR3.out.below (Below.refl _ _).drew HR3.out.lt, fun e => ?_⟩
        have e2 : rowOf wr r = some wr.heap.size := by
          unfold rowOf at e ⊢
          rw [← hb.cell (p := ⟨r, 1, none⟩) hpr.out.rt.lt]
          exact e
        have := hpr.out.rt.row_lt e2
        omega)
      have HX3 := hid_in HA3.out.row
      have HSS : Hid (∀ W, Row W wr.heap.size [.bool xf, .int .i64 xc, .int .i64 xn, .int .i64 xa, .string xr] 44 → W.cell? ⟨wr.heap.size, 1, none⟩ = some (.int .i64 xc) ∧ W.cell? ⟨wr.heap.size, 2, none⟩ = some (.int .i64 xn) ∧ W.cell? ⟨wr.heap.size, 3, none⟩ = some (.int .i64 xa) ∧ W.cell? ⟨wr.heap.size, 4, none⟩ = some (.string xr)) := hid_in (fun W h => ⟨h.cell 1, h.cell 2, h.cell 3, h.cell 4⟩)
      have HSTEP := hid_in (fun (W : World) (y' : List Seat) (ht : Tab W g room y') (hg : w3.drew.grownBy W (some g)) => HA3.out.prog ht hg HGB.out HG.out)
      have HSTEP2 := hid_in (fun (W W' : World) (y T' : List Seat) (h : PA w a B g r room y T1 wr.heap.size [.bool xf, .int .i64 xc, .int .i64 xn, .int .i64 xa, .string xr] W) (hd : RD W B r room (T'.filter seated) W') => h.ref hd HGB.out HG.out)
      have s0 : w3.cell? ⟨wr.heap.size, 0, none⟩ = some (.bool xf) := HR3.out.cell 0
      cases xf with
      | false =>
        have HPR := hid_in (record_any HA3.out.ps.tab HRT.out H0.out xc xn xa xr)
        have HRR := hid_in (fun W (k : RT W B r room (T1.filter seated)) => rrecord_any k HRT.out H0.out xc xn xa xr)
        have HSN2 : Hid (playT room T (ss.take (i + 1)) = recT room T1 xc xn xa xr) := hid_in (by rw [HSN.out]; unfold stepT; rw [if_neg (by simp)])
        generalize recE T1 xc xn xr = E at *
        generalize recT room T1 xc xn xa xr = T2 at *
        clear hlo hcs hpr hlt hi HSN
        go_upto_region 8 with fail
        refine wp_world HW3.out ?_
        generalize wr.heap.size = bs at *
        refine wp_region_held_drew (S := fun W => W.cell? ⟨bs, 1, none⟩ = some (.int .i64 xc) ∧ W.cell? ⟨bs, 2, none⟩ = some (.int .i64 xn) ∧ W.cell? ⟨bs, 3, none⟩ = some (.int .i64 xa) ∧ W.cell? ⟨bs, 4, none⟩ = some (.string xr)) (by kernel_rfl) (HSS.out _ HX3.out) (fun hHeld => ?_)
        refine take_put (i := 0) (d := 34) (v := ?_) rfl rfl (by kernel_rfl) (by kernel_rfl) (by kernel_rfl) (fun _ _ _ h => h) (Or.inl ⟨by kernel_rfl, ?_⟩) hHeld ?_
        rotate_left
        · (intro w hSw; (try dsimp only at hSw); go_simp; (try with_reducible rfl))
        simp only [Act.put, List.setIfInBounds_toArray, List.set_cons_zero, List.set_cons_succ]
        refine take_put (i := 1) (d := 35) (v := ?_) rfl rfl (by kernel_rfl) (by kernel_rfl) (by kernel_rfl) (fun _ _ _ h => h) (Or.inl ⟨by kernel_rfl, ?_⟩) hHeld ?_
        rotate_left
        · (intro w hSw; (try dsimp only at hSw); go_simp; (try with_reducible rfl))
        simp only [Act.put, List.setIfInBounds_toArray, List.set_cons_zero, List.set_cons_succ]
        refine take_put (i := 2) (d := 36) (v := ?_) rfl rfl (by kernel_rfl) (by kernel_rfl) (by kernel_rfl) (fun _ _ _ h => h) (Or.inl ⟨by kernel_rfl, ?_⟩) hHeld ?_
        rotate_left
        · (intro w hSw; (try dsimp only at hSw); go_simp; (try with_reducible rfl))
        simp only [Act.put, List.setIfInBounds_toArray, List.set_cons_zero, List.set_cons_succ]
        refine take_put (i := 3) (d := 37) (v := ?_) rfl rfl (by kernel_rfl) (by kernel_rfl) (by kernel_rfl) (fun _ _ _ h => h) (Or.inl ⟨by kernel_rfl, ?_⟩) hHeld ?_
        rotate_left
        · (intro w hSw; (try dsimp only at hSw); go_simp; (try with_reducible rfl))
        simp only [Act.put, List.setIfInBounds_toArray, List.set_cons_zero, List.set_cons_succ]
        refine take_put (i := 4) (d := 38) (v := ?_) rfl rfl (by kernel_rfl) (by kernel_rfl) (by kernel_rfl) (fun _ _ _ h => h) (Or.inl ⟨by kernel_rfl, ?_⟩) hHeld ?_
        rotate_left
        · (intro w hSw; (try dsimp only at hSw); go_simp; (try with_reducible rfl))
        simp only [Act.put, List.setIfInBounds_toArray, List.set_cons_zero, List.set_cons_succ]
        refine take_put (i := 5) (d := 39) (v := ?_) rfl rfl (by kernel_rfl) (by kernel_rfl) (by kernel_rfl) (fun _ _ _ h => h) (Or.inl ⟨by kernel_rfl, ?_⟩) hHeld ?_
        rotate_left
        · (intro w hSw; (try dsimp only at hSw); go_simp; (try with_reducible rfl))
        simp only [Act.put, List.setIfInBounds_toArray, List.set_cons_zero, List.set_cons_succ]
        refine take_put (i := 6) (d := 40) (v := ?_) rfl rfl (by kernel_rfl) (by kernel_rfl) (by kernel_rfl) (fun _ _ _ h => h) (Or.inl ⟨by kernel_rfl, ?_⟩) hHeld ?_
        rotate_left
        · (intro w hSw; (try dsimp only at hSw); go_simp; (try with_reducible rfl))
        simp only [Act.put, List.setIfInBounds_toArray, List.set_cons_zero, List.set_cons_succ]
        refine take_put (i := 7) (d := 41) (v := ?_) rfl rfl (by kernel_rfl) (by kernel_rfl) (by kernel_rfl) (fun _ _ _ h => h) (Or.inl ⟨by kernel_rfl, ?_⟩) hHeld ?_
        rotate_left
        · (intro w hSw; (try dsimp only at hSw); go_simp; (try with_reducible rfl))
        simp only [Act.put, List.setIfInBounds_toArray, List.set_cons_zero, List.set_cons_succ]
        refine take_put (i := 8) (d := 42) (v := ?_) rfl rfl (by kernel_rfl) (by kernel_rfl) (by kernel_rfl) (fun _ _ _ h => h) (Or.inl ⟨by kernel_rfl, ?_⟩) hHeld ?_
        rotate_left
        · (intro w hSw; (try dsimp only at hSw); go_simp; (try with_reducible rfl))
        simp only [Act.put, List.setIfInBounds_toArray, List.set_cons_zero, List.set_cons_succ]
        refine take_put (i := 10) (d := 44) (v := ?_) rfl rfl (by kernel_rfl) (by kernel_rfl) (by kernel_rfl) (fun _ _ _ h => h) (Or.inl ⟨by kernel_rfl, ?_⟩) hHeld ?_
        rotate_left
        · (intro w hSw; (try dsimp only at hSw); go_simp; (try with_reducible rfl))
        simp only [Act.put, List.setIfInBounds_toArray, List.set_cons_zero, List.set_cons_succ]
        refine take_put (i := 11) (d := 45) (v := ?_) rfl rfl (by kernel_rfl) (by kernel_rfl) (by kernel_rfl) (fun _ _ _ h => h) (Or.inl ⟨by kernel_rfl, ?_⟩) hHeld ?_
        rotate_left
        · (intro w hSw; (try dsimp only at hSw); go_simp; (try with_reducible rfl))
        simp only [Act.put, List.setIfInBounds_toArray, List.set_cons_zero, List.set_cons_succ]
        refine take_put (i := 12) (d := 46) (v := ?_) rfl rfl (by kernel_rfl) (by kernel_rfl) (by kernel_rfl) (fun _ _ _ h => h) (Or.inl ⟨by kernel_rfl, ?_⟩) hHeld ?_
        rotate_left
        · (intro w hSw; (try dsimp only at hSw); go_simp; (try with_reducible rfl))
        simp only [Act.put, List.setIfInBounds_toArray, List.set_cons_zero, List.set_cons_succ]
        refine take_put (i := 13) (d := 47) (v := ?_) rfl rfl (by kernel_rfl) (by kernel_rfl) (by kernel_rfl) (fun _ _ _ h => h) (Or.inl ⟨by kernel_rfl, ?_⟩) hHeld ?_
        rotate_left
        · (intro w hSw; (try dsimp only at hSw); go_simp; (try with_reducible rfl))
        simp only [Act.put, List.setIfInBounds_toArray, List.set_cons_zero, List.set_cons_succ]
        refine take_put (i := 14) (d := 48) (v := ?_) rfl rfl (by kernel_rfl) (by kernel_rfl) (by kernel_rfl) (fun _ _ _ h => h) (Or.inl ⟨by kernel_rfl, ?_⟩) hHeld ?_
        rotate_left
        · (intro w hSw; (try dsimp only at hSw); go_simp; (try with_reducible rfl))
        simp only [Act.put, List.setIfInBounds_toArray, List.set_cons_zero, List.set_cons_succ]
        refine take_put (i := 15) (d := 49) (v := ?_) rfl rfl (by kernel_rfl) (by kernel_rfl) (by kernel_rfl) (fun _ _ _ h => h) (Or.inl ⟨by kernel_rfl, ?_⟩) hHeld ?_
        rotate_left
        · (intro w hSw; (try dsimp only at hSw); go_simp; (try with_reducible rfl))
        simp only [Act.put, List.setIfInBounds_toArray, List.set_cons_zero, List.set_cons_succ]
        refine take_put (i := 16) (d := 50) (v := ?_) rfl rfl (by kernel_rfl) (by kernel_rfl) (by kernel_rfl) (fun _ _ _ h => h) (Or.inl ⟨by kernel_rfl, ?_⟩) hHeld ?_
        rotate_left
        · (intro w hSw; (try dsimp only at hSw); go_simp; (try with_reducible rfl))
        simp only [Act.put, List.setIfInBounds_toArray, List.set_cons_zero, List.set_cons_succ]
        refine take_put (i := 17) (d := 51) (v := ?_) rfl rfl (by kernel_rfl) (by kernel_rfl) (by kernel_rfl) (fun _ _ _ h => h) (Or.inl ⟨by kernel_rfl, ?_⟩) hHeld ?_
        rotate_left
        · (intro w hSw; (try dsimp only at hSw); go_simp; (try with_reducible rfl))
        simp only [Act.put, List.setIfInBounds_toArray, List.set_cons_zero, List.set_cons_succ]
        refine take_put (i := 18) (d := 52) (v := ?_) rfl rfl (by kernel_rfl) (by kernel_rfl) (by kernel_rfl) (fun _ _ _ h => h) (Or.inl ⟨by kernel_rfl, ?_⟩) hHeld ?_
        rotate_left
        · (intro w hSw; (try dsimp only at hSw); go_simp; (try with_reducible rfl))
        simp only [Act.put, List.setIfInBounds_toArray, List.set_cons_zero, List.set_cons_succ]
        refine wpAnyH_ready (rs := [9]) (by kernel_rfl) (by simp) ?_
        refine AllReadyH.cons rfl (fun K hK => ?_) AllReadyH.nil
        rw [if_pos (by rfl)]
        go_simp
        refine HPR.out.mono ?_
        rintro e w4 ⟨rfl, ht4, hg4⟩
        have HX4 := hid_in (HSTEP.out _ _ ht4 hg4)
        clear ht4 hg4
        go_simp
        refine hK.out _ _ (HSS.out _ HX4.out.row) (fun hHeld => ?_)
        clear hK K
        refine wpAnyH_ready (rs := [19]) (by kernel_rfl) (by simp) ?_
        refine AllReadyH.cons rfl (fun K hK => ?_) AllReadyH.nil
        rw [if_pos (by rfl)]
        go_simp
        refine (HRR.out _ HX4.out.rt).mono ?_
        rintro e w5 ⟨rfl, hd5⟩
        have HX5 := hid_in (HSTEP2.out _ _ _ _ HX4.out hd5)
        clear hd5
        go_simp
        refine hK.out _ _ (HSS.out _ HX5.out.row) (fun hHeld => ?_)
        clear hK K
        refine take_put (i := 20) (d := 54) (v := .bool false) rfl rfl (by kernel_rfl) (by kernel_rfl) (by kernel_rfl) (fun _ _ _ h => h) (Or.inl ⟨by kernel_rfl, fun w hSw => ?_⟩) hHeld ?_
        · (go_simp)
        simp only [Act.put, List.setIfInBounds_toArray, List.set_cons_zero, List.set_cons_succ]
        refine wpAnyH_done (by kernel_rfl) ?_ _
        go_wp2_with fail
        refine ⟨⟨i + 1, by have := HLT.out; omega, by go_num, ?_⟩, by have := HLT.out; simp [intOf]; omega⟩
        rw [HSN2.out]
        exact HX5.out.ps
      | true =>
        have HPF := hid_in (forget_any HA3.out.ps.tab xc)
        have HRF := hid_in (fun W (k : RT W B r room (T1.filter seated)) => rforget_any k HRT.out xc)
        have HSN2 : Hid (playT room T (ss.take (i + 1)) = forgT T1 xc) := hid_in (by rw [HSN.out]; unfold stepT; rw [if_pos rfl])
        generalize forgB T1 xc = E at *
        generalize forgT T1 xc = T2 at *
        clear hlo hcs hpr hlt hi HSN
        go_upto_region 6 with fail
        refine wp_world HW3.out ?_
        generalize wr.heap.size = bs at *
        refine wp_region_held_drew (S := fun W => W.cell? ⟨bs, 1, none⟩ = some (.int .i64 xc) ∧ W.cell? ⟨bs, 2, none⟩ = some (.int .i64 xn) ∧ W.cell? ⟨bs, 3, none⟩ = some (.int .i64 xa) ∧ W.cell? ⟨bs, 4, none⟩ = some (.string xr)) (by kernel_rfl) (HSS.out _ HX3.out) (fun hHeld => ?_)
        refine take_put (i := 0) (d := 25) (v := ?_) rfl rfl (by kernel_rfl) (by kernel_rfl) (by kernel_rfl) (fun _ _ _ h => h) (Or.inl ⟨by kernel_rfl, ?_⟩) hHeld ?_
        rotate_left
        · (intro w hSw; (try dsimp only at hSw); go_simp; (try with_reducible rfl))
        simp only [Act.put, List.setIfInBounds_toArray, List.set_cons_zero, List.set_cons_succ]
        refine take_put (i := 1) (d := 26) (v := ?_) rfl rfl (by kernel_rfl) (by kernel_rfl) (by kernel_rfl) (fun _ _ _ h => h) (Or.inl ⟨by kernel_rfl, ?_⟩) hHeld ?_
        rotate_left
        · (intro w hSw; (try dsimp only at hSw); go_simp; (try with_reducible rfl))
        simp only [Act.put, List.setIfInBounds_toArray, List.set_cons_zero, List.set_cons_succ]
        refine take_put (i := 2) (d := 27) (v := ?_) rfl rfl (by kernel_rfl) (by kernel_rfl) (by kernel_rfl) (fun _ _ _ h => h) (Or.inl ⟨by kernel_rfl, ?_⟩) hHeld ?_
        rotate_left
        · (intro w hSw; (try dsimp only at hSw); go_simp; (try with_reducible rfl))
        simp only [Act.put, List.setIfInBounds_toArray, List.set_cons_zero, List.set_cons_succ]
        refine take_put (i := 4) (d := 29) (v := ?_) rfl rfl (by kernel_rfl) (by kernel_rfl) (by kernel_rfl) (fun _ _ _ h => h) (Or.inl ⟨by kernel_rfl, ?_⟩) hHeld ?_
        rotate_left
        · (intro w hSw; (try dsimp only at hSw); go_simp; (try with_reducible rfl))
        simp only [Act.put, List.setIfInBounds_toArray, List.set_cons_zero, List.set_cons_succ]
        refine take_put (i := 5) (d := 30) (v := ?_) rfl rfl (by kernel_rfl) (by kernel_rfl) (by kernel_rfl) (fun _ _ _ h => h) (Or.inl ⟨by kernel_rfl, ?_⟩) hHeld ?_
        rotate_left
        · (intro w hSw; (try dsimp only at hSw); go_simp; (try with_reducible rfl))
        simp only [Act.put, List.setIfInBounds_toArray, List.set_cons_zero, List.set_cons_succ]
        refine take_put (i := 6) (d := 31) (v := ?_) rfl rfl (by kernel_rfl) (by kernel_rfl) (by kernel_rfl) (fun _ _ _ h => h) (Or.inl ⟨by kernel_rfl, ?_⟩) hHeld ?_
        rotate_left
        · (intro w hSw; (try dsimp only at hSw); go_simp; (try with_reducible rfl))
        simp only [Act.put, List.setIfInBounds_toArray, List.set_cons_zero, List.set_cons_succ]
        refine wpAnyH_ready (rs := [3]) (by kernel_rfl) (by simp) ?_
        refine AllReadyH.cons rfl (fun K hK => ?_) AllReadyH.nil
        rw [if_pos (by rfl)]
        go_simp
        refine HPF.out.mono ?_
        rintro e w4 ⟨rfl, ht4, hg4, -⟩
        have HX4 := hid_in (HSTEP.out _ _ ht4 hg4)
        clear ht4 hg4
        go_simp
        refine hK.out _ _ (HSS.out _ HX4.out.row) (fun hHeld => ?_)
        clear hK K
        refine wpAnyH_ready (rs := [7]) (by kernel_rfl) (by simp) ?_
        refine AllReadyH.cons rfl (fun K hK => ?_) AllReadyH.nil
        rw [if_pos (by rfl)]
        go_simp
        refine (HRF.out _ HX4.out.rt).mono ?_
        rintro e w5 ⟨rfl, hd5⟩
        have HX5 := hid_in (HSTEP2.out _ _ _ _ HX4.out hd5)
        clear hd5
        go_simp
        refine hK.out _ _ (HSS.out _ HX5.out.row) (fun hHeld => ?_)
        clear hK K
        refine take_put (i := 8) (d := 33) (v := .bool false) rfl rfl (by kernel_rfl) (by kernel_rfl) (by kernel_rfl) (fun _ _ _ h => h) (Or.inl ⟨by kernel_rfl, fun w hSw => ?_⟩) hHeld ?_
        · (go_simp)
        simp only [Act.put, List.setIfInBounds_toArray, List.set_cons_zero, List.set_cons_succ]
        refine wpAnyH_done (by kernel_rfl) ?_ _
        go_wp2_with fail
        refine ⟨⟨i + 1, by have := HLT.out; omega, by go_num, ?_⟩, by have := HLT.out; simp [intOf]; omega⟩
        rw [HSN2.out]
        exact HX5.out.ps
    · have hiK : i = K := by omega
      subst hiK
      by_cases hM2 : i < M
      · have hj1 : (i : Int) < (M : Int) := by omega
        have hj2 : ¬ (i : Int) < 200 := by have := HK.out; omega
        go_wp2_with fail
        go_ret
        exact ⟨rfl, hpr.out⟩
      · have hj1 : ¬ (i : Int) < (M : Int) := by omega
        go_wp2_with fail
        go_ret
        exact ⟨rfl, hpr.out⟩
end Go.Proofs.Ytiijlnlkhpneaaa.Se
