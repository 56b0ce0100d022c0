/-
  The reference's Look and Forget. The reference's Forget.
-/
import Derived.OwnWalk
import Derived.Laws.CopyOwn
import Derived.Laws.Tables
import Derived.Deep.RegionLaw
import Derived.Deep.DrawnRows
import Derived.Test.YtiijlnlkhpneaaaF00
import Derived.Test.YtiijlnlkhpneaaaF01
import Derived.Test.YtiijlnlkhpneaaaF02
import Derived.Test.YtiijlnlkhpneaaaF03
import Derived.Test.YtiijlnlkhpneaaaF04
import Derived.Test.YtiijlnlkhpneaaaF05
import Derived.Test.YtiijlnlkhpneaaaF06
import Derived.Test.YtiijlnlkhpneaaaF07
import Derived.Test.YtiijlnlkhpneaaaF08
import Derived.Test.YtiijlnlkhpneaaaF09
import Derived.Test.YtiijlnlkhpneaaaF10
import Derived.Test.YtiijlnlkhpneaaaF11
import Derived.Test.YtiijlnlkhpneaaaF12
import Derived.Test.YtiijlnlkhpneaaaF13
import Derived.Test.YtiijlnlkhpneaaaF16
namespace Go.Proofs.Ytiijlnlkhpneaaa.Se
open Go.RowKit
open Nd (Row wp_world post_Row grownBy_setCell below_of_grown grownBy_trans grown_of_below grownBy_refl)
set_option maxHeartbeats 4000000 in
set_option maxRecDepth 100000 in
theorem rlook_any {w : World} {B r : Nat} {room : Int} {T : List Seat} (h : RT w B r room (T.filter seated)) (hr : Right T) (c n : Int) :
    Calls Try.prog 15 #[.pointer (some ⟨r, 0, none⟩), .int .i64 c, .int .i64 n] w fun e w' => e = .returned (.tuple #[.int .i64 (lookS T c n).1, .string (lookS T c n).2]) ∧ Below w.heap.size w w' := by
  unfold lookS
  rcases hc : isC c with _ | _
  · have hc2 : ¬ (1 ≤ c ∧ c ≤ 8) := of_decide_eq_false hc
    simp only [Bool.false_and, Bool.false_eq_true, if_false]
    clear hc h
    by_cases k1 : c < 1
    · clear hc2
      go_enter Try.func15, Try.ntmps15
      go_wp2_with fail
      go_ret2
      exact ⟨rfl, Below.refl _ _⟩
    · have k2 : 8 < c := by omega
      clear hc2
      go_enter Try.func15, Try.ntmps15
      go_wp2_with fail
      go_ret2
      exact ⟨rfl, Below.refl _ _⟩
  · obtain ⟨i, s, hi, rfl, hs, hg⟩ := isC_at hc hr.len
    have k1 : ¬ (i : Int) + 1 < 1 := by omega
    have k2 : ¬ 8 < (i : Int) + 1 := by omega
    rcases hn : isN n with _ | _
    · have hn2 : ¬ (1 ≤ n ∧ n ≤ 1099511627776) := of_decide_eq_false hn
      simp only [Bool.and_false, Bool.false_eq_true, if_false]
      clear hc h hn hs hg
      by_cases k3 : n < 1
      · clear hn2
        go_enter Try.func15, Try.ntmps15
        go_wp2_with fail
        go_ret2
        exact ⟨rfl, Below.refl _ _⟩
      · have k4 : 1099511627776 < n := by omega
        clear hn2
        go_enter Try.func15, Try.ntmps15
        go_wp2_with fail
        go_ret2
        exact ⟨rfl, Below.refl _ _⟩
    · have hn2 : 1 ≤ n ∧ n ≤ 1099511627776 := of_decide_eq_true hn
      have k3 : ¬ n < 1 := by omega
      have k4 : ¬ 1099511627776 < n := by omega
      rw [hg]
      simp only [Bool.and_self, if_true]
      obtain ⟨p, cap, hrow, hl1, hl2, hat⟩ := h.at_
      have q1 : w.cell? ⟨r, 1, none⟩ = some (.slice p (T.filter seated).length cap) := hrow.cell 1
      rcases where_ hr hs with ⟨rfl, hno⟩ | ⟨hcl, hse, k, hk, hk2⟩
      · have HF := hid_in (rfind_any h ((i : Int) + 1) none hno)
        have e1 : seatSays noSeat n = (1, ⟨#[]⟩) := by
          unfold seatSays
          rw [if_pos (by show (0 : Int) < n; omega)]
        rw [e1]
        simp only at HF ⊢
        clear hc h hn hs hg hn2 hno hat hrow
        go_enter Try.func15, Try.ntmps15
        go_wp2_with (first | (go_at_call 28; refine HF.out.mono ?_; rintro e w2 ⟨rfl, rfl⟩))
        go_ret2
        exact ⟨rfl, Below.refl _ _⟩
      · have HF := hid_in (rfind_any h ((i : Int) + 1) (some k) hk2)
        simp only at HF
        have hkl : k < (T.filter seated).length := (List.getElem?_eq_some_iff.1 hk).1
        obtain ⟨b, rfl, -, -, hcs⟩ := hat (by intro e; rw [e] at hk; simp at hk)
        obtain ⟨u0, u1, u2, u3, u4⟩ := hcs _ (Below.refl _ _) k s hk
        have h8 := filter_le8 hr
        generalize (T.filter seated).length = m at *
        obtain ⟨sc, sn, sa, sk, sr⟩ := s
        simp only at u0 u1 u2 u3 u4
        unfold seatSays
        simp only
        have j1 : (k : Int) < (m : Int) := by omega
        have j2 : ¬ (k : Int) < 0 := by omega
        have j3 : 0 ≤ (k : Int) := by omega
        clear hc h hn hs hg hn2 hat hrow hcs hk hk2 hkl hcl hse h8 hl1 hl2 u0 u2
        by_cases y1 : sn < n
        · rw [if_pos y1]
          go_enter Try.func15, Try.ntmps15
          go_wp2_with (first | (go_at_call 28; refine HF.out.mono ?_; rintro e w2 ⟨rfl, rfl⟩))
          go_ret2
          exact ⟨rfl, Below.refl _ _⟩
        · rw [if_neg y1]
          by_cases y2 : n < sn
          · rw [if_pos y2]
            go_enter Try.func15, Try.ntmps15
            go_wp2_with (first | (go_at_call 28; refine HF.out.mono ?_; rintro e w2 ⟨rfl, rfl⟩))
            go_ret2
            exact ⟨rfl, Below.refl _ _⟩
          · rw [if_neg y2]
            cases sk with
            | false =>
              go_enter Try.func15, Try.ntmps15
              go_wp2_with (first | (go_at_call 28; refine HF.out.mono ?_; rintro e w2 ⟨rfl, rfl⟩))
              go_ret2
              exact ⟨rfl, Below.refl _ _⟩
            | true =>
              go_enter Try.func15, Try.ntmps15
              go_upto_region 9 with (first | (go_at_call 28; refine HF.out.mono ?_; rintro e w2 ⟨rfl, rfl⟩))
              go_quiet (fail)
              go_wp2_with fail
              go_ret2
              exact ⟨rfl, Nd.below_drewN (Below.refl _ _) _⟩
/-- the program's tables stay -/
def K61 (w w' : World) : Prop := ∀ (b : Nat) cs fr, w.heap[b]? = some (.cells cs 61 fr) → w'.heap[b]? = some (.cells cs 61 fr)
theorem Tab.k61 {w w' : World} {g : Nat} {room : Int} {T : List Seat} (h : Tab w g room T) (k : K61 w w') : Tab w' g room T := ⟨k g _ _ h.row, h.len⟩
theorem K61.refl (w : World) : K61 w w := fun _ _ _ h => h
theorem K61.trans {a b c : World} (h : K61 a b) (k : K61 b c) : K61 a c := fun x cs fr e => k x cs fr (h x cs fr e)
theorem K61.of_below {w w' : World} (h : Below w.heap.size w w') : K61 w w' := fun b cs fr e => by
  rw [h.block b (Array.getElem?_eq_some_iff.1 e).1]
  exact e
theorem K61.of_grown {w w' : World} {r : Nat} {vs : List Value} {t : TypeId} (hr : Row w r vs t) (ht : t ≠ 61) (hg : w.grownBy w' (some r)) : K61 w w' := fun b cs fr e => by
  rw [hg.block b (Array.getElem?_eq_some_iff.1 e).1 (fun e2 => ?_)]
  · exact e
  · obtain rfl := Option.some.inj e2
    unfold Row at hr
    rw [hr] at e
    simp only [Option.some.injEq, Obj.cells.injEq] at e
    exact ht e.2.1
theorem SO.hush {w : World} {B : Nat} {v : Value} {X : List Seat} (h : SO w B v X) {k : Nat} {s : Seat} (hk : X[k]? = some s) : ∃ b cap cur, v = .slice (some ⟨b, 0, none⟩) X.length cap ∧ B ≤ b ∧ Row w b cur 48 ∧ SO ((w.setCell ⟨b, k * 5 + 3, none⟩ (.bool false)).setCell ⟨b, k * 5 + 4, none⟩ (.string ⟨#[]⟩)) B v (X.set k (hush s)) := by
  obtain ⟨h0, ⟨rfl, h1⟩ | ⟨b, cap, cur, rfl, hB, hh, hn, hm, hs, ht⟩⟩ := h
  · have := (List.getElem?_eq_some_iff.1 hk).1
    omega
  · have hr : Row w b cur.toList 48 := by unfold Row; rw [Array.toArray_toList]; exact hh
    refine ⟨b, cap, cur.toList, rfl, hB, hr, ?_⟩
    have h2 := (hr.set_same (k * 5 + 3) (.bool false)).set_same (k * 5 + 4) (.string ⟨#[]⟩)
    unfold Row at h2
    unfold SO
    rw [List.length_set]
    refine ⟨?_, .inr ⟨b, cap, _, rfl, hB, h2, hn, hm, ?_, ?_⟩⟩
    · rw [tcells_len, List.length_set]
    · simpa using hs
    · rw [List.take_set, List.take_set, ht]
      exact tcells_hush X k s hk
theorem set_self {T : List Seat} {i : Nat} {s : Seat} (h : T[i]? = some s) : T.set i s = T := by
  refine List.ext_getElem? fun j => ?_
  rw [List.getElem?_set]
  by_cases hj : i = j
  · subst hj
    rw [if_pos rfl, if_pos (List.getElem?_eq_some_iff.1 h).1, h]
  · rw [if_neg hj]
end Go.Proofs.Ytiijlnlkhpneaaa.Se
namespace Go.Proofs.Ytiijlnlkhpneaaa.Se
open Go.RowKit
open Nd (Row wp_world post_Row grownBy_setCell below_of_grown grownBy_trans grown_of_below grownBy_refl)
theorem RT.lt {w : World} {B r : Nat} {room : Int} {X : List Seat} (h : RT w B r room X) : r < w.heap.size := by
  obtain ⟨v, h1, _⟩ := h.ex
  exact h1.lt
/-- the block of a table's row -/
def rowOf (w : World) (r : Nat) : Option Nat := match w.cell? ⟨r, 1, none⟩ with | some (.slice (some p) _ _) => some p.block | _ => none
/-- what is neither the table nor its row stays -/
def Oth (w : World) (r : Nat) (W : World) : Prop := ∀ b, b < w.heap.size → b ≠ r → rowOf w r ≠ some b → W.heap[b]? = w.heap[b]? ∧ rowOf W r ≠ some b
theorem Oth.refl (w : World) (r : Nat) : Oth w r w := fun _ _ _ h => ⟨rfl, h⟩
theorem Oth.trans {a b c : World} {r : Nat} (h : Oth a r b) (k : Oth b r c) (hs : a.heap.size ≤ b.heap.size) : Oth a r c := fun x hx hne hn =>
  ⟨(k x (Nat.lt_of_lt_of_le hx hs) hne (h x hx hne hn).2).1.trans (h x hx hne hn).1, (k x (Nat.lt_of_lt_of_le hx hs) hne (h x hx hne hn).2).2⟩
theorem Oth.of_below {w w' : World} {r : Nat} (h : Below w.heap.size w w') (hr : r < w.heap.size) : Oth w r w' := fun b hb _ hn =>
  ⟨h.block b hb, by unfold rowOf at hn ⊢; rw [h.cell (p := ⟨r, 1, none⟩) hr]; exact hn⟩
/-- what a call on the reference's table leaves -/
structure RD (w : World) (B r : Nat) (room : Int) (X : List Seat) (w' : World) : Prop where
  tab : RT w' B r room X
  keep : K61 w w'
  bel : Below B w w'
  oth : Oth w r w'
theorem RD.same {w : World} {B r : Nat} {room : Int} {X : List Seat} (h : RT w B r room X) : RD w B r room X w := ⟨h, K61.refl w, Below.refl _ _, Oth.refl _ _⟩
/-- a reply goes in the reference's row -/
theorem RT.hush {w : World} {B r : Nat} {room : Int} {X : List Seat} (h : RT w B r room X) {k : Nat} {s : Seat} (hk : X[k]? = some s) : ∃ p cap b, Row w r [.int .i64 room, .slice p X.length cap] 32 ∧ p = some ⟨b, 0, none⟩ ∧ B ≤ b ∧ b ≠ r ∧ b < w.heap.size ∧ (∀ W, Row W r [.int .i64 room, .slice p X.length cap] 32 → W.cell? ⟨r, 1, none⟩ = some (.slice p X.length cap)) ∧ (∀ j, w.frozen? ⟨b, j, none⟩ = false) ∧ RD w B r room (X.set k (hush s)) ((w.setCell ⟨b, k * 5 + 3, none⟩ (.bool false)).setCell ⟨b, k * 5 + 4, none⟩ (.string ⟨#[]⟩)) := by
  obtain ⟨v, h1, h2⟩ := h.ex
  obtain ⟨b, cap, cur, rfl, hB, hr, hso⟩ := h2.hush hk
  have hne : b ≠ r := by
    rintro rfl
    unfold Row at hr h1
    rw [hr] at h1
    simp at h1
  have hg : w.grownBy ((w.setCell ⟨b, k * 5 + 3, none⟩ (.bool false)).setCell ⟨b, k * 5 + 4, none⟩ (.string ⟨#[]⟩)) (some b) := grownBy_trans (grownBy_setCell _ _ _) (grownBy_setCell _ _ _)
  refine ⟨_, cap, b, h1, rfl, hB, hne, hr.lt, fun W hW => hW.cell 1, fun j => hr.frozen j, ⟨⟨_, h1.grown hg (fun e => hne (Option.some.inj e).symm), hso⟩, h.ge⟩, K61.of_grown hr (by decide) hg, below_of_grown (Below.refl _ _) hg (by have := h1.lt; have := h.ge; omega) hB, fun x hx hxr hxn => ?_⟩
  have c1 := h1.cell 1
  have c2 := (h1.grown hg (fun e => hne (Option.some.inj e).symm)).cell 1
  simp only [List.getElem?_cons_succ, List.getElem?_cons_zero] at c1 c2
  unfold rowOf at hxn ⊢
  rw [c1] at hxn
  rw [c2]
  exact ⟨hg.block x hx (fun e => hxn e.symm), hxn⟩
set_option maxHeartbeats 4000000 in
set_option maxRecDepth 100000 in
theorem rforget_any {w : World} {B r : Nat} {room : Int} {T : List Seat} (h : RT w B r room (T.filter seated)) (hr : Right T) (c : Int) :
    Calls Try.prog 24 #[.pointer (some ⟨r, 0, none⟩), .int .i64 c] w fun e w' => e = .returned (.bool (forgB T c)) ∧ RD w B r room ((forgT T c).filter seated) w' := by
  unfold forgB forgT
  rcases hc : isC c with _ | _
  · have HF := hid_in (rfind_any h c none (away hr hc))
    have H := hid_in (RD.same h)
    simp only [Bool.false_eq_true, if_false] at HF ⊢
    clear hc h
    go_enter Try.func24, Try.ntmps24
    go_wp2_with (first | (go_at_call 28; refine HF.out.mono ?_; rintro e w2 ⟨rfl, rfl⟩))
    go_ret
    exact ⟨rfl, H.out⟩
  · obtain ⟨i, s, hi, rfl, hs, hg⟩ := isC_at hc hr.len
    rw [hg, show ((i : Int) + 1 - 1).toNat = i by omega]
    simp only [if_true]
    rcases where_ hr hs with ⟨rfl, hno⟩ | ⟨hcl, hse, k, hk, hk2⟩
    · have HF := hid_in (rfind_any h ((i : Int) + 1) none hno)
      have e1 : T.set i (hush noSeat) = T := set_self hs
      rw [e1]
      have H := hid_in (RD.same h)
      simp only at HF
      clear hc h hs hg hno e1
      go_enter Try.func24, Try.ntmps24
      go_wp2_with (first | (go_at_call 28; refine HF.out.mono ?_; rintro e w2 ⟨rfl, rfl⟩))
      go_ret
      exact ⟨rfl, H.out⟩
    · have HF := hid_in (rfind_any h ((i : Int) + 1) (some k) hk2)
      simp only at HF
      have hkl : k < (T.filter seated).length := (List.getElem?_eq_some_iff.1 hk).1
      have h8 := filter_le8 hr
      have HN := hid_in (hr.at_ i s hs).none_
      rw [hush_both hr hs hk]
      obtain ⟨p0, cap0, hrow0, hl1, hl2, hat⟩ := h.at_
      obtain ⟨p, cap, b, hrow, rfl, hB, hbr, hbl, hW, hfz, hrd⟩ := h.hush hk
      have e0 : p0 = some ⟨b, 0, none⟩ ∧ cap0 = cap := by
        have x1 := hrow0.cell 1
        have x2 := hrow.cell 1
        rw [x1] at x2
        simp at x2
        exact ⟨x2.1, x2.2⟩
      obtain ⟨rfl, rfl⟩ := e0
      obtain ⟨b', eb, -, -, hcs⟩ := hat (by intro e; rw [e] at hk; simp at hk)
      obtain rfl : b = b' := by simpa using eb
      obtain ⟨u0, u1, u2, u3, u4⟩ := hcs _ (Below.refl _ _) k s hk
      have q1 : w.cell? ⟨r, 1, none⟩ = some (.slice (some ⟨b, 0, none⟩) (T.filter seated).length cap0) := hrow.cell 1
      have HSX : Hid (s.kept = false → RD w B r room ((T.filter seated).set k (hush s)) w) := hid_in (fun hkp => by
        have e : hush s = s := by
          obtain ⟨sc, sn, sa, sk, sr⟩ := s
          have e2 := HN.out hkp
          simp only at hkp e2
          subst hkp
          subst e2
          rfl
        rw [e, set_self hk]
        exact RD.same h)
      have HRD := hid_in hrd
      have z3 := hfz (k * 5 + 3)
      have z4 := hfz (k * 5 + 4)
      generalize (T.filter seated).set k (hush s) = X2 at *
      generalize (T.filter seated).length = m at *
      obtain ⟨sc, sn, sa, sk, sr⟩ := s
      simp only at u3 u4 HSX
      have j1 : (k : Int) < (m : Int) := by omega
      have j2 : ¬ (k : Int) < 0 := by omega
      have j3 : 0 ≤ (k : Int) := by omega
      clear hc h hs hg hat hrow hrow0 hcs hk hk2 hkl hcl hse h8 hl1 hl2 u0 u1 u2 hW hfz hrd eb
      cases sk with
      | false =>
        go_enter Try.func24, Try.ntmps24
        go_wp2_with (first | (go_at_call 28; refine HF.out.mono ?_; rintro e w2 ⟨rfl, rfl⟩))
        go_ret
        exact ⟨rfl, HSX.out trivial⟩
      | true =>
        go_enter Try.func24, Try.ntmps24
        go_wp2_with (first | (go_at_call 28; refine HF.out.mono ?_; rintro e w2 ⟨rfl, rfl⟩))
        go_ret
        exact ⟨rfl, HRD.out⟩
end Go.Proofs.Ytiijlnlkhpneaaa.Se
