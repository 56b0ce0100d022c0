/-
  The reference's Forget. Plain facts for the reference's Record; its append.
-/
import Derived.Laws.Tables
import Derived.Laws.CopyOwn
import Derived.Deep.RegionLaw
import Derived.Deep.DrawnRows
import Derived.Lib.AppendZeros
import Derived.OwnWalk
import Derived.Laws.StructEq
import Derived.Test.YtiijlnlkhpneaaaD00
import Derived.Test.YtiijlnlkhpneaaaD01
import Derived.Test.YtiijlnlkhpneaaaD02
import Derived.Test.YtiijlnlkhpneaaaD03
import Derived.Test.YtiijlnlkhpneaaaD04
import Derived.Test.YtiijlnlkhpneaaaD05
import Derived.Test.YtiijlnlkhpneaaaD06
import Derived.Test.YtiijlnlkhpneaaaD07
namespace Go.Proofs.Ytiijlnlkhpneaaa.Se
open Go.RowKit
open Nd (Row wp_world grownBy_setCell below_of_grown grownBy_trans grown_of_below grownBy_refl)
theorem RT.lt {w : World} {B r : Nat} {room : Int} {X : List Seat} (h : RT w B r room X) : r < w.heap.size := by
  obtain ⟨v, h1, _⟩ := h.ex
  exact h1.lt
/-- the block of a table's row -/
def rowOf (w : World) (r : Nat) : Option Nat := match w.cell? ⟨r, 1, none⟩ with | some (.slice (some p) _ _) => some p.block | _ => none
/-- what is neither the table nor its row stays -/
def Oth (w : World) (r : Nat) (W : World) : Prop := ∀ b, b < w.heap.size → b ≠ r → rowOf w r ≠ some b → W.heap[b]? = w.heap[b]? ∧ rowOf W r ≠ some b
theorem Oth.refl (w : World) (r : Nat) : Oth w r w := fun _ _ _ h => ⟨rfl, h⟩
theorem Oth.trans {a b c : World} {r : Nat} (h : Oth a r b) (k : Oth b r c) (hs : a.heap.size ≤ b.heap.size) : Oth a r c := fun x hx hne hn =>
  ⟨(k x (Nat.lt_of_lt_of_le hx hs) hne (h x hx hne hn).2).1.trans (h x hx hne hn).1, (k x (Nat.lt_of_lt_of_le hx hs) hne (h x hx hne hn).2).2⟩
theorem Oth.of_below {w w' : World} {r : Nat} (h : Below w.heap.size w w') (hr : r < w.heap.size) : Oth w r w' := fun b hb _ hn =>
  ⟨h.block b hb, by unfold rowOf at hn ⊢; rw [h.cell (p := ⟨r, 1, none⟩) hr]; exact hn⟩
/-- what a call on the reference's table leaves -/
structure RD (w : World) (B r : Nat) (room : Int) (X : List Seat) (w' : World) : Prop where
  tab : RT w' B r room X
  keep : K61 w w'
  bel : Below B w w'
  oth : Oth w r w'
theorem RD.same {w : World} {B r : Nat} {room : Int} {X : List Seat} (h : RT w B r room X) : RD w B r room X w := ⟨h, K61.refl w, Below.refl _ _, Oth.refl _ _⟩
/-- a reply goes in the reference's row -/
theorem RT.hush {w : World} {B r : Nat} {room : Int} {X : List Seat} (h : RT w B r room X) {k : Nat} {s : Seat} (hk : X[k]? = some s) : ∃ p cap b, Row w r [.int .i64 room, .slice p X.length cap] 32 ∧ p = some ⟨b, 0, none⟩ ∧ B ≤ b ∧ b ≠ r ∧ b < w.heap.size ∧ (∀ W, Row W r [.int .i64 room, .slice p X.length cap] 32 → W.cell? ⟨r, 1, none⟩ = some (.slice p X.length cap)) ∧ (∀ j, w.frozen? ⟨b, j, none⟩ = false) ∧ RD w B r room (X.set k (hush s)) ((w.setCell ⟨b, k * 5 + 3, none⟩ (.bool false)).setCell ⟨b, k * 5 + 4, none⟩ (.string ⟨#[]⟩)) := by
  obtain ⟨v, h1, h2⟩ := h.ex
  obtain ⟨b, cap, cur, rfl, hB, hr, hso⟩ := h2.hush hk
  have hne : b ≠ r := by
    rintro rfl
    unfold Row at hr h1
    rw [hr] at h1
    simp at h1
  have hg : w.grownBy ((w.setCell ⟨b, k * 5 + 3, none⟩ (.bool false)).setCell ⟨b, k * 5 + 4, none⟩ (.string ⟨#[]⟩)) (some b) := grownBy_trans (grownBy_setCell _ _ _) (grownBy_setCell _ _ _)
  refine ⟨_, cap, b, h1, rfl, hB, hne, hr.lt, fun W hW => hW.cell 1, fun j => hr.frozen j, ⟨⟨_, h1.grown hg (fun e => hne (Option.some.inj e).symm), hso⟩, h.ge⟩, K61.of_grown hr (by decide) hg, below_of_grown (Below.refl _ _) hg (by have := h1.lt; have := h.ge; omega) hB, fun x hx hxr hxn => ?_⟩
  have c1 := h1.cell 1
  have c2 := (h1.grown hg (fun e => hne (Option.some.inj e).symm)).cell 1
  simp only [List.getElem?_cons_succ, List.getElem?_cons_zero] at c1 c2
  unfold rowOf at hxn ⊢
  rw [c1] at hxn
  rw [c2]
  exact ⟨hg.block x hx (fun e => hxn e.symm), hxn⟩
set_option maxHeartbeats 4000000 in
set_option maxRecDepth 100000 in
theorem rforget_any {w : World} {B r : Nat} {room : Int} {T : List Seat} (h : RT w B r room (T.filter seated)) (hr : Right T) (c : Int) :
    Calls Try.prog 24 #[.pointer (some ⟨r, 0, none⟩), .int .i64 c] w fun e w' => e = .returned (.bool (forgB T c)) ∧ RD w B r room ((forgT T c).filter seated) w' := by
  unfold forgB forgT
  rcases hc : isC c with _ | _
  · have HF := hid_in (rfind_any h c none (away hr hc))
    have H := hid_in (RD.same h)
    simp only [Bool.false_eq_true, if_false] at HF ⊢
    clear hc h
    go_enter Try.func24, Try.ntmps24
    go_wp2_with (first | (go_at_call 28; refine HF.out.mono ?_; rintro e w2 ⟨rfl, rfl⟩))
    go_ret
    exact ⟨rfl, H.out⟩
  · obtain ⟨i, s, hi, rfl, hs, hg⟩ := isC_at hc hr.len
    rw [hg, show ((i : Int) + 1 - 1).toNat = i by omega]
    simp only [if_true]
    rcases where_ hr hs with ⟨rfl, hno⟩ | ⟨hcl, hse, k, hk, hk2⟩
    · have HF := hid_in (rfind_any h ((i : Int) + 1) none hno)
      have e1 : T.set i (hush noSeat) = T := set_self hs
      rw [e1]
      have H := hid_in (RD.same h)
      simp only at HF
      clear hc h hs hg hno e1
      go_enter Try.func24, Try.ntmps24
      go_wp2_with (first | (go_at_call 28; refine HF.out.mono ?_; rintro e w2 ⟨rfl, rfl⟩))
      go_ret
      exact ⟨rfl, H.out⟩
    · have HF := hid_in (rfind_any h ((i : Int) + 1) (some k) hk2)
      simp only at HF
      have hkl : k < (T.filter seated).length := (List.getElem?_eq_some_iff.1 hk).1
      have h8 := filter_le8 hr
      have HN := hid_in (hr.at_ i s hs).none_
      rw [hush_both hr hs hk]
      obtain ⟨p0, cap0, hrow0, hl1, hl2, hat⟩ := h.at_
      obtain ⟨p, cap, b, hrow, rfl, hB, hbr, hbl, hW, hfz, hrd⟩ := h.hush hk
      have e0 : p0 = some ⟨b, 0, none⟩ ∧ cap0 = cap := by
        have x1 := hrow0.cell 1
        have x2 := hrow.cell 1
        rw [x1] at x2
        simp at x2
        exact ⟨x2.1, x2.2⟩
      obtain ⟨rfl, rfl⟩ := e0
      obtain ⟨b', eb, -, -, hcs⟩ := hat (by intro e; rw [e] at hk; simp at hk)
      obtain rfl : b = b' := by simpa using eb
      obtain ⟨u0, u1, u2, u3, u4⟩ := hcs _ (Below.refl _ _) k s hk
      have q1 : w.cell? ⟨r, 1, none⟩ = some (.slice (some ⟨b, 0, none⟩) (T.filter seated).length cap0) := hrow.cell 1
      have HSX : Hid (s.kept = false → RD w B r room ((T.filter seated).set k (hush s)) w) := hid_in (fun hkp => by
        have e : hush s = s := by
          obtain ⟨sc, sn, sa, sk, sr⟩ := s
          have e2 := HN.out hkp
          simp only at hkp e2
          subst hkp
          subst e2
          rfl
        rw [e, set_self hk]
        exact RD.same h)
      have HRD := hid_in hrd
      have z3 := hfz (k * 5 + 3)
      have z4 := hfz (k * 5 + 4)
      generalize (T.filter seated).set k (hush s) = X2 at *
      generalize (T.filter seated).length = m at *
      obtain ⟨sc, sn, sa, sk, sr⟩ := s
      simp only at u3 u4 HSX
      have j1 : (k : Int) < (m : Int) := by omega
      have j2 : ¬ (k : Int) < 0 := by omega
      have j3 : 0 ≤ (k : Int) := by omega
      clear hc h hs hg hat hrow hrow0 hcs hk hk2 hkl hcl hse h8 hl1 hl2 u0 u1 u2 hW hfz hrd eb
      cases sk with
      | false =>
        go_enter Try.func24, Try.ntmps24
        go_wp2_with (first | (go_at_call 28; refine HF.out.mono ?_; rintro e w2 ⟨rfl, rfl⟩))
        go_ret
        exact ⟨rfl, HSX.out trivial⟩
      | true =>
        go_enter Try.func24, Try.ntmps24
        go_wp2_with (first | (go_at_call 28; refine HF.out.mono ?_; rintro e w2 ⟨rfl, rfl⟩))
        go_ret
        exact ⟨rfl, HRD.out⟩
end Go.Proofs.Ytiijlnlkhpneaaa.Se
namespace Go.Proofs.Ytiijlnlkhpneaaa.Se
open Go.RowKit
open Nd (Row wp_world grownBy_setCell below_of_grown grownBy_trans grown_of_below grownBy_refl)
theorem put_end {n : Seat} {Y : List Seat} (h : ∀ y ∈ Y, y.client < n.client) : putC n Y = Y ++ [n] := by
  unfold putC
  rw [List.filter_eq_self.2 (fun y hy => by have := h y hy; simpa using this), List.filter_eq_nil_iff.2 (fun y hy => by have := h y hy; simp; omega)]
theorem put_parts {n : Seat} {Y : List Seat} (h : ∀ y ∈ Y, y.client < n.client) : Y.filter (fun s => decide (s.client < n.client)) = Y ∧ Y.filter (fun s => decide (n.client < s.client)) = [] :=
  ⟨List.filter_eq_self.2 (fun y hy => by have := h y hy; simpa using this), List.filter_eq_nil_iff.2 (fun y hy => by have := h y hy; simp; omega)⟩
theorem put_at {n x : Seat} {Y : List Seat} (h : ∀ y ∈ Y, y.client < n.client) (hx : x.client = n.client) : putC n (Y ++ [x]) = Y ++ [n] := by
  obtain ⟨h1, h2⟩ := put_parts h
  unfold putC
  rw [List.filter_append, List.filter_append, h1, h2]
  simp [hx]
theorem put_over {n x : Seat} {Y : List Seat} (h : ∀ y ∈ Y, y.client < n.client) (hx : n.client < x.client) : putC n (Y ++ [x]) = Y ++ [n] ++ [x] := by
  obtain ⟨h1, h3⟩ := put_parts h
  unfold putC
  rw [List.filter_append, List.filter_append, h1, h3]
  have h2 : ¬ x.client < n.client := by omega
  simp [hx, h2]
theorem put_more {n x : Seat} {Y : List Seat} (hx : n.client < x.client) : putC n (Y ++ [x]) = putC n Y ++ [x] := by
  unfold putC
  have h2 : ¬ x.client < n.client := by omega
  rw [List.filter_append, List.filter_append]
  simp [hx, h2]
theorem take_snoc {X : List Seat} {k : Nat} {x : Seat} (h : X[k]? = some x) : X.take (k + 1) = X.take k ++ [x] := by
  rw [List.take_add_one, h]
  rfl
theorem putC_len (n : Seat) (Y : List Seat) : (putC n Y).length ≤ Y.length + 1 + Y.length := by
  unfold putC
  rw [List.length_append, List.length_cons]
  have h1 := List.length_filter_le (fun s => decide (s.client < n.client)) Y
  have h2 := List.length_filter_le (fun s => decide (n.client < s.client)) Y
  omega
/-- between two rounds of the first loop -/
def Ins (w : World) (n : Seat) (X : List Seat) (k : Nat) (put : Bool) (v : Value) (W : World) : Prop :=
  Below w.heap.size w W ∧ ((put = false ∧ SO W w.heap.size v (X.take k) ∧ ∀ y ∈ X.take k, y.client < n.client) ∨ (put = true ∧ SO W w.heap.size v (putC n (X.take k)) ∧ ∃ j x, X[j]? = some x ∧ j < k ∧ n.client ≤ x.client))
/-- between two rounds of the search -/
def Srch (X : List Seat) (q : Nat) (v : Value) : Prop := (v = .int .i64 (-1) ∧ oldS (X.take q) = noSeat) ∨ (∃ (k : Nat) (s : Seat), v = .int .i64 (k : Int) ∧ k < q ∧ X[k]? = some s ∧ s.kept = true ∧ oldS (X.take q) = s)
theorem pick_off {f x : Seat} (h : x.kept = false) : pickS f x = f := by
  unfold pickS
  rw [if_neg (by rw [h]; simp)]
theorem pick_first {x : Seat} (h : x.kept = true) : pickS noSeat x = x := by
  unfold pickS
  rw [if_pos ⟨h, .inl rfl⟩]
theorem pick_less {f x : Seat} (h : x.kept = true) (hl : x.at_ < f.at_) : pickS f x = x := by
  unfold pickS
  rw [if_pos ⟨h, .inr hl⟩]
theorem pick_more {f x : Seat} (hf : f.kept = true) (hl : ¬ x.at_ < f.at_) : pickS f x = f := by
  unfold pickS
  rw [if_neg (by rw [hf]; simp; omega)]
/-- what the search finds -/
theorem srch_end {T : List Seat} (hr : Right T) {room : Int} (h0 : 0 ≤ room) (hb : room < (sumR T : Int)) {v : Value} (h : Srch (T.filter seated) (T.filter seated).length v) : ∃ (k i : Nat) (s : Seat), v = .int .i64 (k : Int) ∧ k < (T.filter seated).length ∧ (T.filter seated)[k]? = some s ∧ (T.set i (hush s)).filter seated = (T.filter seated).set k (hush s) ∧ Right (T.set i (hush s)) ∧ keptN (T.set i (hush s)) + 1 = keptN T ∧ mkR room T = mkR room (T.set i (hush s)) := by
  obtain ⟨i, s, h1, h2, h3, h4, h5, h6, h7⟩ := mk_step hr h0 hb
  have ho : oldS (T.filter seated) = oldS T := fold_seated T 0 noSeat hr.from
  obtain ⟨i', s', a1, a2, a3, a4, a5, a6⟩ := old_at hr ⟨s, List.mem_of_getElem? h1, h2⟩
  unfold Srch at h
  rw [List.take_length] at h
  rcases h with ⟨_, h⟩ | ⟨k, t, hv, hkl, hk, hkp, h⟩
  · rw [ho, a3] at h
    rw [h] at a2
    cases a2
  · rw [ho, a3] at h
    subst h
    have hT : T.set i (hush s) = T.set i' (hush s') := h4.symm.trans a6
    rw [hT] at h5 h6 h7
    exact ⟨k, i', s', hv, hkl, hk, hush_both hr a1 hk, h5, h6, h7⟩
end Go.Proofs.Ytiijlnlkhpneaaa.Se
