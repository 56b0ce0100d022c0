/-
  The reference's list and the program's array. The reference's Look and Forget.
-/
import Derived.Laws.Tables
import Derived.Laws.CopyOwn
import Derived.Deep.RegionLaw
import Derived.Deep.DrawnRows
import Derived.Lib.AppendZeros
import Derived.OwnWalk
import Derived.Laws.StructEq
import Derived.Test.YtiijlnlkhpneaaaD00
import Derived.Test.YtiijlnlkhpneaaaD01
import Derived.Test.YtiijlnlkhpneaaaD02
import Derived.Test.YtiijlnlkhpneaaaD03
import Derived.Test.YtiijlnlkhpneaaaD04
import Derived.Test.YtiijlnlkhpneaaaD05
import Derived.Test.YtiijlnlkhpneaaaD06
namespace Go.Proofs.Ytiijlnlkhpneaaa.Se
open Go.RowKit
open Nd (Row wp_world grownBy_setCell below_of_grown grownBy_trans grown_of_below grownBy_refl)
theorem From.ge {off : Nat} {T : List Seat} (h : From off T) {s : Seat} (hs : s ∈ T.filter seated) : (off : Int) + 1 ≤ s.client := by
  have h1 := List.mem_filter.1 hs
  obtain ⟨j, hj⟩ := List.getElem?_of_mem h1.1
  rcases h j s hj with h2 | ⟨_, h2⟩
  · rw [seated_no h2] at h1
    exact absurd h1.2 (by simp)
  · rw [h2]; omega
theorem filter_pair : ∀ (T : List Seat) (off : Nat), From off T → (T.filter seated).Pairwise (fun a b => a.client < b.client)
  | [], _, _ => List.Pairwise.nil
  | a :: r, off, h => by
    have ih := filter_pair r (off + 1) h.tail
    rw [List.filter_cons]
    rcases h 0 a rfl with h1 | ⟨h1, h2⟩
    · rw [seated_no h1]
      exact ih
    · have h3 : seated a = true := by simpa [seated] using h1
      rw [h3]
      simp only [if_true]
      refine List.Pairwise.cons (fun b hb => ?_) ih
      have := h.tail.ge hb
      rw [h2]
      omega
theorem pair_at {X : List Seat} (h : X.Pairwise (fun a b => a.client < b.client)) {j k : Nat} {x y : Seat} (hj : X[j]? = some x) (hk : X[k]? = some y) (hlt : j < k) : x.client < y.client := by
  obtain ⟨h1, rfl⟩ := List.getElem?_eq_some_iff.1 hj
  obtain ⟨h2, rfl⟩ := List.getElem?_eq_some_iff.1 hk
  exact List.pairwise_iff_getElem.1 h j k h1 h2 hlt
/-- where a client stands in the list -/
theorem where_ {T : List Seat} (hr : Right T) {i : Nat} {s : Seat} (hs : T[i]? = some s) : (s = noSeat ∧ ∀ x ∈ T.filter seated, x.client ≠ (i : Int) + 1) ∨ (s.client = (i : Int) + 1 ∧ seated s = true ∧ ∃ k, (T.filter seated)[k]? = some s ∧ hasC ((i : Int) + 1) (T.filter seated) k) := by
  rcases hr.from i s hs with h1 | ⟨h1, h2⟩
  · left
    refine ⟨h1, fun x hx hc => ?_⟩
    have h3 := List.mem_filter.1 hx
    obtain ⟨j, hj⟩ := List.getElem?_of_mem h3.1
    rcases hr.from j x hj with h4 | ⟨_, h4⟩
    · rw [seated_no h4] at h3
      exact absurd h3.2 (by simp)
    · have : i = j := by omega
      subst this
      rw [hs] at hj
      cases hj
      rw [seated_no h1] at h3
      exact absurd h3.2 (by simp)
  · right
    rw [Nat.zero_add] at h2
    have h3 : seated s = true := by simpa [seated] using h1
    obtain ⟨k, hk⟩ := List.getElem?_of_mem (List.mem_filter.2 ⟨List.mem_of_getElem? hs, h3⟩)
    refine ⟨h2, h3, k, hk, s, hk, h2, fun j x hx hj => ?_⟩
    have := pair_at (filter_pair T 0 hr.from) hx hk hj
    omega
theorem away {T : List Seat} (hr : Right T) {c : Int} (hc : isC c = false) : ∀ x ∈ T.filter seated, x.client ≠ c := fun x hx e => by
  have h3 := List.mem_filter.1 hx
  obtain ⟨j, hj⟩ := List.getElem?_of_mem h3.1
  have hl : j < 8 := by rw [← hr.len]; exact (List.getElem?_eq_some_iff.1 hj).1
  rcases hr.from j x hj with h4 | ⟨_, h4⟩
  · rw [seated_no h4] at h3
    exact absurd h3.2 (by simp)
  · have h5 : ¬ (1 ≤ c ∧ c ≤ 8) := of_decide_eq_false hc
    omega
/-- a client's reply goes, in a list -/
def hushC (c : Int) (X : List Seat) : List Seat := X.map (fun s => if s.client = c then hush s else s)
theorem hushC_set {X : List Seat} (h : X.Pairwise (fun a b => a.client < b.client)) {k : Nat} {s : Seat} (hk : X[k]? = some s) : X.set k (hush s) = hushC s.client X := by
  refine List.ext_getElem? fun j => ?_
  unfold hushC
  rw [List.getElem?_map, List.getElem?_set]
  by_cases hj : k = j
  · subst hj
    rw [if_pos rfl, if_pos (List.getElem?_eq_some_iff.1 hk).1, hk]
    simp
  · rw [if_neg hj]
    cases hx : X[j]? with
    | none => rfl
    | some x =>
      have hne : x.client ≠ s.client := by
        rcases Nat.lt_or_ge j k with hlt | hge
        · have := pair_at h hx hk hlt; omega
        · have := pair_at h hk hx (by omega); omega
      simp [hne]
theorem hushC_keep {X : List Seat} {c : Int} (h : ∀ x ∈ X, x.client ≠ c) : hushC c X = X := by
  unfold hushC
  have e : X.map (fun s => if s.client = c then hush s else s) = X.map id := List.map_congr_left (fun x hx => by rw [if_neg (h x hx)]; rfl)
  rw [e, List.map_id]
theorem hushC_from : ∀ (T : List Seat) (off i : Nat) (s : Seat), From off T → T[i]? = some s → (T.set i (hush s)).filter seated = hushC (((off + i : Nat) : Int) + 1) (T.filter seated)
  | [], _, _, _, _, hs => by simp at hs
  | a :: r, off, 0, s, h, hs => by
    simp at hs
    subst hs
    rw [List.set_cons_zero, List.filter_cons, List.filter_cons]
    have hk : hushC (((off + 0 : Nat) : Int) + 1) (r.filter seated) = r.filter seated := hushC_keep (fun x hx => by have := h.tail.ge hx; omega)
    have hse : seated (hush a) = seated a := rfl
    rw [hse]
    rcases h 0 a rfl with h1 | ⟨h1, h2⟩
    · rw [seated_no h1]
      exact hk.symm
    · have h3 : seated a = true := by simpa [seated] using h1
      rw [h3]
      simp only [if_true]
      unfold hushC at hk ⊢
      rw [List.map_cons, hk, if_pos h2]
  | a :: r, off, i + 1, s, h, hs => by
    have ih := hushC_from r (off + 1) i s h.tail (by simpa using hs)
    rw [show off + 1 + i = off + (i + 1) by omega] at ih
    rw [List.set_cons_succ, List.filter_cons, List.filter_cons]
    rcases h 0 a rfl with h1 | ⟨h1, h2⟩
    · rw [seated_no h1]
      exact ih
    · have h3 : seated a = true := by simpa [seated] using h1
      rw [h3]
      simp only [if_true]
      unfold hushC at ih ⊢
      rw [List.map_cons, ih, if_neg (by rw [h2]; omega)]
/-- a reply goes on both sides -/
theorem hush_both {T : List Seat} (hr : Right T) {i k : Nat} {s : Seat} (hi : T[i]? = some s) (hk : (T.filter seated)[k]? = some s) : (T.set i (hush s)).filter seated = (T.filter seated).set k (hush s) := by
  rw [hushC_set (filter_pair T 0 hr.from) hk]
  have h1 := hushC_from T 0 i s hr.from hi
  rw [Nat.zero_add] at h1
  rw [h1]
  rcases where_ hr hi with ⟨h2, _⟩ | ⟨h2, _⟩
  · have := (List.mem_filter.1 (List.mem_of_getElem? hk)).2
    rw [seated_no h2] at this
    cases this
  · rw [h2]
/-- a seat that is put, in a list -/
def putC (n : Seat) (X : List Seat) : List Seat := X.filter (fun s => decide (s.client < n.client)) ++ n :: X.filter (fun s => decide (n.client < s.client))
theorem putC_from : ∀ (T : List Seat) (off i : Nat) (n : Seat), From off T → i < T.length → seated n = true → n.client = ((off + i : Nat) : Int) + 1 → (T.set i n).filter seated = putC n (T.filter seated)
  | [], _, _, _, _, hl, _, _ => by simp at hl
  | a :: r, off, 0, n, h, _, hn, hc => by
    have k1 : (r.filter seated).filter (fun s => decide (s.client < n.client)) = [] := List.filter_eq_nil_iff.2 (fun x hx => by have := h.tail.ge hx; simp; omega)
    have k2 : (r.filter seated).filter (fun s => decide (n.client < s.client)) = r.filter seated := List.filter_eq_self.2 (fun x hx => by have := h.tail.ge hx; simp; omega)
    unfold putC
    rw [List.set_cons_zero, List.filter_cons, hn, List.filter_cons]
    simp only [if_true]
    rcases h 0 a rfl with h1 | ⟨h1, h2⟩
    · rw [seated_no h1]
      simp only [Bool.false_eq_true, if_false]
      rw [k1, k2]
      rfl
    · have h3 : seated a = true := by simpa [seated] using h1
      rw [h3]
      simp only [if_true]
      rw [List.filter_cons, List.filter_cons, k1, k2, decide_eq_false (by omega), decide_eq_false (by omega)]
      rfl
  | a :: r, off, i + 1, n, h, hl, hn, hc => by
    have ih := putC_from r (off + 1) i n h.tail (by simpa using hl) hn (by rw [hc]; omega)
    unfold putC at ih ⊢
    rw [List.set_cons_succ, List.filter_cons, ih, List.filter_cons]
    rcases h 0 a rfl with h1 | ⟨h1, h2⟩
    · rw [seated_no h1]
      rfl
    · have h3 : seated a = true := by simpa [seated] using h1
      rw [h3]
      simp only [if_true]
      rw [List.filter_cons, List.filter_cons, decide_eq_true (by omega), decide_eq_false (by omega)]
      rfl
/-- the seat that goes first is the list's, too -/
theorem fold_seated : ∀ (T : List Seat) (off : Nat) (f : Seat), From off T → (T.filter seated).foldl pickS f = T.foldl pickS f
  | [], _, _, _ => rfl
  | a :: r, off, f, h => by
    rw [List.filter_cons, List.foldl_cons]
    rcases h 0 a rfl with h1 | ⟨h1, h2⟩
    · rw [seated_no h1]
      simp only [Bool.false_eq_true, if_false]
      rw [fold_seated r (off + 1) f h.tail]
      have : pickS f a = f := by
        unfold pickS
        rw [if_neg (by rw [h1]; simp [noSeat])]
      rw [this]
    · have h3 : seated a = true := by simpa [seated] using h1
      rw [h3]
      simp only [if_true]
      rw [List.foldl_cons, fold_seated r (off + 1) _ h.tail]
end Go.Proofs.Ytiijlnlkhpneaaa.Se
namespace Go.Proofs.Ytiijlnlkhpneaaa.Se
open Go.RowKit
open Nd (Row wp_world grownBy_setCell below_of_grown grownBy_trans grown_of_below grownBy_refl)
set_option maxHeartbeats 4000000 in
set_option maxRecDepth 100000 in
theorem rlook_any {w : World} {B r : Nat} {room : Int} {T : List Seat} (h : RT w B r room (T.filter seated)) (hr : Right T) (c n : Int) :
    Calls Try.prog 15 #[.pointer (some ⟨r, 0, none⟩), .int .i64 c, .int .i64 n] w fun e w' => e = .returned (.tuple #[.int .i64 (lookS T c n).1, .string (lookS T c n).2]) ∧ Below w.heap.size w w' := by
  unfold lookS
  rcases hc : isC c with _ | _
  · have hc2 : ¬ (1 ≤ c ∧ c ≤ 8) := of_decide_eq_false hc
    simp only [Bool.false_and, Bool.false_eq_true, if_false]
    clear hc h
    by_cases k1 : c < 1
    · clear hc2
      go_enter Try.func15, Try.ntmps15
      go_wp2_with fail
      go_ret2
      exact ⟨rfl, Below.refl _ _⟩
    · have k2 : 8 < c := by omega
      clear hc2
      go_enter Try.func15, Try.ntmps15
      go_wp2_with fail
      go_ret2
      exact ⟨rfl, Below.refl _ _⟩
  · obtain ⟨i, s, hi, rfl, hs, hg⟩ := isC_at hc hr.len
    have k1 : ¬ (i : Int) + 1 < 1 := by omega
    have k2 : ¬ 8 < (i : Int) + 1 := by omega
    rcases hn : isN n with _ | _
    · have hn2 : ¬ (1 ≤ n ∧ n ≤ 1099511627776) := of_decide_eq_false hn
      simp only [Bool.and_false, Bool.false_eq_true, if_false]
      clear hc h hn hs hg
      by_cases k3 : n < 1
      · clear hn2
        go_enter Try.func15, Try.ntmps15
        go_wp2_with fail
        go_ret2
        exact ⟨rfl, Below.refl _ _⟩
      · have k4 : 1099511627776 < n := by omega
        clear hn2
        go_enter Try.func15, Try.ntmps15
        go_wp2_with fail
        go_ret2
        exact ⟨rfl, Below.refl _ _⟩
    · have hn2 : 1 ≤ n ∧ n ≤ 1099511627776 := of_decide_eq_true hn
      have k3 : ¬ n < 1 := by omega
      have k4 : ¬ 1099511627776 < n := by omega
      rw [hg]
      simp only [Bool.and_self, if_true]
      obtain ⟨p, cap, hrow, hl1, hl2, hat⟩ := h.at_
      have q1 : w.cell? ⟨r, 1, none⟩ = some (.slice p (T.filter seated).length cap) := hrow.cell 1
      rcases where_ hr hs with ⟨rfl, hno⟩ | ⟨hcl, hse, k, hk, hk2⟩
      · have HF := hid_in (rfind_any h ((i : Int) + 1) none hno)
        have e1 : seatSays noSeat n = (1, ⟨#[]⟩) := by
          unfold seatSays
          rw [if_pos (by show (0 : Int) < n; omega)]
        rw [e1]
        simp only at HF ⊢
        clear hc h hn hs hg hn2 hno hat hrow
        go_enter Try.func15, Try.ntmps15
        go_wp2_with (first | (go_at_call 28; refine HF.out.mono ?_; rintro e w2 ⟨rfl, rfl⟩))
        go_ret2
        exact ⟨rfl, Below.refl _ _⟩
      · have HF := hid_in (rfind_any h ((i : Int) + 1) (some k) hk2)
        simp only at HF
        have hkl : k < (T.filter seated).length := (List.getElem?_eq_some_iff.1 hk).1
        obtain ⟨b, rfl, -, -, hcs⟩ := hat (by intro e; rw [e] at hk; simp at hk)
        obtain ⟨u0, u1, u2, u3, u4⟩ := hcs _ (Below.refl _ _) k s hk
        have h8 := filter_le8 hr
        generalize (T.filter seated).length = m at *
        obtain ⟨sc, sn, sa, sk, sr⟩ := s
        simp only at u0 u1 u2 u3 u4
        unfold seatSays
        simp only
        have j1 : (k : Int) < (m : Int) := by omega
        have j2 : ¬ (k : Int) < 0 := by omega
        have j3 : 0 ≤ (k : Int) := by omega
        clear hc h hn hs hg hn2 hat hrow hcs hk hk2 hkl hcl hse h8 hl1 hl2 u0 u2
        by_cases y1 : sn < n
        · rw [if_pos y1]
          go_enter Try.func15, Try.ntmps15
          go_wp2_with (first | (go_at_call 28; refine HF.out.mono ?_; rintro e w2 ⟨rfl, rfl⟩))
          go_ret2
          exact ⟨rfl, Below.refl _ _⟩
        · rw [if_neg y1]
          by_cases y2 : n < sn
          · rw [if_pos y2]
            go_enter Try.func15, Try.ntmps15
            go_wp2_with (first | (go_at_call 28; refine HF.out.mono ?_; rintro e w2 ⟨rfl, rfl⟩))
            go_ret2
            exact ⟨rfl, Below.refl _ _⟩
          · rw [if_neg y2]
            cases sk with
            | false =>
              go_enter Try.func15, Try.ntmps15
              go_wp2_with (first | (go_at_call 28; refine HF.out.mono ?_; rintro e w2 ⟨rfl, rfl⟩))
              go_ret2
              exact ⟨rfl, Below.refl _ _⟩
            | true =>
              go_enter Try.func15, Try.ntmps15
              go_upto_region 9 with (first | (go_at_call 28; refine HF.out.mono ?_; rintro e w2 ⟨rfl, rfl⟩))
              go_quiet (fail)
              go_wp2_with fail
              go_ret2
              exact ⟨rfl, Nd.below_drewN (Below.refl _ _) _⟩
/-- the program's tables stay -/
def K61 (w w' : World) : Prop := ∀ (b : Nat) cs fr, w.heap[b]? = some (.cells cs 61 fr) → w'.heap[b]? = some (.cells cs 61 fr)
theorem Tab.k61 {w w' : World} {g : Nat} {room : Int} {T : List Seat} (h : Tab w g room T) (k : K61 w w') : Tab w' g room T := ⟨k g _ _ h.row, h.len⟩
theorem K61.refl (w : World) : K61 w w := fun _ _ _ h => h
theorem K61.trans {a b c : World} (h : K61 a b) (k : K61 b c) : K61 a c := fun x cs fr e => k x cs fr (h x cs fr e)
theorem K61.of_below {w w' : World} (h : Below w.heap.size w w') : K61 w w' := fun b cs fr e => by
  rw [h.block b (Array.getElem?_eq_some_iff.1 e).1]
  exact e
theorem K61.of_grown {w w' : World} {r : Nat} {vs : List Value} {t : TypeId} (hr : Row w r vs t) (ht : t ≠ 61) (hg : w.grownBy w' (some r)) : K61 w w' := fun b cs fr e => by
  rw [hg.block b (Array.getElem?_eq_some_iff.1 e).1 (fun e2 => ?_)]
  · exact e
  · obtain rfl := Option.some.inj e2
    unfold Row at hr
    rw [hr] at e
    simp only [Option.some.injEq, Obj.cells.injEq] at e
    exact ht e.2.1
theorem SO.hush {w : World} {B : Nat} {v : Value} {X : List Seat} (h : SO w B v X) {k : Nat} {s : Seat} (hk : X[k]? = some s) : ∃ b cap cur, v = .slice (some ⟨b, 0, none⟩) X.length cap ∧ B ≤ b ∧ Row w b cur 48 ∧ SO ((w.setCell ⟨b, k * 5 + 3, none⟩ (.bool false)).setCell ⟨b, k * 5 + 4, none⟩ (.string ⟨#[]⟩)) B v (X.set k (hush s)) := by
  obtain ⟨h0, ⟨rfl, h1⟩ | ⟨b, cap, cur, rfl, hB, hh, hn, hm, hs, ht⟩⟩ := h
  · have := (List.getElem?_eq_some_iff.1 hk).1
    omega
  · have hr : Row w b cur.toList 48 := by unfold Row; rw [Array.toArray_toList]; exact hh
    refine ⟨b, cap, cur.toList, rfl, hB, hr, ?_⟩
    have h2 := (hr.set_same (k * 5 + 3) (.bool false)).set_same (k * 5 + 4) (.string ⟨#[]⟩)
    unfold Row at h2
    unfold SO
    rw [List.length_set]
    refine ⟨?_, .inr ⟨b, cap, _, rfl, hB, h2, hn, hm, ?_, ?_⟩⟩
    · rw [tcells_len, List.length_set]
    · simpa using hs
    · rw [List.take_set, List.take_set, ht]
      exact tcells_hush X k s hk
theorem set_self {T : List Seat} {i : Nat} {s : Seat} (h : T[i]? = some s) : T.set i s = T := by
  refine List.ext_getElem? fun j => ?_
  rw [List.getElem?_set]
  by_cases hj : i = j
  · subst hj
    rw [if_pos rfl, if_pos (List.getElem?_eq_some_iff.1 h).1, h]
  · rw [if_neg hj]
end Go.Proofs.Ytiijlnlkhpneaaa.Se
