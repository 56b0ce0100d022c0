/-
  ViewLeads, ViewTurns. ViewMeets.
-/
import Derived.Deep.RegionLaw
import Derived.Deep.DrawnRows
import Derived.OwnWalk
import Derived.Laws.StructEq
import Derived.Deep.LoopGhost
import Derived.Lib.SlBytesConst
import Derived.Laws.Tables
import Derived.Laws.CopyOwn
import Derived.Lib.AppendZeros
import Derived.Test.YtpmakigmhcjegaaD00
import Derived.Test.YtpmakigmhcjegaaD01
import Derived.Test.YtpmakigmhcjegaaD02
namespace Go.Proofs.Ytpmakigmhcjegaa.Vw
open Go.RowKit
open Nd (Row wp_world u8v Grew Sl hid_in)
theorem mod_two {x n : Int} (h0 : 0 ≤ x) (h2 : x < 2 * n) : x % n = if x < n then x else x - n := by
  split
  · rename_i h; exact Int.emod_eq_of_lt h0 h
  · rename_i h
    have e : x % n = (x - n) % n := by rw [Int.sub_emod_right]
    rw [e]
    exact Int.emod_eq_of_lt (by omega) (by omega)
theorem ahd_least {v id n : Int} (hv : 0 ≤ v) (h0 : 0 ≤ id) (h1 : id < n) : 1 ≤ ahd v id n ∧ ahd v id n ≤ n ∧ prim (v + ahd v id n) n = id ∧ ∀ i, 1 ≤ i → i < ahd v id n → prim (v + i) n ≠ id := by
  obtain ⟨p0, p1, p2⟩ := prim_range (v := v) (n := n) hv (by omega)
  have key : ∀ i, 0 ≤ i → i ≤ n → prim (v + i) n = if prim v n + i < n then prim v n + i else prim v n + i - n := by
    intro i hi hn
    rw [(prim_range (v := v + i) (n := n) (by omega) (by omega)).1]
    have e : (v + i) % n = (prim v n + i) % n := by rw [p0, Int.emod_add_emod]
    rw [e]
    exact mod_two (by omega) (by omega)
  unfold ahd
  generalize prim v n = p at *
  split
  · refine ⟨by omega, by omega, ?_, fun i hi hlt => ?_⟩
    · rw [key _ (by omega) (by omega)]
      split <;> omega
    · rw [key _ (by omega) (by omega)]
      split <;> omega
  · refine ⟨by omega, by omega, ?_, fun i hi hlt => ?_⟩
    · rw [key _ (by omega) (by omega)]
      split <;> omega
    · rw [key _ (by omega) (by omega)]
      split <;> omega
set_option maxHeartbeats 1000000 in
theorem turns_any (v id n : Int) (hv : ir v) (hi : ir id) (hn : ir n) (w : World) : Calls Try.prog 4 #[.int .i64 v, .int .i64 id, .int .i64 n] w fun e w' => e = .returned (.bool true) ∧ Below w.heap.size w w' := by
  have H0 := hid_in awake_any
  have H1 := hid_in (next_any v id n hv hi hn)
  have HI := hid_in hi
  have HN := hid_in hn
  have HV := hid_in hv
  obtain ⟨v1, v2⟩ := hv
  obtain ⟨i1, i2⟩ := hi
  obtain ⟨n1, n2⟩ := hn
  by_cases hx : v < 0 ∨ 1099511627776 < v ∨ id < 0 ∨ n ≤ id
  · have e : nxt v id n = -1 := by
      unfold nxt
      by_cases h1 : v < 0 ∨ id < 0 ∨ n ≤ id
      · rw [if_pos h1]
      · rw [if_neg h1]
        have := (ahd_least (v := v) (id := id) (n := n) (by omega) (by omega) (by omega)).1
        rw [if_pos (by omega)]
    rw [e] at H1
    by_cases c1 : v < 0
    · go_enter Try.func4, Try.ntmps4
      go_wp2_with (first | (go_at_call 8; refine (H0.out _).mono ?_; rintro e w2 ⟨rfl, hb2⟩; have HB2 := hid_in hb2; clear hb2) | (go_at_call 15; refine (H1.out _).mono ?_; rintro e w3 ⟨rfl, rfl⟩))
      go_ret
      exact ⟨rfl, HB2.out⟩
    by_cases c2 : 1099511627776 < v
    · go_enter Try.func4, Try.ntmps4
      go_wp2_with (first | (go_at_call 8; refine (H0.out _).mono ?_; rintro e w2 ⟨rfl, hb2⟩; have HB2 := hid_in hb2; clear hb2) | (go_at_call 15; refine (H1.out _).mono ?_; rintro e w3 ⟨rfl, rfl⟩))
      go_ret
      exact ⟨rfl, HB2.out⟩
    by_cases c3 : id < 0
    · go_enter Try.func4, Try.ntmps4
      go_wp2_with (first | (go_at_call 8; refine (H0.out _).mono ?_; rintro e w2 ⟨rfl, hb2⟩; have HB2 := hid_in hb2; clear hb2) | (go_at_call 15; refine (H1.out _).mono ?_; rintro e w3 ⟨rfl, rfl⟩))
      go_ret
      exact ⟨rfl, HB2.out⟩
    have c4 : n ≤ id := by omega
    go_enter Try.func4, Try.ntmps4
    go_wp2_with (first | (go_at_call 8; refine (H0.out _).mono ?_; rintro e w2 ⟨rfl, hb2⟩; have HB2 := hid_in hb2; clear hb2) | (go_at_call 15; refine (H1.out _).mono ?_; rintro e w3 ⟨rfl, rfl⟩))
    go_ret
    exact ⟨rfl, HB2.out⟩
  · obtain ⟨a1, a2, a3, a4⟩ := ahd_least (v := v) (id := id) (n := n) (by omega) (by omega) (by omega)
    have hx1 : 0 ≤ v := by omega
    have hx2 : v ≤ 1099511627776 := by omega
    have hx3 : 0 ≤ id := by omega
    have hx4 : id < n := by omega
    by_cases c5 : 1099511627776 - v < ahd v id n
    · have e : nxt v id n = -1 := by
        unfold nxt
        rw [if_neg (by omega), if_pos c5]
      rw [e] at H1
      by_cases c6 : 1099511627776 - v = 0
      · have c7 : (0 : Int) < n := by omega
        clear hx a3 a4
        go_enter Try.func4, Try.ntmps4
        go_wp2_with (first | (go_at_call 8; refine (H0.out _).mono ?_; rintro e w2 ⟨rfl, hb2⟩; have HB2 := hid_in hb2; clear hb2) | (go_at_call 15; refine (H1.out _).mono ?_; rintro e w3 ⟨rfl, rfl⟩))
        go_ret
        exact ⟨rfl, HB2.out⟩
      · have HL := hid_in (leads_no v (1099511627776 - v) id n ⟨by omega, by omega⟩ ⟨by omega, by omega⟩ HI.out HN.out (fun i h1 h2 => a4 i h1 (by omega)))
        have c7 : 1099511627776 - v < n := by omega
        clear hx a3 a4
        go_enter Try.func4, Try.ntmps4
        go_wp2_with (first | (go_at_call 8; refine (H0.out _).mono ?_; rintro e w2 ⟨rfl, hb2⟩; have HB2 := hid_in hb2; clear hb2) | (go_at_call 15; refine (H1.out _).mono ?_; rintro e w3 ⟨rfl, rfl⟩) | (go_at_call 16; refine (HL.out _).mono ?_; rintro e w3 ⟨rfl, rfl⟩))
        go_ret
        exact ⟨rfl, HB2.out⟩
    · have e : nxt v id n = v + ahd v id n := by
        unfold nxt
        rw [if_neg (by omega), if_neg c5]
      rw [e] at H1
      have HP := hid_in (primary_any (v + ahd v id n) n ⟨by omega, by omega⟩ HN.out)
      rw [a3] at HP
      generalize ahd v id n = a at *
      have HL := hid_in (leads_no v (min (a - 1) 100) id n ⟨by omega, by omega⟩ ⟨by omega, by omega⟩ HI.out HN.out (fun i h1 h2 => a4 i h1 (by omega)))
      have k1 : v + a - v - 1 = a - 1 := by omega
      have k2 : ¬ v + a = -1 := by omega
      have k3 : v + a - v = a := by omega
      have k4 : v < v + a := by omega
      have k5 : v + a ≤ 1099511627776 := by omega
      clear hx a3 a4 c5
      go_enter Try.func4, Try.ntmps4
      go_wp2_with (first | (go_at_call 8; refine (H0.out _).mono ?_; rintro e w2 ⟨rfl, hb2⟩; have HB2 := hid_in hb2; clear hb2) | (go_at_call 15; refine (H1.out _).mono ?_; rintro e w3 ⟨rfl, rfl⟩) | (go_at_call 9; refine (HP.out _).mono ?_; rintro e w3 ⟨rfl, rfl⟩) | (go_at_call 16; refine (HL.out _).mono ?_; rintro e w3 ⟨rfl, rfl⟩))
      go_ret
      exact ⟨rfl, HB2.out⟩
end Go.Proofs.Ytpmakigmhcjegaa.Vw
namespace Go.Proofs.Ytpmakigmhcjegaa.Vw
open Go.RowKit
open Nd (Row wp_world u8v Grew Sl hid_in)
/-- a value that reads as truth values -/
def Bs (w : World) (v : Value) (lb : List Bool) : Prop := ∃ p cap b o, v = .slice p lb.length cap ∧ (lb ≠ [] → p = some ⟨b, o, none⟩ ∧ b < w.heap.size) ∧ (∀ (j : Nat) u, lb[j]? = some u → w.cell? ⟨b, o + j, none⟩ = some (.bool u))
theorem Bs.below {w w' : World} {v : Value} {lb : List Bool} (h : Bs w v lb) (hb : Below w.heap.size w w') : Bs w' v lb := by
  obtain ⟨p, cap, b, o, rfl, h4, h5⟩ := h
  refine ⟨p, cap, b, o, rfl, fun he => ⟨(h4 he).1, Nat.lt_of_lt_of_le (h4 he).2 hb.size⟩, fun j u hj => ?_⟩
  have hne : lb ≠ [] := by rintro rfl; simp at hj
  rw [hb.cell (p := ⟨b, _, none⟩) (h4 hne).2]
  exact h5 j u hj
theorem Bs.form {w : World} {v : Value} {lb : List Bool} (h : Bs w v lb) : ∃ p cap, v = .slice p lb.length cap := by
  obtain ⟨p, cap, _, _, h1, _⟩ := h
  exact ⟨p, cap, h1⟩
theorem Bs.at {w : World} {n c : Nat} {p : Option Addr} {lb : List Bool} (h : Bs w (.slice p n c) lb) {i : Nat} {e : Bool} (hi : lb[i]? = some e) : ∃ b o, p = some ⟨b, o, none⟩ ∧ w.cell? ⟨b, o + i, none⟩ = some (.bool e) := by
  obtain ⟨p', cap, b, o, h1, h4, h5⟩ := h
  simp only [Value.slice.injEq] at h1
  obtain ⟨rfl, rfl, rfl⟩ := h1
  have hne : lb ≠ [] := by rintro rfl; simp at hi
  exact ⟨b, o, (h4 hne).1, h5 _ _ hi⟩
end Go.Proofs.Ytpmakigmhcjegaa.Vw
