/-
  tooLong, IndexFunc, ContainsFunc: over a list of one.
-/
import Derived.Test.YtokjbmpiekadaaaDoorK2
import Derived.LoopN
namespace Go.Proofs.YtokjbmpiekadaaaDoor
open Go.RowKit

theorem long_any (p : Option Addr) (n c : Nat) (t : Bool) (ht : decide (4096 < n) = t) (w : World) : Calls Tryd.prog 46 #[.slice p n c] w fun e w' => e = .returned (.bool t) ∧ w' = w := by
  cases t with
  | true =>
    have h1 : (4096 : Int) < (n : Int) := by have := of_decide_eq_true ht; omega
    clear ht
    go_enter Tryd.func46, Tryd.ntmps46
    go_wp2
    go_ret
    exact ⟨rfl, rfl⟩
  | false =>
    have h1 : decide ((4096 : Int) < (n : Int)) = false := by have := of_decide_eq_false ht; simp; omega
    clear ht
    go_enter Tryd.func46, Tryd.ntmps46
    go_wp2
    go_ret
    exact ⟨rfl, rfl⟩
set_option maxHeartbeats 400000 in
theorem index_one (lb : Nat) (p : Option Addr) (n c : Nat) (t : Bool) (ht : decide (4096 < n) = t) (w : World) (c0 : w.cell? ⟨lb, 0, none⟩ = some (.slice p n c)) :
    Calls Tryd.prog 60 #[.slice (some ⟨lb, 0, none⟩) 1 1, .func (.func 46) #[] #[]] w fun e w' => e = .returned (.int .i64 (if t then 0 else -1)) ∧ w' = w := by
  have HT := hid_in ht
  clear ht
  cases t with
  | true =>
    go_enter Tryd.func60, Tryd.ntmps60
    go_wp2_with fail
    refine wp_loop_rounds 2 ?_
    rw [rounds_succ]
    go_wp2_with (go_at_call 46; refine (long_any p n c true HT.out _).mono ?_; rintro e w1 ⟨rfl, rfl⟩)
    go_ret
    exact ⟨rfl, rfl⟩
  | false =>
    go_enter Tryd.func60, Tryd.ntmps60
    go_wp2_with fail
    refine wp_loop_rounds 2 ?_
    rw [rounds_succ]
    go_wp2_with (go_at_call 46; refine (long_any p n c false HT.out _).mono ?_; rintro e w1 ⟨rfl, rfl⟩)
    rw [rounds_succ]
    go_wp2
    go_ret
    exact ⟨rfl, rfl⟩
theorem contains_one (lb : Nat) (p : Option Addr) (n c : Nat) (t : Bool) (ht : decide (4096 < n) = t) (w : World) (c0 : w.cell? ⟨lb, 0, none⟩ = some (.slice p n c)) :
    Calls Tryd.prog 45 #[.slice (some ⟨lb, 0, none⟩) 1 1, .func (.func 46) #[] #[]] w fun e w' => e = .returned (.bool t) ∧ w' = w := by
  have hi := index_one lb p n c t ht w c0
  clear ht c0
  cases t with
  | true =>
    go_enter Tryd.func45, Tryd.ntmps45
    go_wp2_with (go_at_call 60; refine hi.mono ?_; rintro e w1 ⟨rfl, rfl⟩)
    go_ret
    exact ⟨rfl, rfl⟩
  | false =>
    go_enter Tryd.func45, Tryd.ntmps45
    go_wp2_with (go_at_call 60; refine hi.mono ?_; rintro e w1 ⟨rfl, rfl⟩)
    go_ret
    exact ⟨rfl, rfl⟩
end Go.Proofs.YtokjbmpiekadaaaDoor
