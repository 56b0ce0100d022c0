/-
  The walks of (*wire.Out).Int and Bytes, and wire.Read.
-/
import Derived.Test.YtbccjomnfclkdaaS8
namespace Go.Proofs.Ytbccjomnfclkdaa
open Go.RowKit
namespace Wire
end Wire
theorem obytes_any (w : World) (B g : Nat) (v : Value) (xs : List Nat) (ho : OutIs w B g v xs) (hl : xs.length ≤ 140737488355328) :
    Calls Try.prog 27 #[.pointer (some ⟨g, 0, none⟩)] w fun e w' => ∃ v', e = .returned v' ∧ w'.ownsRow w.heap.size 5 1 v' xs.length (xs.map u8v) ∧ Below w.heap.size w w' := by
  obtain ⟨p, cap, b, rfl, hsl, hno⟩ := own_sl ho.lt ho.own
  have c0 : w.cell? ⟨g, 0, none⟩ = some (.slice p xs.length cap) := ho.row.cell 0
  have hc := clone_any xs p cap b 0 w hsl hno hl
  clear ho hsl
  go_enter Try.func27, Try.ntmps27
  go_wp2_with fail
  refine hc.mono ?_
  rintro e w1 ⟨v1, rfl, hown, hb⟩
  clear hc
  have HOWN := hid_in hown
  clear hown
  go_wp2
  go_ret
  exact ⟨_, rfl, HOWN.out, hb⟩
/-- the In at block g has still to read the bytes bs; what was wrong is e -/
structure InIs (B : Nat) (w : World) (g : Nat) (bs : List Nat) (e : Nat) : Prop where
  ex : ∃ p cap b off, Row w g [.slice p bs.length cap, .int .i64 (e : Int)] 91 ∧ Sl w p bs cap b off ∧ (p = none → bs.length = 0 ∧ cap = 0) ∧ (0 < bs.length → b ≠ g ∧ b < B)
theorem read_any (bs : List Nat) (p : Option Addr) (cap b off : Nat) (w : World) (hsl : Sl w p bs cap b off) (hno : p = none → bs.length = 0 ∧ cap = 0) (hre : bs.length ≤ 140737488355328) :
    Calls Try.prog 32 #[.slice p bs.length cap] w fun e w' => ∃ g, e = .returned (.pointer (some ⟨g, 0, none⟩)) ∧ InIs w'.heap.size w' g bs 0 ∧ w.heap.size ≤ g ∧ Below w.heap.size w w' := by
  have hc := clone_any bs p cap b off w hsl hno hre
  have hlt := hsl.lt
  clear hsl
  go_enter Try.func32, Try.ntmps32
  go_wp2_with fail
  refine hc.mono ?_
  rintro e w1 ⟨v1, rfl, hown, hb⟩
  obtain ⟨p1, cap1, b1, rfl, hsl1, hno1⟩ := own_sl hlt hown
  clear hown hc
  go_wp2
  go_ret
  have hb2 : Below w1.heap.size w1 (w1.alloc (.cells [.slice p1 bs.length cap1, .int .i64 0].toArray 91)) := (Below.refl _ _).alloc (Nat.le_refl _) _
  refine ⟨w1.heap.size, rfl, ⟨p1, cap1, b1, 0, Row.newAt w1 _ [.slice p1 bs.length cap1, .int .i64 0] 91 rfl, hsl1.below hb2, hno1, fun h0 => ?_⟩, hb.size, hb.alloc hb.size _⟩
  have := hsl1.blk h0
  exact ⟨by omega, by simp; omega⟩
end Go.Proofs.Ytbccjomnfclkdaa
