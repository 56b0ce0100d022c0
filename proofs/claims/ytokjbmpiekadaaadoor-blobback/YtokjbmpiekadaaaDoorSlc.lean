/-
  A slice of bytes that lies in the world.
-/
import Derived.Test.YtokjbmpiekadaaaDoorMem
namespace Go.Proofs.YtokjbmpiekadaaaDoor
open Go.RowKit

/-- a slice of bytes that lies in the world -/
structure Sl (w : World) (p : Option Addr) (bs : List Nat) (cap : Nat) (b off : Nat) : Prop where
  lt : ∀ x ∈ bs, x < 256
  cap1 : bs.length ≤ cap
  cap2 : cap ≤ 9223372036854775807
  at_ : 0 < bs.length → p = some ⟨b, off, none⟩
  src : ∀ j, j < bs.length → w.cell? ⟨b, off + j, none⟩ = some (u8v (bs.getD j 0))
theorem Sl.below {w w' : World} {p : Option Addr} {bs : List Nat} {cap b off : Nat} (h : Sl w p bs cap b off) (hb : Below w.heap.size w w') : Sl w' p bs cap b off :=
  ⟨h.lt, h.cap1, h.cap2, h.at_, fun j hj => by rw [hb.cell (World.block_lt_of_cell? w _ (h.src j hj))]; exact h.src j hj⟩

end Go.Proofs.YtokjbmpiekadaaaDoor
