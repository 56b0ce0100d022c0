/-
  Slices of bytes that lie one behind the other; the reference's digest by a letter.
-/
import Derived.Test.YtokjbmpiekadaaaDoorK15
import Derived.Test.YtokjbmpiekadaaaDoorK16
import Derived.Test.YtokjbmpiekadaaaDoorW18
namespace Go.Proofs.YtokjbmpiekadaaaDoor
open Go.RowKit

theorem wrap_a (x : Int) (h0 : 0 ≤ x) (h1 : x ≤ 9223372036854775807) : wrap64 x = x := by unfold wrap64; omega
theorem wrap_b (x : Int) (h0 : 0 ≤ x) (h1 : x ≤ 9223372036854775807) : IntKind.i64.wrap x = x := by rw [IntKind.wrap_i64]; omega
/-- a slice of bytes among several: where it lies, its bytes -/
structure Part where
  p : Option Addr
  bs : List Nat
  cap : Nat
  b : Nat
  off : Nat
/-- slices of bytes that lie one behind the other -/
structure Parts (w : World) (pb po : Nat) (ps : List Part) : Prop where
  at_ : ∀ i x, ps[i]? = some x → w.cell? ⟨pb, po + i, none⟩ = some (.slice x.p x.bs.length x.cap)
  ok : ∀ x ∈ ps, Sl w x.p x.bs x.cap x.b x.off
  no : ∀ x ∈ ps, x.p = none → x.bs.length = 0 ∧ x.cap = 0
theorem Parts.below {w w' : World} {pb po : Nat} {ps : List Part} (h : Parts w pb po ps) (hb : Below w.heap.size w w') : Parts w' pb po ps :=
  ⟨fun i x hx => by rw [hb.cell (World.block_lt_of_cell? w _ (h.at_ i x hx))]; exact h.at_ i x hx, fun x hx => (h.ok x hx).below hb, h.no⟩
theorem rsum_V (bs : List Nat) (V : List Value) (h : Hid (V = (Sha.sum bs).map u8v)) (p : Option Addr) (b off cap : Nat) (w : World) (hs : Sl w p bs cap b off) (hpn : p = none → bs.length = 0 ∧ cap = 0) (hcap2 : bs.length ≤ 140737488351232) :
    Calls Tryd.prog 14 #[.slice p bs.length cap] w fun e w' => e = .returned (.agg V.toArray) ∧ Below w.heap.size w w' := by
  rw [h.out]; exact rsum_any bs hs.lt p b off cap w hcap2 hpn hs.at_ hs.src
end Go.Proofs.YtokjbmpiekadaaaDoor
