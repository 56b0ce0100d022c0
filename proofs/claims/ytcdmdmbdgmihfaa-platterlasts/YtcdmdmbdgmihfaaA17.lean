/-
  Slices of bytes, of truth values; the greater and the lesser of two numbers.
-/
import Derived.Test.YtcdmdmbdgmihfaaA00
import Derived.Test.YtcdmdmbdgmihfaaA01
import Derived.Test.YtcdmdmbdgmihfaaA02
import Derived.Test.YtcdmdmbdgmihfaaA03
import Derived.Test.YtcdmdmbdgmihfaaA04
import Derived.Test.YtcdmdmbdgmihfaaA05
import Derived.Test.YtcdmdmbdgmihfaaA06
import Derived.Test.YtcdmdmbdgmihfaaA07
import Derived.Test.YtcdmdmbdgmihfaaA08
import Derived.Test.YtcdmdmbdgmihfaaA09
import Derived.Test.YtcdmdmbdgmihfaaA10
import Derived.Test.YtcdmdmbdgmihfaaA11
namespace Go.Proofs.Ytcdmdmbdgmihfaa.Pt
open Go.RowKit
open Nd (Row wp_world grownBy_setCell below_of_grown grownBy_trans grown_of_below grownBy_refl u8v Grew Moved Sl hid_in i5h str)
/-- a value that reads as slices of bytes -/
def Pcs (w : World) (v : Value) (ps : List (List Nat)) : Prop := ∃ p cap b o, v = .slice p ps.length cap ∧ ps.length ≤ 9223372036854775807 ∧ (ps ≠ [] → p = some ⟨b, o, none⟩ ∧ b < w.heap.size) ∧ ∀ (i : Nat) xs, ps[i]? = some xs → ∃ q c sb so, w.cell? ⟨b, o + i, none⟩ = some (.slice q xs.length c) ∧ Sl w q xs c sb so ∧ (q = none → xs.length = 0 ∧ c = 0)
/-- a value that reads as truth values -/
def Bls (w : World) (v : Value) (bs : List Bool) : Prop := ∃ p cap b o, v = .slice p bs.length cap ∧ bs.length ≤ 9223372036854775807 ∧ (bs ≠ [] → p = some ⟨b, o, none⟩ ∧ b < w.heap.size) ∧ ∀ (i : Nat) x, bs[i]? = some x → w.cell? ⟨b, o + i, none⟩ = some (.bool x)
end Go.Proofs.Ytcdmdmbdgmihfaa.Pt
