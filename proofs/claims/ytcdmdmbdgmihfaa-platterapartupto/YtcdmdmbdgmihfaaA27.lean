/-
  PlatterApart, however many calls.
-/
import Derived.Test.YtcdmdmbdgmihfaaA00
import Derived.Test.YtcdmdmbdgmihfaaA01
import Derived.Test.YtcdmdmbdgmihfaaA02
import Derived.Test.YtcdmdmbdgmihfaaA03
import Derived.Test.YtcdmdmbdgmihfaaA04
import Derived.Test.YtcdmdmbdgmihfaaA05
import Derived.Test.YtcdmdmbdgmihfaaA06
import Derived.Test.YtcdmdmbdgmihfaaA07
import Derived.Test.YtcdmdmbdgmihfaaA08
import Derived.Test.YtcdmdmbdgmihfaaA09
import Derived.Test.YtcdmdmbdgmihfaaA10
import Derived.Test.YtcdmdmbdgmihfaaA11
import Derived.Test.YtcdmdmbdgmihfaaA12
import Derived.Test.YtcdmdmbdgmihfaaA22
import Derived.Test.YtcdmdmbdgmihfaaA23
import Derived.Test.YtcdmdmbdgmihfaaA24
import Derived.Test.YtcdmdmbdgmihfaaA25
import Derived.Test.YtcdmdmbdgmihfaaA26
namespace Go.Proofs.Ytcdmdmbdgmihfaa.Pt
open Go.RowKit
theorem apart_any (a : World) (x1 x2 : Value) (ss1 ss2 : List Cl1) (h1 : Cls a x1 ss1) (h2 : Cls a x2 ss2) (hb1 : ∀ x ∈ ss1, x.xs.length ≤ 1048576) (hb2 : ∀ x ∈ ss2, x.xs.length ≤ 1048576) :
    Calls Try.prog 6 #[x1, x2] a fun e w' => e = .returned (.bool true) ∧ Below a.heap.size a w' := by
  by_cases v1 : ss1.length ≤ 40
  · by_cases v2 : ss2.length ≤ 40
    · exact apart_SS a x1 x2 ss1 ss2 h1 h2 hb1 hb2 v1 v2
    · exact apart_SL a x1 x2 ss1 ss2 h1 h2 hb1 hb2 v1 (by omega)
  · by_cases v2 : ss2.length ≤ 40
    · exact apart_LS a x1 x2 ss1 ss2 h1 h2 hb1 hb2 (by omega) v2
    · exact apart_LL a x1 x2 ss1 ss2 h1 h2 hb1 hb2 (by omega) (by omega)
end Go.Proofs.Ytcdmdmbdgmihfaa.Pt
