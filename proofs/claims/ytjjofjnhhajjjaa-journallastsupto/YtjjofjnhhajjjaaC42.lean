/-
  JournalLasts, both cases.
-/
import Derived.Laws.Tables
import Derived.OwnWalk
import Derived.Deep.CutRange
import Derived.Laws.CopyOwn
import Derived.Deep.RegionLaw
import Derived.Deep.DrawnRows
import Derived.Laws.StructEq
import Derived.Lib.SlBytesConst
import Derived.Test.YtjjofjnhhajjjaaC00
import Derived.Test.YtjjofjnhhajjjaaC01
import Derived.Test.YtjjofjnhhajjjaaC02
import Derived.Test.YtjjofjnhhajjjaaC03
import Derived.Test.YtjjofjnhhajjjaaC04
import Derived.Test.YtjjofjnhhajjjaaC05
import Derived.Test.YtjjofjnhhajjjaaC06
import Derived.Test.YtjjofjnhhajjjaaC07
import Derived.Test.YtjjofjnhhajjjaaC08
import Derived.Test.YtjjofjnhhajjjaaC09
import Derived.Test.YtjjofjnhhajjjaaC10
import Derived.Test.YtjjofjnhhajjjaaC11
import Derived.Test.YtjjofjnhhajjjaaC12
import Derived.Test.YtjjofjnhhajjjaaC13
import Derived.Test.YtjjofjnhhajjjaaC14
import Derived.Test.YtjjofjnhhajjjaaC15
import Derived.Test.YtjjofjnhhajjjaaC16
import Derived.Test.YtjjofjnhhajjjaaC17
import Derived.Test.YtjjofjnhhajjjaaC18
import Derived.Test.YtjjofjnhhajjjaaC19
import Derived.Test.YtjjofjnhhajjjaaC20
import Derived.Test.YtjjofjnhhajjjaaC21
import Derived.Test.YtjjofjnhhajjjaaC22
import Derived.Test.YtjjofjnhhajjjaaC23
import Derived.Test.YtjjofjnhhajjjaaC24
import Derived.Test.YtjjofjnhhajjjaaC25
import Derived.Test.YtjjofjnhhajjjaaC26
import Derived.Test.YtjjofjnhhajjjaaC27
import Derived.Test.YtjjofjnhhajjjaaC28
import Derived.Test.YtjjofjnhhajjjaaC29
import Derived.Test.YtjjofjnhhajjjaaC30
import Derived.Test.YtjjofjnhhajjjaaC31
import Derived.Test.YtjjofjnhhajjjaaC32
import Derived.Test.YtjjofjnhhajjjaaC33
import Derived.Test.YtjjofjnhhajjjaaC34
import Derived.Test.YtjjofjnhhajjjaaC35
import Derived.Test.YtjjofjnhhajjjaaC36
import Derived.Test.YtjjofjnhhajjjaaC37
import Derived.Test.YtjjofjnhhajjjaaC38
import Derived.Test.YtjjofjnhhajjjaaC39
import Derived.Test.YtjjofjnhhajjjaaC40
import Derived.Test.YtjjofjnhhajjjaaC41
namespace Go.Proofs.Ytjjofjnhhajjjaa.Jr
open Go.RowKit
theorem lasts_any (w : World) (v1 : Value) (xa : List Ac) (h1 : Acs w v1 xa) (l1 : ∀ a ∈ xa, a.k.ents.length ≤ 100000000) (k1 : ∀ a ∈ xa, Kin w a.keep a.ks) :
    Calls Try.prog 3 #[v1] w fun e w' => e = .returned (.bool true) ∧ Below w.heap.size w w' := by
  by_cases hx : xa.length ≤ 40
  · exact lasts_S w v1 xa h1 l1 k1 hx
  · exact lasts_L w v1 xa h1 l1 k1 (by omega)
end Go.Proofs.Ytjjofjnhhajjjaa.Jr
