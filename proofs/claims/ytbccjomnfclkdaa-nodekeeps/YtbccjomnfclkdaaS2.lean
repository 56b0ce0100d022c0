/-
  The walks of wire.word, wire.valueOf, bytes.Clone, slices.Grow (of nothing) and slices.Concat.
-/
import Derived.Test.YtbccjomnfclkdaaS1
import Derived.Lib.AppendZeros
import Derived.Deep.DrawnRows
namespace Go.Proofs.Ytbccjomnfclkdaa
open Go.RowKit
theorem i5 : (Try.prog.info? 5).map (fun i => (i.size, i.bytes, i.zero)) = some (1, 1, some (.int .u8 0)) := by kernel_rfl
end Go.Proofs.Ytbccjomnfclkdaa
