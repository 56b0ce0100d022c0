/-
  The walk of the statement BlobRoom, for every quota.
-/
import Derived.Test.YtokjbmpiekadaaaDoorLRp
import Derived.Test.YtokjbmpiekadaaaDoorLRn
namespace Go.Proofs.YtokjbmpiekadaaaDoor
open Go.RowKit
theorem room_any (q0 : Int) (hq1 : q0 ≤ 9223372036854775807) (a : Option Addr) (pb po C : Nat) (ps : List Part) (w : World) (htab : Tab w) (hps : Parts w pb po ps) (hpa : 0 < ps.length → a = some ⟨pb, po, none⟩) (hL : ps.length ≤ 9223372036854775807) (hre : ∀ x ∈ ps, x.bs.length ≤ 140737488351232) :
    Calls Tryd.prog 5 #[.int .i64 q0, .slice a ps.length C] w fun e w' => e = .returned (.bool true) ∧ Below w.heap.size w w' := by
  by_cases h : 0 ≤ q0
  · exact room_pos w q0 h hq1 a pb po C ps htab hps hpa hL hre
  · exact room_neg w q0 (by omega) a pb po C ps htab hps hpa hL hre
end Go.Proofs.YtokjbmpiekadaaaDoor
