/-
  The walk of kind.
-/
import Derived.Test.YtjaplfdcdokhfaaV2
import Derived.Test.YtjaplfdcdokhfaaV4
namespace Go.Proofs.Ytjaplfdcdokhfaa
open Go.RowKit

theorem kind_any (w : World) (K M : Int) (N : Nat) (S : ByteArray) (k : Nat) (hk : (IntKind.u64.wrap K).tmod 5 = (k : Int)) (hk5 : k < 5) :
    Calls Try.prog 22 #[.agg #[.int .i64 K, .int .u64 (N : Int), .string S, .int .i64 M]] w fun e w' => e = .returned (.int .i64 (k : Int)) ∧ Below w.heap.size w w' := by
  go_enter Try.func22, Try.ntmps22
  go_wp2
  go_ret
  exact ⟨rfl, (Below.refl _ _).alloc (Nat.le_refl _) _⟩
end Go.Proofs.Ytjaplfdcdokhfaa
