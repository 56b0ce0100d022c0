/-
  errors.As at every error; Code.
-/
import Derived.Test.YtaaojfgakgjlkaaDoorT2
namespace Go.Proofs.YtaaojfgakgjlkaaDoor
open Go.RowKit Go.Extern.Stop Go.Stop Go.Extern

theorem tO44 (v : Value) (w : World) : (ReflectliteType.typeOf #[.iface 44 v]).run Tryd.prog w = .ok (.iface 87 (.agg #[.pointer (some ⟨4, 44, none⟩)])) w := by kernel_rfl
theorem as44 (w : World) : (ReflectliteType.relation "AssignableTo" ReflectliteType.assignableTo #[.agg #[.pointer (some ⟨4, 44, none⟩)], .iface 87 (.agg #[.pointer (some ⟨4, 31, none⟩)])]).run Tryd.prog w = .ok (.bool false) w := by kernel_rfl
theorem u44_92 (x : Value) (w : World) : (Instr.typeAssert (.iface 44 x) 30 92 true).run Tryd.prog w = .ok (.tuple #[.nilIface, .bool false]) w := run_typeAssert_lacksB Tryd.underlying92 (by kernel_rfl) (by kernel_rfl) x 30 w
theorem u44_95 (x : Value) (w : World) : (Instr.typeAssert (.iface 44 x) 30 95 true).run Tryd.prog w = .ok (.tuple #[.nilIface, .bool false]) w := run_typeAssert_lacksB Tryd.underlying95 (by kernel_rfl) (by kernel_rfl) x 30 w
theorem u44_96 (x : Value) (w : World) : (Instr.typeAssert (.iface 44 x) 30 96 true).run Tryd.prog w = .ok (.tuple #[.iface 44 x, .bool true]) w := by kernel_rfl
theorem mU44 (x : Value) (w : World) : (Go.method 247 44 x "Unwrap").run Tryd.prog w = .ok (29, x) w := by kernel_rfl
end Go.Proofs.YtaaojfgakgjlkaaDoor
