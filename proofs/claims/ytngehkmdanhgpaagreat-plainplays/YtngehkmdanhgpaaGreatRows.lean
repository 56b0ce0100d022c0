/-
  No cell of these rows narrows 'for every input' (looked for: loops, veiled, ifaces, maps, wideKeys, modest, calm, conditions, laid).
  DERIVED. THE GIVEN ROWS OF THIS SEAT. 5 by the template 'for every input the law returns true; each argument reads behind the call as it read before'; 0 by the template 'total and deterministic' (their statements: YtngehkmdanhgpaaGreatTotals.lean).
  GIVEN WITH THE SEED: the statements are not yours to turn. If you find one false, say at which input.
  Laid BY PROGRAM, IN A SANDBOX (cutbox-rows.mjs): the forced cells as the released guide's own fill.sh prints them over the translation 58716a51dbac42c6… (all of the seat's roots in one cut). By AI agents, Wed Nov 11 2026. No macro, syntax, notation, axiom, sorry.
-/
import Derived.Test.YtngehkmdanhgpaaGreatChecked
import GoSem.Claim
import GoSem.ClaimJoined
import GoSem.ClaimMapViews
import Derived.JoinedTies
import Derived.KernelRfl
namespace Go.Proofs.YtngehkmdanhgpaaGreat
/- THE CELL 'sum', in the pinned program and in every row, IS THE sha256 OF THE DUMP (.gsa) THAT YtngehkmdanhgpaaGreatProg.lean LOADS. Nothing in Lean hashes anything: it is a label: what it is worth is what the hold of that sum in a sandbox is worth. -/
noncomputable def Tryz.pinned : Pinned := { name := "ytngehkmdanhgpaagreat", sum := "58716a51dbac42c63e1b4984cdcf0c059b4708c64af746cc7ba1acd220a2c51b", checked := Tryz.checked }
namespace Rows
def none {H : Type} : Left H := { results := [], args := [] }

/-- 'veneerlaw11.PlainPlays': WHATEVER THE INPUT: true; the input reads as it did. -/
def plainPlaysSpec : ChangeSpec := { name := "plainPlays", fn := fun _ => fun
  | [d1, d2] => { results := [.lit (.bool true)], args := [d1, d2] }
  | _ => none }
def plainPlaysRow : OpenClaim := { program := "ytngehkmdanhgpaagreat", sum := "58716a51dbac42c63e1b4984cdcf0c059b4708c64af746cc7ba1acd220a2c51b", func := "veneer/veneerlaw11.PlainPlays", spec := "plainPlays", inPlace := ["internal/bytealg.IndexByteString", "internal/bytealg.IndexString", "internal/abi.NoEscape", "internal/bytealg.MakeNoZero"], unfollowed := true, recurses := true, named := ["internal/bytealg.MaxLen"], apart := false }
def PlainPlaysSaid : Prop := plainPlaysRow.holds Tryz.pinned (OpenSpec.ofChange plainPlaysSpec)

/-- ITS FALSE NEIGHBOUR: 'it returns false'. Refute it at one input. -/
def plainPlaysWrong : ChangeSpec := { name := "plainPlays", fn := fun _ => fun
  | [d1, d2] => { results := [.lit (.bool false)], args := [d1, d2] }
  | _ => none }
def PlainPlaysWrongFalsely : Prop := plainPlaysRow.holds Tryz.pinned (OpenSpec.ofChange plainPlaysWrong)

/-- 'veneerlaw11.PlainRefused': WHATEVER THE INPUT: true; the input reads as it did. -/
def plainRefusedSpec : ChangeSpec := { name := "plainRefused", fn := fun _ => fun
  | [d1, d2] => { results := [.lit (.bool true)], args := [d1, d2] }
  | _ => none }
def plainRefusedRow : OpenClaim := { program := "ytngehkmdanhgpaagreat", sum := "58716a51dbac42c63e1b4984cdcf0c059b4708c64af746cc7ba1acd220a2c51b", func := "veneer/veneerlaw11.PlainRefused", spec := "plainRefused", inPlace := ["internal/bytealg.IndexByteString", "internal/bytealg.IndexString", "internal/abi.NoEscape", "internal/bytealg.MakeNoZero", "maps.clone"], unfollowed := true, recurses := true, named := ["internal/bytealg.MaxLen"], apart := false }
def PlainRefusedSaid : Prop := plainRefusedRow.holds Tryz.pinned (OpenSpec.ofChange plainRefusedSpec)

/-- ITS FALSE NEIGHBOUR: 'it returns false'. Refute it at one input. -/
def plainRefusedWrong : ChangeSpec := { name := "plainRefused", fn := fun _ => fun
  | [d1, d2] => { results := [.lit (.bool false)], args := [d1, d2] }
  | _ => none }
def PlainRefusedWrongFalsely : Prop := plainRefusedRow.holds Tryz.pinned (OpenSpec.ofChange plainRefusedWrong)

/-- 'veneerlaw11.PlainTree': WHATEVER THE INPUT: true; the input reads as it did. -/
def plainTreeSpec : ChangeSpec := { name := "plainTree", fn := fun _ => fun
  | [d1, d2] => { results := [.lit (.bool true)], args := [d1, d2] }
  | _ => none }
def plainTreeRow : OpenClaim := { program := "ytngehkmdanhgpaagreat", sum := "58716a51dbac42c63e1b4984cdcf0c059b4708c64af746cc7ba1acd220a2c51b", func := "veneer/veneerlaw11.PlainTree", spec := "plainTree", inPlace := ["internal/bytealg.IndexByteString", "internal/bytealg.IndexString", "internal/abi.NoEscape", "internal/bytealg.MakeNoZero"], unfollowed := true, recurses := true, named := ["internal/bytealg.MaxLen"], apart := false }
def PlainTreeSaid : Prop := plainTreeRow.holds Tryz.pinned (OpenSpec.ofChange plainTreeSpec)

/-- ITS FALSE NEIGHBOUR: 'it returns false'. Refute it at one input. -/
def plainTreeWrong : ChangeSpec := { name := "plainTree", fn := fun _ => fun
  | [d1, d2] => { results := [.lit (.bool false)], args := [d1, d2] }
  | _ => none }
def PlainTreeWrongFalsely : Prop := plainTreeRow.holds Tryz.pinned (OpenSpec.ofChange plainTreeWrong)

/-- 'veneerlaw11.PlainBack': WHATEVER THE INPUT: true; the input reads as it did. -/
def plainBackSpec : ChangeSpec := { name := "plainBack", fn := fun _ => fun
  | [d1, d2, d3] => { results := [.lit (.bool true)], args := [d1, d2, d3] }
  | _ => none }
def plainBackRow : OpenClaim := { program := "ytngehkmdanhgpaagreat", sum := "58716a51dbac42c63e1b4984cdcf0c059b4708c64af746cc7ba1acd220a2c51b", func := "veneer/veneerlaw11.PlainBack", spec := "plainBack", inPlace := ["internal/bytealg.IndexByteString", "internal/bytealg.IndexString", "internal/abi.NoEscape", "internal/bytealg.MakeNoZero"], unfollowed := true, recurses := true, named := ["internal/bytealg.MaxLen"], apart := false }
def PlainBackSaid : Prop := plainBackRow.holds Tryz.pinned (OpenSpec.ofChange plainBackSpec)

/-- ITS FALSE NEIGHBOUR: 'it returns false'. Refute it at one input. -/
def plainBackWrong : ChangeSpec := { name := "plainBack", fn := fun _ => fun
  | [d1, d2, d3] => { results := [.lit (.bool false)], args := [d1, d2, d3] }
  | _ => none }
def PlainBackWrongFalsely : Prop := plainBackRow.holds Tryz.pinned (OpenSpec.ofChange plainBackWrong)

/-- 'veneerlaw11.PlainWrites': WHATEVER THE INPUT: true; the input reads as it did. -/
def plainWritesSpec : ChangeSpec := { name := "plainWrites", fn := fun _ => fun
  | [d1, d2, d3, d4] => { results := [.lit (.bool true)], args := [d1, d2, d3, d4] }
  | _ => none }
def plainWritesRow : OpenClaim := { program := "ytngehkmdanhgpaagreat", sum := "58716a51dbac42c63e1b4984cdcf0c059b4708c64af746cc7ba1acd220a2c51b", func := "veneer/veneerlaw11.PlainWrites", spec := "plainWrites", inPlace := ["internal/bytealg.IndexByteString", "internal/bytealg.IndexString", "internal/abi.NoEscape", "internal/bytealg.MakeNoZero"], unfollowed := true, recurses := true, named := ["internal/bytealg.MaxLen"], apart := false }
def PlainWritesSaid : Prop := plainWritesRow.holds Tryz.pinned (OpenSpec.ofChange plainWritesSpec)

/-- ITS FALSE NEIGHBOUR: 'it returns false'. Refute it at one input. -/
def plainWritesWrong : ChangeSpec := { name := "plainWrites", fn := fun _ => fun
  | [d1, d2, d3, d4] => { results := [.lit (.bool false)], args := [d1, d2, d3, d4] }
  | _ => none }
def PlainWritesWrongFalsely : Prop := plainWritesRow.holds Tryz.pinned (OpenSpec.ofChange plainWritesWrong)

/- THE SECOND FORM. 'bulk': how many values and letters a reading holds, each counted each time it is reached (what is shared counts as often as it is met; a slice's spare places count too). A statement '..UptoSaid' is the law's where the arguments, and the package variables that the reading takes, are together of bulk at most 1048576: NARROWER than '..Said'. Prove '..Said' where nothing that the law and all that it calls make is longer than what came in: it says more and counts as full. Else prove '..UptoSaid'. A law counts once. -/
mutual
def uptoBulk {H : Type} : DataW H → Nat
  | .lit (.string bytes) => bytes.length + 1
  | .lit _ => 1
  | .nil => 1
  | .ptr d => uptoBulk d + 1
  | .slice elems spare => uptoBulkAll elems + uptoBulkAll spare + 1
  | .agg parts => uptoBulkAll parts + 1
  | .iface _ d => uptoBulk d + 1
  | .map entries => uptoBulkEntries entries + 1
  | .held _ => 1
def uptoBulkAll {H : Type} : List (DataW H) → Nat
  | [] => 0
  | d :: r => uptoBulk d + uptoBulkAll r
def uptoBulkEntries {H : Type} : List (Lit × DataW H) → Nat
  | [] => 0
  | x :: r => uptoBulkEntry x + uptoBulkEntries r
def uptoBulkEntry {H : Type} : Lit × DataW H → Nat
  | (.string bytes, d) => bytes.length + uptoBulk d + 1
  | (_, d) => uptoBulk d + 1
 end
def uptoSmall : (H : Type) → List (DataW H) → Bool := fun _ ds => decide (uptoBulkAll ds ≤ 1048576)
def OpenSpec.upto (s : _root_.Go.ChangeSpec) : _root_.Go.OpenSpec := { _root_.Go.OpenSpec.ofChange s with cond := some uptoSmall }

/-- 'veneerlaw11.PlainPlays', WHERE WHAT IT READS IS OF BULK AT MOST 1048576: true; the input reads as it did. -/
def plainPlaysUptoRow : OpenClaim := { program := "ytngehkmdanhgpaagreat", sum := "58716a51dbac42c63e1b4984cdcf0c059b4708c64af746cc7ba1acd220a2c51b", func := "veneer/veneerlaw11.PlainPlays", spec := "plainPlays", inPlace := ["internal/bytealg.IndexByteString", "internal/bytealg.IndexString", "internal/abi.NoEscape", "internal/bytealg.MakeNoZero"], unfollowed := true, recurses := true, named := ["internal/bytealg.MaxLen"], apart := false, narrowed := true }
def PlainPlaysUptoSaid : Prop := plainPlaysUptoRow.holds Tryz.pinned (OpenSpec.upto plainPlaysSpec)

/-- 'veneerlaw11.PlainRefused', WHERE WHAT IT READS IS OF BULK AT MOST 1048576: true; the input reads as it did. -/
def plainRefusedUptoRow : OpenClaim := { program := "ytngehkmdanhgpaagreat", sum := "58716a51dbac42c63e1b4984cdcf0c059b4708c64af746cc7ba1acd220a2c51b", func := "veneer/veneerlaw11.PlainRefused", spec := "plainRefused", inPlace := ["internal/bytealg.IndexByteString", "internal/bytealg.IndexString", "internal/abi.NoEscape", "internal/bytealg.MakeNoZero", "maps.clone"], unfollowed := true, recurses := true, named := ["internal/bytealg.MaxLen"], apart := false, narrowed := true }
def PlainRefusedUptoSaid : Prop := plainRefusedUptoRow.holds Tryz.pinned (OpenSpec.upto plainRefusedSpec)

/-- 'veneerlaw11.PlainTree', WHERE WHAT IT READS IS OF BULK AT MOST 1048576: true; the input reads as it did. -/
def plainTreeUptoRow : OpenClaim := { program := "ytngehkmdanhgpaagreat", sum := "58716a51dbac42c63e1b4984cdcf0c059b4708c64af746cc7ba1acd220a2c51b", func := "veneer/veneerlaw11.PlainTree", spec := "plainTree", inPlace := ["internal/bytealg.IndexByteString", "internal/bytealg.IndexString", "internal/abi.NoEscape", "internal/bytealg.MakeNoZero"], unfollowed := true, recurses := true, named := ["internal/bytealg.MaxLen"], apart := false, narrowed := true }
def PlainTreeUptoSaid : Prop := plainTreeUptoRow.holds Tryz.pinned (OpenSpec.upto plainTreeSpec)

/-- 'veneerlaw11.PlainBack', WHERE WHAT IT READS IS OF BULK AT MOST 1048576: true; the input reads as it did. -/
def plainBackUptoRow : OpenClaim := { program := "ytngehkmdanhgpaagreat", sum := "58716a51dbac42c63e1b4984cdcf0c059b4708c64af746cc7ba1acd220a2c51b", func := "veneer/veneerlaw11.PlainBack", spec := "plainBack", inPlace := ["internal/bytealg.IndexByteString", "internal/bytealg.IndexString", "internal/abi.NoEscape", "internal/bytealg.MakeNoZero"], unfollowed := true, recurses := true, named := ["internal/bytealg.MaxLen"], apart := false, narrowed := true }
def PlainBackUptoSaid : Prop := plainBackUptoRow.holds Tryz.pinned (OpenSpec.upto plainBackSpec)

/-- 'veneerlaw11.PlainWrites', WHERE WHAT IT READS IS OF BULK AT MOST 1048576: true; the input reads as it did. -/
def plainWritesUptoRow : OpenClaim := { program := "ytngehkmdanhgpaagreat", sum := "58716a51dbac42c63e1b4984cdcf0c059b4708c64af746cc7ba1acd220a2c51b", func := "veneer/veneerlaw11.PlainWrites", spec := "plainWrites", inPlace := ["internal/bytealg.IndexByteString", "internal/bytealg.IndexString", "internal/abi.NoEscape", "internal/bytealg.MakeNoZero"], unfollowed := true, recurses := true, named := ["internal/bytealg.MaxLen"], apart := false, narrowed := true }
def PlainWritesUptoSaid : Prop := plainWritesUptoRow.holds Tryz.pinned (OpenSpec.upto plainWritesSpec)

end Rows
end Go.Proofs.YtngehkmdanhgpaaGreat
