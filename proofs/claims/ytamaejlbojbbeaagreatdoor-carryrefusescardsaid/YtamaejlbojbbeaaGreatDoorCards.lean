/-
  DERIVED. GIVEN WITH THE SEED: THE CARDS: each row of YtamaejlbojbbeaaGreatDoorRows.lean that lists a variable, with what it lists TIED to the program's text (the seventh form; the later family's looks); each row that meets fmt, with fmt's text TOLD by the authors' own Lean function (tested against real Go, not proved from fmt's source: count such statements apart). THE CARD IS WHAT COUNTS. Prove the row's statement (the work); the ties are given (YtamaejlbojbbeaaGreatDoorTie.lean); close each card by the builder's one call (the guide's Derived/Test/ToyasCard.lean, 'card_holds'). Laid BY PROGRAM, IN A SANDBOX (cutbox-door.mjs). By AI agents, Wed Nov 11 2026. No macro, syntax, notation, axiom, sorry.
-/
import Derived.Test.YtamaejlbojbbeaaGreatDoorRows
import GoSem.ClaimSeven
namespace Go.Proofs.YtamaejlbojbbeaaGreatDoor
namespace Rows

/-- THE TIED CARD OF 'veneerlaw07.TreeBuilds'. -/
def treeBuildsCard : Claim7 := { stood := { row := treeBuildsRow, standIns := [], harness := (true, "cbfbd2708c6541dece02d01f41886a36cb9da6d50d58e71a81bc9fc450a2db89"), looks := false }, kinds := [], alts := [], laidByText := true, laidKinds := [.data], laidTests := true, laidLooks := .later }
def TreeBuildsCardSaid : Prop := Claim7.holds Tryz.pinned (.plain (OpenSpec.ofChange treeBuildsSpec)) treeBuildsCard

/-- THE TIED CARD OF 'veneerlaw08.CarryPlays'. -/
def carryPlaysCard : Claim7 := { stood := { row := carryPlaysRow, standIns := [], harness := (true, "cbfbd2708c6541dece02d01f41886a36cb9da6d50d58e71a81bc9fc450a2db89"), looks := false }, kinds := [], alts := [], laidByText := true, laidKinds := [.data], laidTests := true, laidLooks := .later }
def CarryPlaysCardSaid : Prop := Claim7.holds Tryz.pinned (.plain (OpenSpec.ofChange carryPlaysSpec)) carryPlaysCard

/-- THE TIED CARD OF 'veneerlaw08.CarryReaches'. -/
def carryReachesCard : Claim7 := { stood := { row := carryReachesRow, standIns := [], harness := (true, "cbfbd2708c6541dece02d01f41886a36cb9da6d50d58e71a81bc9fc450a2db89"), looks := false }, kinds := [], alts := [], laidByText := true, laidKinds := [.data], laidTests := true, laidLooks := .later }
def CarryReachesCardSaid : Prop := Claim7.holds Tryz.pinned (.plain (OpenSpec.ofChange carryReachesSpec)) carryReachesCard

/-- THE TIED CARD OF 'veneerlaw08.CarryRefuses'. -/
def carryRefusesCard : Claim7 := { stood := { row := carryRefusesRow, standIns := [], harness := (true, "cbfbd2708c6541dece02d01f41886a36cb9da6d50d58e71a81bc9fc450a2db89"), looks := false }, kinds := [], alts := [], laidByText := true, laidKinds := [.data], laidTests := true, laidLooks := .later }
def CarryRefusesCardSaid : Prop := Claim7.holds Tryz.pinned (.plain (OpenSpec.ofChange carryRefusesSpec)) carryRefusesCard

/-- THE SECOND FORM's CARD OF 'veneerlaw07.TreeBuilds'. -/
def treeBuildsUptoCard : Claim7 := { stood := { row := treeBuildsUptoRow, standIns := [], harness := (true, "cbfbd2708c6541dece02d01f41886a36cb9da6d50d58e71a81bc9fc450a2db89"), looks := false }, kinds := [], alts := [], laidByText := true, laidKinds := [.data], laidTests := true, laidLooks := .later }
def TreeBuildsUptoCardSaid : Prop := Claim7.holds Tryz.pinned (.plain (OpenSpec.upto treeBuildsSpec)) treeBuildsUptoCard

/-- THE SECOND FORM's CARD OF 'veneerlaw08.CarryPlays'. -/
def carryPlaysUptoCard : Claim7 := { stood := { row := carryPlaysUptoRow, standIns := [], harness := (true, "cbfbd2708c6541dece02d01f41886a36cb9da6d50d58e71a81bc9fc450a2db89"), looks := false }, kinds := [], alts := [], laidByText := true, laidKinds := [.data], laidTests := true, laidLooks := .later }
def CarryPlaysUptoCardSaid : Prop := Claim7.holds Tryz.pinned (.plain (OpenSpec.upto carryPlaysSpec)) carryPlaysUptoCard

/-- THE SECOND FORM's CARD OF 'veneerlaw08.CarryReaches'. -/
def carryReachesUptoCard : Claim7 := { stood := { row := carryReachesUptoRow, standIns := [], harness := (true, "cbfbd2708c6541dece02d01f41886a36cb9da6d50d58e71a81bc9fc450a2db89"), looks := false }, kinds := [], alts := [], laidByText := true, laidKinds := [.data], laidTests := true, laidLooks := .later }
def CarryReachesUptoCardSaid : Prop := Claim7.holds Tryz.pinned (.plain (OpenSpec.upto carryReachesSpec)) carryReachesUptoCard

/-- THE SECOND FORM's CARD OF 'veneerlaw08.CarryRefuses'. -/
def carryRefusesUptoCard : Claim7 := { stood := { row := carryRefusesUptoRow, standIns := [], harness := (true, "cbfbd2708c6541dece02d01f41886a36cb9da6d50d58e71a81bc9fc450a2db89"), looks := false }, kinds := [], alts := [], laidByText := true, laidKinds := [.data], laidTests := true, laidLooks := .later }
def CarryRefusesUptoCardSaid : Prop := Claim7.holds Tryz.pinned (.plain (OpenSpec.upto carryRefusesSpec)) carryRefusesUptoCard
end Rows
end Go.Proofs.YtamaejlbojbbeaaGreatDoor
