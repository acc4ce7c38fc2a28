/-
  DERIVED. GIVEN WITH THE SEED: THE CARDS: each row of YtindifjhocgkbaaGreatDoorRows.lean that lists a variable, with what it lists TIED to the program's text (the seventh form; the later family's looks); each row that meets fmt, with fmt's text TOLD by the authors' own Lean function (tested against real Go, not proved from fmt's source: count such statements apart). THE CARD IS WHAT COUNTS. Prove the row's statement (the work); the ties are given (YtindifjhocgkbaaGreatDoorTie.lean); close each card by the builder's one call (the guide's Derived/Test/ToyasCard.lean, 'card_holds'). Laid BY PROGRAM, IN A SANDBOX (cutbox-door.mjs). By AI agents, Wed Nov 11 2026. No macro, syntax, notation, axiom, sorry.
-/
import Derived.Test.YtindifjhocgkbaaGreatDoorRows
import GoSem.ClaimSeven
namespace Go.Proofs.YtindifjhocgkbaaGreatDoor
namespace Rows

/-- THE TIED CARD OF 'overlaylaw.Tables'. -/
def tablesCard : Claim7 := { stood := { row := tablesRow, standIns := [], harness := (true, "7032ff78ad936286d9c9317cf9215b770f5aea82d39f906516377a1f61fb3bfe"), looks := true }, kinds := [], alts := [], laidByText := true, laidKinds := [.handle, .data, .data], laidTests := true, laidLooks := .later }
def TablesCardSaid : Prop := Claim7.holds Tryz.pinned (.plain (OpenSpec.ofChange tablesSpec)) tablesCard

/-- THE TIED CARD OF 'overlaylaw.States'. -/
def statesCard : Claim7 := { stood := { row := statesRow, standIns := [], harness := (true, "7032ff78ad936286d9c9317cf9215b770f5aea82d39f906516377a1f61fb3bfe"), looks := true }, kinds := [], alts := [], laidByText := true, laidKinds := [.handle, .data, .data], laidTests := true, laidLooks := .later }
def StatesCardSaid : Prop := Claim7.holds Tryz.pinned (.plain (OpenSpec.ofChange statesSpec)) statesCard

/-- THE TIED CARD OF 'overlaykeep.Ordered'. -/
def orderedCard : Claim7 := { stood := { row := orderedRow, standIns := [], harness := (true, "7032ff78ad936286d9c9317cf9215b770f5aea82d39f906516377a1f61fb3bfe"), looks := true }, kinds := [], alts := [], laidByText := true, laidKinds := [.handle, .data, .data], laidTests := true, laidLooks := .later }
def OrderedCardSaid : Prop := Claim7.holds Tryz.pinned (.plain (OpenSpec.ofChange orderedSpec)) orderedCard

/-- THE TIED CARD OF 'overlaylaw.Reconciles'. -/
def reconcilesCard : Claim7 := { stood := { row := reconcilesRow, standIns := [], harness := (true, "7032ff78ad936286d9c9317cf9215b770f5aea82d39f906516377a1f61fb3bfe"), looks := true }, kinds := [], alts := [], laidByText := true, laidKinds := [.handle, .data, .data], laidTests := true, laidLooks := .later }
def ReconcilesCardSaid : Prop := Claim7.holds Tryz.pinned (.plain (OpenSpec.ofChange reconcilesSpec)) reconcilesCard

/-- THE SECOND FORM's CARD OF 'overlaylaw.Tables'. -/
def tablesUptoCard : Claim7 := { stood := { row := tablesUptoRow, standIns := [], harness := (true, "7032ff78ad936286d9c9317cf9215b770f5aea82d39f906516377a1f61fb3bfe"), looks := true }, kinds := [], alts := [], laidByText := true, laidKinds := [.handle, .data, .data], laidTests := true, laidLooks := .later }
def TablesUptoCardSaid : Prop := Claim7.holds Tryz.pinned (.plain (OpenSpec.upto tablesSpec)) tablesUptoCard

/-- THE SECOND FORM's CARD OF 'overlaylaw.States'. -/
def statesUptoCard : Claim7 := { stood := { row := statesUptoRow, standIns := [], harness := (true, "7032ff78ad936286d9c9317cf9215b770f5aea82d39f906516377a1f61fb3bfe"), looks := true }, kinds := [], alts := [], laidByText := true, laidKinds := [.handle, .data, .data], laidTests := true, laidLooks := .later }
def StatesUptoCardSaid : Prop := Claim7.holds Tryz.pinned (.plain (OpenSpec.upto statesSpec)) statesUptoCard

/-- THE SECOND FORM's CARD OF 'overlaykeep.Ordered'. -/
def orderedUptoCard : Claim7 := { stood := { row := orderedUptoRow, standIns := [], harness := (true, "7032ff78ad936286d9c9317cf9215b770f5aea82d39f906516377a1f61fb3bfe"), looks := true }, kinds := [], alts := [], laidByText := true, laidKinds := [.handle, .data, .data], laidTests := true, laidLooks := .later }
def OrderedUptoCardSaid : Prop := Claim7.holds Tryz.pinned (.plain (OpenSpec.upto orderedSpec)) orderedUptoCard

/-- THE SECOND FORM's CARD OF 'overlaylaw.Reconciles'. -/
def reconcilesUptoCard : Claim7 := { stood := { row := reconcilesUptoRow, standIns := [], harness := (true, "7032ff78ad936286d9c9317cf9215b770f5aea82d39f906516377a1f61fb3bfe"), looks := true }, kinds := [], alts := [], laidByText := true, laidKinds := [.handle, .data, .data], laidTests := true, laidLooks := .later }
def ReconcilesUptoCardSaid : Prop := Claim7.holds Tryz.pinned (.plain (OpenSpec.upto reconcilesSpec)) reconcilesUptoCard
end Rows
end Go.Proofs.YtindifjhocgkbaaGreatDoor
