/-
  DERIVED. GIVEN WITH THE SEED: THE CARDS: each row of YtnbidigilmjloaaDoorRows.lean that lists a variable, with what it lists TIED to the program's text (the seventh form; the later family's looks); each row that meets fmt, with fmt's text TOLD by the authors' own Lean function (tested against real Go, not proved from fmt's source: count such statements apart). THE CARD IS WHAT COUNTS. Prove the row's statement (the work); the ties are given (YtnbidigilmjloaaDoorTie.lean); close each card by the builder's one call (the guide's Derived/Test/ToyasCard.lean, 'card_holds'). Laid BY PROGRAM, IN A SANDBOX (cutbox-door.mjs). By AI agents, Wed Nov 11 2026. No macro, syntax, notation, axiom, sorry.
-/
import Derived.Test.YtnbidigilmjloaaDoorRows
import GoSem.ClaimSeven
namespace Go.Proofs.YtnbidigilmjloaaDoor
namespace Rows

/-- THE TIED CARD OF 'tocsinlaw8.JobKnown'. -/
def jobKnownCard : Claim7 := { stood := { row := jobKnownRow, standIns := [], harness := (true, "1fca0158b50723813c560af3ddb9b39c0fa2daee573c6ccbac4063a3b2624a04"), looks := false }, kinds := [], alts := [], laidByText := true, laidKinds := [.data, .pinned], laidTests := true, laidLooks := .later }
def JobKnownCardSaid : Prop := Claim7.holds Tryd.pinned (.plain (OpenSpec.ofChange jobKnownSpec)) jobKnownCard

/-- THE TIED CARD OF 'tocsinlaw8.JobSays'. -/
def jobSaysCard : Claim7 := { stood := { row := jobSaysRow, standIns := [], harness := (true, "1fca0158b50723813c560af3ddb9b39c0fa2daee573c6ccbac4063a3b2624a04"), looks := false }, kinds := [], alts := [], laidByText := true, laidKinds := [.data, .pinned], laidTests := true, laidLooks := .later }
def JobSaysCardSaid : Prop := Claim7.holds Tryd.pinned (.plain (OpenSpec.ofChange jobSaysSpec)) jobSaysCard

/-- THE TIED CARD OF 'tocsinlaw8.JobOrder'. -/
def jobOrderCard : Claim7 := { stood := { row := jobOrderRow, standIns := [], harness := (true, "1fca0158b50723813c560af3ddb9b39c0fa2daee573c6ccbac4063a3b2624a04"), looks := false }, kinds := [], alts := [], laidByText := true, laidKinds := [.data, .pinned], laidTests := true, laidLooks := .later }
def JobOrderCardSaid : Prop := Claim7.holds Tryd.pinned (.plain (OpenSpec.ofChange jobOrderSpec)) jobOrderCard

/-- THE TIED CARD OF 'tocsinlaw8.JobEdges'. -/
def jobEdgesCard : Claim7 := { stood := { row := jobEdgesRow, standIns := [], harness := (true, "1fca0158b50723813c560af3ddb9b39c0fa2daee573c6ccbac4063a3b2624a04"), looks := false }, kinds := [], alts := [], laidByText := true, laidKinds := [.data, .pinned], laidTests := true, laidLooks := .later }
def JobEdgesCardSaid : Prop := Claim7.holds Tryd.pinned (.plain (OpenSpec.ofChange jobEdgesSpec)) jobEdgesCard

/-- THE SECOND FORM's CARD OF 'tocsinlaw8.JobKnown'. -/
def jobKnownUptoCard : Claim7 := { stood := { row := jobKnownUptoRow, standIns := [], harness := (true, "1fca0158b50723813c560af3ddb9b39c0fa2daee573c6ccbac4063a3b2624a04"), looks := false }, kinds := [], alts := [], laidByText := true, laidKinds := [.data, .pinned], laidTests := true, laidLooks := .later }
def JobKnownUptoCardSaid : Prop := Claim7.holds Tryd.pinned (.plain (OpenSpec.upto jobKnownSpec)) jobKnownUptoCard

/-- THE SECOND FORM's CARD OF 'tocsinlaw8.JobSays'. -/
def jobSaysUptoCard : Claim7 := { stood := { row := jobSaysUptoRow, standIns := [], harness := (true, "1fca0158b50723813c560af3ddb9b39c0fa2daee573c6ccbac4063a3b2624a04"), looks := false }, kinds := [], alts := [], laidByText := true, laidKinds := [.data, .pinned], laidTests := true, laidLooks := .later }
def JobSaysUptoCardSaid : Prop := Claim7.holds Tryd.pinned (.plain (OpenSpec.upto jobSaysSpec)) jobSaysUptoCard

/-- THE SECOND FORM's CARD OF 'tocsinlaw8.JobOrder'. -/
def jobOrderUptoCard : Claim7 := { stood := { row := jobOrderUptoRow, standIns := [], harness := (true, "1fca0158b50723813c560af3ddb9b39c0fa2daee573c6ccbac4063a3b2624a04"), looks := false }, kinds := [], alts := [], laidByText := true, laidKinds := [.data, .pinned], laidTests := true, laidLooks := .later }
def JobOrderUptoCardSaid : Prop := Claim7.holds Tryd.pinned (.plain (OpenSpec.upto jobOrderSpec)) jobOrderUptoCard

/-- THE SECOND FORM's CARD OF 'tocsinlaw8.JobEdges'. -/
def jobEdgesUptoCard : Claim7 := { stood := { row := jobEdgesUptoRow, standIns := [], harness := (true, "1fca0158b50723813c560af3ddb9b39c0fa2daee573c6ccbac4063a3b2624a04"), looks := false }, kinds := [], alts := [], laidByText := true, laidKinds := [.data, .pinned], laidTests := true, laidLooks := .later }
def JobEdgesUptoCardSaid : Prop := Claim7.holds Tryd.pinned (.plain (OpenSpec.upto jobEdgesSpec)) jobEdgesUptoCard
end Rows
end Go.Proofs.YtnbidigilmjloaaDoor
