/-
  DERIVED. GIVEN WITH THE SEED: THE CARDS: each row of YtcohodpaagpfgaaDoorRows.lean that lists a variable, with what it lists TIED to the program's text (the seventh form; the later family's looks); each row that meets fmt, with fmt's text TOLD by the authors' own Lean function (tested against real Go, not proved from fmt's source: count such statements apart). THE CARD IS WHAT COUNTS. Prove the row's statement (the work); the ties are given (YtcohodpaagpfgaaDoorTie.lean); close each card by the builder's one call (the guide's Derived/Test/ToyasCard.lean, 'card_holds'). Laid BY PROGRAM, IN A SANDBOX (cutbox-door.mjs). By AI agents, Wed Nov 11 2026. No macro, syntax, notation, axiom, sorry.
-/
import Derived.Test.YtcohodpaagpfgaaDoorRows
import GoSem.ClaimSeven
namespace Go.Proofs.YtcohodpaagpfgaaDoor
namespace Rows

/-- THE TIED CARD OF 'tocsinlaw10.EdfKnown'. -/
def edfKnownCard : Claim7 := { stood := { row := edfKnownRow, standIns := [], harness := (true, "dc0922235d3169b4930e63cf99cdb00147b517bccd296247dad09a8b7f0e21c4"), looks := false }, kinds := [], alts := [], laidByText := true, laidKinds := [.data, .pinned], laidTests := true, laidLooks := .later }
def EdfKnownCardSaid : Prop := Claim7.holds Tryd.pinned (.plain (OpenSpec.ofChange edfKnownSpec)) edfKnownCard

/-- THE TIED CARD OF 'tocsinlaw10.EdfSays'. -/
def edfSaysCard : Claim7 := { stood := { row := edfSaysRow, standIns := [], harness := (true, "dc0922235d3169b4930e63cf99cdb00147b517bccd296247dad09a8b7f0e21c4"), looks := false }, kinds := [], alts := [], laidByText := true, laidKinds := [.data, .pinned], laidTests := true, laidLooks := .later }
def EdfSaysCardSaid : Prop := Claim7.holds Tryd.pinned (.plain (OpenSpec.ofChange edfSaysSpec)) edfSaysCard

/-- THE TIED CARD OF 'tocsinlaw10.EdfBest'. -/
def edfBestCard : Claim7 := { stood := { row := edfBestRow, standIns := [], harness := (true, "dc0922235d3169b4930e63cf99cdb00147b517bccd296247dad09a8b7f0e21c4"), looks := false }, kinds := [], alts := [], laidByText := true, laidKinds := [.data, .pinned], laidTests := true, laidLooks := .later }
def EdfBestCardSaid : Prop := Claim7.holds Tryd.pinned (.plain (OpenSpec.ofChange edfBestSpec)) edfBestCard

/-- THE TIED CARD OF 'tocsinlaw10.EdfLess'. -/
def edfLessCard : Claim7 := { stood := { row := edfLessRow, standIns := [], harness := (true, "dc0922235d3169b4930e63cf99cdb00147b517bccd296247dad09a8b7f0e21c4"), looks := false }, kinds := [], alts := [], laidByText := true, laidKinds := [.data, .pinned], laidTests := true, laidLooks := .later }
def EdfLessCardSaid : Prop := Claim7.holds Tryd.pinned (.plain (OpenSpec.ofChange edfLessSpec)) edfLessCard

/-- THE TIED CARD OF 'tocsinlaw10.EdfBusy'. -/
def edfBusyCard : Claim7 := { stood := { row := edfBusyRow, standIns := [], harness := (true, "dc0922235d3169b4930e63cf99cdb00147b517bccd296247dad09a8b7f0e21c4"), looks := false }, kinds := [], alts := [], laidByText := true, laidKinds := [.data, .pinned], laidTests := true, laidLooks := .later }
def EdfBusyCardSaid : Prop := Claim7.holds Tryd.pinned (.plain (OpenSpec.ofChange edfBusySpec)) edfBusyCard

/-- THE SECOND FORM's CARD OF 'tocsinlaw10.EdfKnown'. -/
def edfKnownUptoCard : Claim7 := { stood := { row := edfKnownUptoRow, standIns := [], harness := (true, "dc0922235d3169b4930e63cf99cdb00147b517bccd296247dad09a8b7f0e21c4"), looks := false }, kinds := [], alts := [], laidByText := true, laidKinds := [.data, .pinned], laidTests := true, laidLooks := .later }
def EdfKnownUptoCardSaid : Prop := Claim7.holds Tryd.pinned (.plain (OpenSpec.upto edfKnownSpec)) edfKnownUptoCard

/-- THE SECOND FORM's CARD OF 'tocsinlaw10.EdfSays'. -/
def edfSaysUptoCard : Claim7 := { stood := { row := edfSaysUptoRow, standIns := [], harness := (true, "dc0922235d3169b4930e63cf99cdb00147b517bccd296247dad09a8b7f0e21c4"), looks := false }, kinds := [], alts := [], laidByText := true, laidKinds := [.data, .pinned], laidTests := true, laidLooks := .later }
def EdfSaysUptoCardSaid : Prop := Claim7.holds Tryd.pinned (.plain (OpenSpec.upto edfSaysSpec)) edfSaysUptoCard

/-- THE SECOND FORM's CARD OF 'tocsinlaw10.EdfBest'. -/
def edfBestUptoCard : Claim7 := { stood := { row := edfBestUptoRow, standIns := [], harness := (true, "dc0922235d3169b4930e63cf99cdb00147b517bccd296247dad09a8b7f0e21c4"), looks := false }, kinds := [], alts := [], laidByText := true, laidKinds := [.data, .pinned], laidTests := true, laidLooks := .later }
def EdfBestUptoCardSaid : Prop := Claim7.holds Tryd.pinned (.plain (OpenSpec.upto edfBestSpec)) edfBestUptoCard

/-- THE SECOND FORM's CARD OF 'tocsinlaw10.EdfLess'. -/
def edfLessUptoCard : Claim7 := { stood := { row := edfLessUptoRow, standIns := [], harness := (true, "dc0922235d3169b4930e63cf99cdb00147b517bccd296247dad09a8b7f0e21c4"), looks := false }, kinds := [], alts := [], laidByText := true, laidKinds := [.data, .pinned], laidTests := true, laidLooks := .later }
def EdfLessUptoCardSaid : Prop := Claim7.holds Tryd.pinned (.plain (OpenSpec.upto edfLessSpec)) edfLessUptoCard

/-- THE SECOND FORM's CARD OF 'tocsinlaw10.EdfBusy'. -/
def edfBusyUptoCard : Claim7 := { stood := { row := edfBusyUptoRow, standIns := [], harness := (true, "dc0922235d3169b4930e63cf99cdb00147b517bccd296247dad09a8b7f0e21c4"), looks := false }, kinds := [], alts := [], laidByText := true, laidKinds := [.data, .pinned], laidTests := true, laidLooks := .later }
def EdfBusyUptoCardSaid : Prop := Claim7.holds Tryd.pinned (.plain (OpenSpec.upto edfBusySpec)) edfBusyUptoCard
end Rows
end Go.Proofs.YtcohodpaagpfgaaDoor
