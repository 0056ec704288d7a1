/-
  DERIVED. GIVEN WITH THE SEED: THE CARDS: each row of YtacffjkhbajgkaaDoorRows.lean that lists a variable, with what it lists TIED to the program's text (the seventh form; the later family's looks); each row that meets fmt, with fmt's text TOLD by the authors' own Lean function (tested against real Go, not proved from fmt's source: count such statements apart). THE CARD IS WHAT COUNTS. Prove the row's statement (the work); the ties are given (YtacffjkhbajgkaaDoorTie.lean); close each card by the builder's one call (the guide's Derived/Test/ToyasCard.lean, 'card_holds'). Laid BY PROGRAM, IN A SANDBOX (cutbox-door.mjs). By AI agents, Wed Nov 11 2026. No macro, syntax, notation, axiom, sorry.
-/
import Derived.Test.YtacffjkhbajgkaaDoorRows
import GoSem.ClaimSeven
namespace Go.Proofs.YtacffjkhbajgkaaDoor
namespace Rows

/-- THE TIED CARD OF 'tocsinlaw18.OverKnown'. -/
def overKnownCard : Claim7 := { stood := { row := overKnownRow, standIns := [], harness := (true, "c3114996249ca6059097b5c9c93af20e69d394c3f1733eb436637c9a344b7c44"), looks := false }, kinds := [], alts := [], laidByText := true, laidKinds := [.data, .pinned], laidTests := true, laidLooks := .later }
def OverKnownCardSaid : Prop := Claim7.holds Tryd.pinned (.plain (OpenSpec.ofChange overKnownSpec)) overKnownCard

/-- THE TIED CARD OF 'tocsinlaw18.OverSays'. -/
def overSaysCard : Claim7 := { stood := { row := overSaysRow, standIns := [], harness := (true, "c3114996249ca6059097b5c9c93af20e69d394c3f1733eb436637c9a344b7c44"), looks := false }, kinds := [], alts := [], laidByText := true, laidKinds := [.data, .pinned], laidTests := true, laidLooks := .later }
def OverSaysCardSaid : Prop := Claim7.holds Tryd.pinned (.plain (OpenSpec.ofChange overSaysSpec)) overSaysCard

/-- THE TIED CARD OF 'tocsinlaw18.OverNone'. -/
def overNoneCard : Claim7 := { stood := { row := overNoneRow, standIns := [], harness := (true, "c3114996249ca6059097b5c9c93af20e69d394c3f1733eb436637c9a344b7c44"), looks := false }, kinds := [], alts := [], laidByText := true, laidKinds := [.data, .pinned], laidTests := true, laidLooks := .later }
def OverNoneCardSaid : Prop := Claim7.holds Tryd.pinned (.plain (OpenSpec.ofChange overNoneSpec)) overNoneCard

/-- THE TIED CARD OF 'tocsinlaw18.OverApart'. -/
def overApartCard : Claim7 := { stood := { row := overApartRow, standIns := [], harness := (true, "c3114996249ca6059097b5c9c93af20e69d394c3f1733eb436637c9a344b7c44"), looks := false }, kinds := [], alts := [], laidByText := true, laidKinds := [.data, .pinned], laidTests := true, laidLooks := .later }
def OverApartCardSaid : Prop := Claim7.holds Tryd.pinned (.plain (OpenSpec.ofChange overApartSpec)) overApartCard

/-- THE SECOND FORM's CARD OF 'tocsinlaw18.OverKnown'. -/
def overKnownUptoCard : Claim7 := { stood := { row := overKnownUptoRow, standIns := [], harness := (true, "c3114996249ca6059097b5c9c93af20e69d394c3f1733eb436637c9a344b7c44"), looks := false }, kinds := [], alts := [], laidByText := true, laidKinds := [.data, .pinned], laidTests := true, laidLooks := .later }
def OverKnownUptoCardSaid : Prop := Claim7.holds Tryd.pinned (.plain (OpenSpec.upto overKnownSpec)) overKnownUptoCard

/-- THE SECOND FORM's CARD OF 'tocsinlaw18.OverSays'. -/
def overSaysUptoCard : Claim7 := { stood := { row := overSaysUptoRow, standIns := [], harness := (true, "c3114996249ca6059097b5c9c93af20e69d394c3f1733eb436637c9a344b7c44"), looks := false }, kinds := [], alts := [], laidByText := true, laidKinds := [.data, .pinned], laidTests := true, laidLooks := .later }
def OverSaysUptoCardSaid : Prop := Claim7.holds Tryd.pinned (.plain (OpenSpec.upto overSaysSpec)) overSaysUptoCard

/-- THE SECOND FORM's CARD OF 'tocsinlaw18.OverNone'. -/
def overNoneUptoCard : Claim7 := { stood := { row := overNoneUptoRow, standIns := [], harness := (true, "c3114996249ca6059097b5c9c93af20e69d394c3f1733eb436637c9a344b7c44"), looks := false }, kinds := [], alts := [], laidByText := true, laidKinds := [.data, .pinned], laidTests := true, laidLooks := .later }
def OverNoneUptoCardSaid : Prop := Claim7.holds Tryd.pinned (.plain (OpenSpec.upto overNoneSpec)) overNoneUptoCard

/-- THE SECOND FORM's CARD OF 'tocsinlaw18.OverApart'. -/
def overApartUptoCard : Claim7 := { stood := { row := overApartUptoRow, standIns := [], harness := (true, "c3114996249ca6059097b5c9c93af20e69d394c3f1733eb436637c9a344b7c44"), looks := false }, kinds := [], alts := [], laidByText := true, laidKinds := [.data, .pinned], laidTests := true, laidLooks := .later }
def OverApartUptoCardSaid : Prop := Claim7.holds Tryd.pinned (.plain (OpenSpec.upto overApartSpec)) overApartUptoCard
end Rows
end Go.Proofs.YtacffjkhbajgkaaDoor
