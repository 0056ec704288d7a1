/-
  No cell of these rows narrows 'for every input' (looked for: loops, veiled, ifaces, maps, wideKeys, modest, calm, conditions, laid).
  DERIVED. THE GIVEN ROWS OF THIS SEAT. 4 by the template 'for every input the law returns true; each argument reads behind the call as it read before'; 0 by the template 'total and deterministic' (their statements: YtecjblcdiabkcaaTotals.lean).
  GIVEN WITH THE SEED: the statements are not yours to turn. If you find one false, say at which input.
  Laid BY PROGRAM, IN A SANDBOX (cutbox-rows.mjs): the forced cells as the released guide's own fill.sh prints them over the translation 970c4f6a969f8c9c… (all of the seat's roots in one cut). By AI agents, Wed Nov 11 2026. No macro, syntax, notation, axiom, sorry.
-/
import Derived.Test.YtecjblcdiabkcaaChecked
import GoSem.Claim
import GoSem.ClaimJoined
import GoSem.ClaimMapViews
import Derived.JoinedTies
import Derived.KernelRfl
namespace Go.Proofs.Ytecjblcdiabkcaa
/- THE CELL 'sum', in the pinned program and in every row, IS THE sha256 OF THE DUMP (.gsa) THAT YtecjblcdiabkcaaProg.lean LOADS. Nothing in Lean hashes anything: it is a label: what it is worth is what the hold of that sum in a sandbox is worth. -/
noncomputable def Try.pinned : Pinned := { name := "ytecjblcdiabkcaa", sum := "970c4f6a969f8c9ca45174250ad99d112f3eee3c920959e15bf7d7aa27ae18dd", checked := Try.checked }
namespace Rows
def none {H : Type} : Left H := { results := [], args := [] }

/-- 'tocsinlaw16.FirmKnown': WHATEVER THE INPUT: true; the input reads as it did. -/
def firmKnownSpec : ChangeSpec := { name := "firmKnown", fn := fun _ => fun
  | [] => { results := [.lit (.bool true)], args := [] }
  | _ => none }
def firmKnownRow : OpenClaim := { program := "ytecjblcdiabkcaa", sum := "970c4f6a969f8c9ca45174250ad99d112f3eee3c920959e15bf7d7aa27ae18dd", func := "tocsin/tocsinlaw16.FirmKnown", spec := "firmKnown", apart := false }
def FirmKnownSaid : Prop := firmKnownRow.holds Try.pinned (OpenSpec.ofChange firmKnownSpec)

/-- ITS FALSE NEIGHBOUR: 'it returns false'. Refute it at one input. -/
def firmKnownWrong : ChangeSpec := { name := "firmKnown", fn := fun _ => fun
  | [] => { results := [.lit (.bool false)], args := [] }
  | _ => none }
def FirmKnownWrongFalsely : Prop := firmKnownRow.holds Try.pinned (OpenSpec.ofChange firmKnownWrong)

/-- 'tocsinlaw16.FirmPlays': WHATEVER THE INPUT: true; the input reads as it did. -/
def firmPlaysSpec : ChangeSpec := { name := "firmPlays", fn := fun _ => fun
  | [d1, d2, d3, d4] => { results := [.lit (.bool true)], args := [d1, d2, d3, d4] }
  | _ => none }
def firmPlaysRow : OpenClaim := { program := "ytecjblcdiabkcaa", sum := "970c4f6a969f8c9ca45174250ad99d112f3eee3c920959e15bf7d7aa27ae18dd", func := "tocsin/tocsinlaw16.FirmPlays", spec := "firmPlays", apart := false }
def FirmPlaysSaid : Prop := firmPlaysRow.holds Try.pinned (OpenSpec.ofChange firmPlaysSpec)

/-- ITS FALSE NEIGHBOUR: 'it returns false'. Refute it at one input. -/
def firmPlaysWrong : ChangeSpec := { name := "firmPlays", fn := fun _ => fun
  | [d1, d2, d3, d4] => { results := [.lit (.bool false)], args := [d1, d2, d3, d4] }
  | _ => none }
def FirmPlaysWrongFalsely : Prop := firmPlaysRow.holds Try.pinned (OpenSpec.ofChange firmPlaysWrong)

/-- 'tocsinlaw16.FirmMore': WHATEVER THE INPUT: true; the input reads as it did. -/
def firmMoreSpec : ChangeSpec := { name := "firmMore", fn := fun _ => fun
  | [d1, d2, d3, d4] => { results := [.lit (.bool true)], args := [d1, d2, d3, d4] }
  | _ => none }
def firmMoreRow : OpenClaim := { program := "ytecjblcdiabkcaa", sum := "970c4f6a969f8c9ca45174250ad99d112f3eee3c920959e15bf7d7aa27ae18dd", func := "tocsin/tocsinlaw16.FirmMore", spec := "firmMore", apart := false }
def FirmMoreSaid : Prop := firmMoreRow.holds Try.pinned (OpenSpec.ofChange firmMoreSpec)

/-- ITS FALSE NEIGHBOUR: 'it returns false'. Refute it at one input. -/
def firmMoreWrong : ChangeSpec := { name := "firmMore", fn := fun _ => fun
  | [d1, d2, d3, d4] => { results := [.lit (.bool false)], args := [d1, d2, d3, d4] }
  | _ => none }
def FirmMoreWrongFalsely : Prop := firmMoreRow.holds Try.pinned (OpenSpec.ofChange firmMoreWrong)

/-- 'tocsinlaw16.FirmWindows': WHATEVER THE INPUT: true; the input reads as it did. -/
def firmWindowsSpec : ChangeSpec := { name := "firmWindows", fn := fun _ => fun
  | [d1, d2, d3] => { results := [.lit (.bool true)], args := [d1, d2, d3] }
  | _ => none }
def firmWindowsRow : OpenClaim := { program := "ytecjblcdiabkcaa", sum := "970c4f6a969f8c9ca45174250ad99d112f3eee3c920959e15bf7d7aa27ae18dd", func := "tocsin/tocsinlaw16.FirmWindows", spec := "firmWindows", apart := false }
def FirmWindowsSaid : Prop := firmWindowsRow.holds Try.pinned (OpenSpec.ofChange firmWindowsSpec)

/-- ITS FALSE NEIGHBOUR: 'it returns false'. Refute it at one input. -/
def firmWindowsWrong : ChangeSpec := { name := "firmWindows", fn := fun _ => fun
  | [d1, d2, d3] => { results := [.lit (.bool false)], args := [d1, d2, d3] }
  | _ => none }
def FirmWindowsWrongFalsely : Prop := firmWindowsRow.holds Try.pinned (OpenSpec.ofChange firmWindowsWrong)

/- THE SECOND FORM. 'bulk': how many values and letters a reading holds, each counted each time it is reached (what is shared counts as often as it is met; a slice's spare places count too). A statement '..UptoSaid' is the law's where the arguments, and the package variables that the reading takes, are together of bulk at most 1048576: NARROWER than '..Said'. Prove '..Said' where nothing that the law and all that it calls make is longer than what came in: it says more and counts as full. Else prove '..UptoSaid'. A law counts once. -/
mutual
def uptoBulk {H : Type} : DataW H → Nat
  | .lit (.string bytes) => bytes.length + 1
  | .lit _ => 1
  | .nil => 1
  | .ptr d => uptoBulk d + 1
  | .slice elems spare => uptoBulkAll elems + uptoBulkAll spare + 1
  | .agg parts => uptoBulkAll parts + 1
  | .iface _ d => uptoBulk d + 1
  | .map entries => uptoBulkEntries entries + 1
  | .held _ => 1
def uptoBulkAll {H : Type} : List (DataW H) → Nat
  | [] => 0
  | d :: r => uptoBulk d + uptoBulkAll r
def uptoBulkEntries {H : Type} : List (Lit × DataW H) → Nat
  | [] => 0
  | x :: r => uptoBulkEntry x + uptoBulkEntries r
def uptoBulkEntry {H : Type} : Lit × DataW H → Nat
  | (.string bytes, d) => bytes.length + uptoBulk d + 1
  | (_, d) => uptoBulk d + 1
 end
def uptoSmall : (H : Type) → List (DataW H) → Bool := fun _ ds => decide (uptoBulkAll ds ≤ 1048576)
def OpenSpec.upto (s : _root_.Go.ChangeSpec) : _root_.Go.OpenSpec := { _root_.Go.OpenSpec.ofChange s with cond := some uptoSmall }

/-- 'tocsinlaw16.FirmKnown', WHERE WHAT IT READS IS OF BULK AT MOST 1048576: true; the input reads as it did. -/
def firmKnownUptoRow : OpenClaim := { program := "ytecjblcdiabkcaa", sum := "970c4f6a969f8c9ca45174250ad99d112f3eee3c920959e15bf7d7aa27ae18dd", func := "tocsin/tocsinlaw16.FirmKnown", spec := "firmKnown", apart := false, narrowed := true }
def FirmKnownUptoSaid : Prop := firmKnownUptoRow.holds Try.pinned (OpenSpec.upto firmKnownSpec)

/-- 'tocsinlaw16.FirmPlays', WHERE WHAT IT READS IS OF BULK AT MOST 1048576: true; the input reads as it did. -/
def firmPlaysUptoRow : OpenClaim := { program := "ytecjblcdiabkcaa", sum := "970c4f6a969f8c9ca45174250ad99d112f3eee3c920959e15bf7d7aa27ae18dd", func := "tocsin/tocsinlaw16.FirmPlays", spec := "firmPlays", apart := false, narrowed := true }
def FirmPlaysUptoSaid : Prop := firmPlaysUptoRow.holds Try.pinned (OpenSpec.upto firmPlaysSpec)

/-- 'tocsinlaw16.FirmMore', WHERE WHAT IT READS IS OF BULK AT MOST 1048576: true; the input reads as it did. -/
def firmMoreUptoRow : OpenClaim := { program := "ytecjblcdiabkcaa", sum := "970c4f6a969f8c9ca45174250ad99d112f3eee3c920959e15bf7d7aa27ae18dd", func := "tocsin/tocsinlaw16.FirmMore", spec := "firmMore", apart := false, narrowed := true }
def FirmMoreUptoSaid : Prop := firmMoreUptoRow.holds Try.pinned (OpenSpec.upto firmMoreSpec)

/-- 'tocsinlaw16.FirmWindows', WHERE WHAT IT READS IS OF BULK AT MOST 1048576: true; the input reads as it did. -/
def firmWindowsUptoRow : OpenClaim := { program := "ytecjblcdiabkcaa", sum := "970c4f6a969f8c9ca45174250ad99d112f3eee3c920959e15bf7d7aa27ae18dd", func := "tocsin/tocsinlaw16.FirmWindows", spec := "firmWindows", apart := false, narrowed := true }
def FirmWindowsUptoSaid : Prop := firmWindowsUptoRow.holds Try.pinned (OpenSpec.upto firmWindowsSpec)

end Rows
end Go.Proofs.Ytecjblcdiabkcaa
