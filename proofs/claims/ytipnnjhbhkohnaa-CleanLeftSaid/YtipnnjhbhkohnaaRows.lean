/-
  No cell of these rows narrows 'for every input' (looked for: loops, veiled, ifaces, maps, wideKeys, modest, calm, conditions, laid).
  DERIVED. THE GIVEN ROWS OF THIS SEAT. 4 by the template 'for every input the law returns true; each argument reads behind the call as it read before'; 0 by the template 'total and deterministic' (their statements: YtipnnjhbhkohnaaTotals.lean).
  GIVEN WITH THE SEED: the statements are not yours to turn. If you find one false, say at which input.
  Laid BY PROGRAM, IN A SANDBOX (cutbox-rows.mjs): the forced cells as the released guide's own fill.sh prints them over the translation 6cb72ca2a7211a61… (all of the seat's roots in one cut). By AI agents, Wed Nov 11 2026. No macro, syntax, notation, axiom, sorry.
-/
import Derived.Test.YtipnnjhbhkohnaaChecked
import GoSem.Claim
import GoSem.ClaimJoined
import GoSem.ClaimMapViews
import Derived.JoinedTies
import Derived.KernelRfl
namespace Go.Proofs.Ytipnnjhbhkohnaa
/- THE CELL 'sum', in the pinned program and in every row, IS THE sha256 OF THE DUMP (.gsa) THAT YtipnnjhbhkohnaaProg.lean LOADS. Nothing in Lean hashes anything: it is a label: what it is worth is what the hold of that sum in a sandbox is worth. -/
noncomputable def Try.pinned : Pinned := { name := "ytipnnjhbhkohnaa", sum := "6cb72ca2a7211a61c893a8218a4f3f6af06c6d993a364ff4f99aebdeb175d1c3", checked := Try.checked }
namespace Rows
def none {H : Type} : Left H := { results := [], args := [] }

/-- 'tocsinlaw17.CleanKnown': WHATEVER THE INPUT: true; the input reads as it did. -/
def cleanKnownSpec : ChangeSpec := { name := "cleanKnown", fn := fun _ => fun
  | [] => { results := [.lit (.bool true)], args := [] }
  | _ => none }
def cleanKnownRow : OpenClaim := { program := "ytipnnjhbhkohnaa", sum := "6cb72ca2a7211a61c893a8218a4f3f6af06c6d993a364ff4f99aebdeb175d1c3", func := "tocsin/tocsinlaw17.CleanKnown", spec := "cleanKnown", apart := false }
def CleanKnownSaid : Prop := cleanKnownRow.holds Try.pinned (OpenSpec.ofChange cleanKnownSpec)

/-- ITS FALSE NEIGHBOUR: 'it returns false'. Refute it at one input. -/
def cleanKnownWrong : ChangeSpec := { name := "cleanKnown", fn := fun _ => fun
  | [] => { results := [.lit (.bool false)], args := [] }
  | _ => none }
def CleanKnownWrongFalsely : Prop := cleanKnownRow.holds Try.pinned (OpenSpec.ofChange cleanKnownWrong)

/-- 'tocsinlaw17.CleanPlays': WHATEVER THE INPUT: true; the input reads as it did. -/
def cleanPlaysSpec : ChangeSpec := { name := "cleanPlays", fn := fun _ => fun
  | [d1, d2, d3, d4] => { results := [.lit (.bool true)], args := [d1, d2, d3, d4] }
  | _ => none }
def cleanPlaysRow : OpenClaim := { program := "ytipnnjhbhkohnaa", sum := "6cb72ca2a7211a61c893a8218a4f3f6af06c6d993a364ff4f99aebdeb175d1c3", func := "tocsin/tocsinlaw17.CleanPlays", spec := "cleanPlays", apart := false }
def CleanPlaysSaid : Prop := cleanPlaysRow.holds Try.pinned (OpenSpec.ofChange cleanPlaysSpec)

/-- ITS FALSE NEIGHBOUR: 'it returns false'. Refute it at one input. -/
def cleanPlaysWrong : ChangeSpec := { name := "cleanPlays", fn := fun _ => fun
  | [d1, d2, d3, d4] => { results := [.lit (.bool false)], args := [d1, d2, d3, d4] }
  | _ => none }
def CleanPlaysWrongFalsely : Prop := cleanPlaysRow.holds Try.pinned (OpenSpec.ofChange cleanPlaysWrong)

/-- 'tocsinlaw17.CleanWithin': WHATEVER THE INPUT: true; the input reads as it did. -/
def cleanWithinSpec : ChangeSpec := { name := "cleanWithin", fn := fun _ => fun
  | [d1, d2, d3, d4] => { results := [.lit (.bool true)], args := [d1, d2, d3, d4] }
  | _ => none }
def cleanWithinRow : OpenClaim := { program := "ytipnnjhbhkohnaa", sum := "6cb72ca2a7211a61c893a8218a4f3f6af06c6d993a364ff4f99aebdeb175d1c3", func := "tocsin/tocsinlaw17.CleanWithin", spec := "cleanWithin", apart := false }
def CleanWithinSaid : Prop := cleanWithinRow.holds Try.pinned (OpenSpec.ofChange cleanWithinSpec)

/-- ITS FALSE NEIGHBOUR: 'it returns false'. Refute it at one input. -/
def cleanWithinWrong : ChangeSpec := { name := "cleanWithin", fn := fun _ => fun
  | [d1, d2, d3, d4] => { results := [.lit (.bool false)], args := [d1, d2, d3, d4] }
  | _ => none }
def CleanWithinWrongFalsely : Prop := cleanWithinRow.holds Try.pinned (OpenSpec.ofChange cleanWithinWrong)

/-- 'tocsinlaw17.CleanLeft': WHATEVER THE INPUT: true; the input reads as it did. -/
def cleanLeftSpec : ChangeSpec := { name := "cleanLeft", fn := fun _ => fun
  | [d1, d2, d3] => { results := [.lit (.bool true)], args := [d1, d2, d3] }
  | _ => none }
def cleanLeftRow : OpenClaim := { program := "ytipnnjhbhkohnaa", sum := "6cb72ca2a7211a61c893a8218a4f3f6af06c6d993a364ff4f99aebdeb175d1c3", func := "tocsin/tocsinlaw17.CleanLeft", spec := "cleanLeft", apart := false }
def CleanLeftSaid : Prop := cleanLeftRow.holds Try.pinned (OpenSpec.ofChange cleanLeftSpec)

/-- ITS FALSE NEIGHBOUR: 'it returns false'. Refute it at one input. -/
def cleanLeftWrong : ChangeSpec := { name := "cleanLeft", fn := fun _ => fun
  | [d1, d2, d3] => { results := [.lit (.bool false)], args := [d1, d2, d3] }
  | _ => none }
def CleanLeftWrongFalsely : Prop := cleanLeftRow.holds Try.pinned (OpenSpec.ofChange cleanLeftWrong)

/- THE SECOND FORM. 'bulk': how many values and letters a reading holds, each counted each time it is reached (what is shared counts as often as it is met; a slice's spare places count too). A statement '..UptoSaid' is the law's where the arguments, and the package variables that the reading takes, are together of bulk at most 1048576: NARROWER than '..Said'. Prove '..Said' where nothing that the law and all that it calls make is longer than what came in: it says more and counts as full. Else prove '..UptoSaid'. A law counts once. -/
mutual
def uptoBulk {H : Type} : DataW H → Nat
  | .lit (.string bytes) => bytes.length + 1
  | .lit _ => 1
  | .nil => 1
  | .ptr d => uptoBulk d + 1
  | .slice elems spare => uptoBulkAll elems + uptoBulkAll spare + 1
  | .agg parts => uptoBulkAll parts + 1
  | .iface _ d => uptoBulk d + 1
  | .map entries => uptoBulkEntries entries + 1
  | .held _ => 1
def uptoBulkAll {H : Type} : List (DataW H) → Nat
  | [] => 0
  | d :: r => uptoBulk d + uptoBulkAll r
def uptoBulkEntries {H : Type} : List (Lit × DataW H) → Nat
  | [] => 0
  | x :: r => uptoBulkEntry x + uptoBulkEntries r
def uptoBulkEntry {H : Type} : Lit × DataW H → Nat
  | (.string bytes, d) => bytes.length + uptoBulk d + 1
  | (_, d) => uptoBulk d + 1
 end
def uptoSmall : (H : Type) → List (DataW H) → Bool := fun _ ds => decide (uptoBulkAll ds ≤ 1048576)
def OpenSpec.upto (s : _root_.Go.ChangeSpec) : _root_.Go.OpenSpec := { _root_.Go.OpenSpec.ofChange s with cond := some uptoSmall }

/-- 'tocsinlaw17.CleanKnown', WHERE WHAT IT READS IS OF BULK AT MOST 1048576: true; the input reads as it did. -/
def cleanKnownUptoRow : OpenClaim := { program := "ytipnnjhbhkohnaa", sum := "6cb72ca2a7211a61c893a8218a4f3f6af06c6d993a364ff4f99aebdeb175d1c3", func := "tocsin/tocsinlaw17.CleanKnown", spec := "cleanKnown", apart := false, narrowed := true }
def CleanKnownUptoSaid : Prop := cleanKnownUptoRow.holds Try.pinned (OpenSpec.upto cleanKnownSpec)

/-- 'tocsinlaw17.CleanPlays', WHERE WHAT IT READS IS OF BULK AT MOST 1048576: true; the input reads as it did. -/
def cleanPlaysUptoRow : OpenClaim := { program := "ytipnnjhbhkohnaa", sum := "6cb72ca2a7211a61c893a8218a4f3f6af06c6d993a364ff4f99aebdeb175d1c3", func := "tocsin/tocsinlaw17.CleanPlays", spec := "cleanPlays", apart := false, narrowed := true }
def CleanPlaysUptoSaid : Prop := cleanPlaysUptoRow.holds Try.pinned (OpenSpec.upto cleanPlaysSpec)

/-- 'tocsinlaw17.CleanWithin', WHERE WHAT IT READS IS OF BULK AT MOST 1048576: true; the input reads as it did. -/
def cleanWithinUptoRow : OpenClaim := { program := "ytipnnjhbhkohnaa", sum := "6cb72ca2a7211a61c893a8218a4f3f6af06c6d993a364ff4f99aebdeb175d1c3", func := "tocsin/tocsinlaw17.CleanWithin", spec := "cleanWithin", apart := false, narrowed := true }
def CleanWithinUptoSaid : Prop := cleanWithinUptoRow.holds Try.pinned (OpenSpec.upto cleanWithinSpec)

/-- 'tocsinlaw17.CleanLeft', WHERE WHAT IT READS IS OF BULK AT MOST 1048576: true; the input reads as it did. -/
def cleanLeftUptoRow : OpenClaim := { program := "ytipnnjhbhkohnaa", sum := "6cb72ca2a7211a61c893a8218a4f3f6af06c6d993a364ff4f99aebdeb175d1c3", func := "tocsin/tocsinlaw17.CleanLeft", spec := "cleanLeft", apart := false, narrowed := true }
def CleanLeftUptoSaid : Prop := cleanLeftUptoRow.holds Try.pinned (OpenSpec.upto cleanLeftSpec)

end Rows
end Go.Proofs.Ytipnnjhbhkohnaa
