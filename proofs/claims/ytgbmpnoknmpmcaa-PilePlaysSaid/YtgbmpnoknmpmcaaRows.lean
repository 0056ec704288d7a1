/-
  No cell of these rows narrows 'for every input' (looked for: loops, veiled, ifaces, maps, wideKeys, modest, calm, conditions, laid).
  DERIVED. THE GIVEN ROWS OF THIS SEAT. 5 by the template 'for every input the law returns true; each argument reads behind the call as it read before'; 0 by the template 'total and deterministic' (their statements: YtgbmpnoknmpmcaaTotals.lean).
  GIVEN WITH THE SEED: the statements are not yours to turn. If you find one false, say at which input.
  Laid BY PROGRAM, IN A SANDBOX (cutbox-rows.mjs): the forced cells as the released guide's own fill.sh prints them over the translation a28dcb64e6f71396… (all of the seat's roots in one cut). By AI agents, Wed Nov 11 2026. No macro, syntax, notation, axiom, sorry.
-/
import Derived.Test.YtgbmpnoknmpmcaaChecked
import GoSem.Claim
import GoSem.ClaimJoined
import GoSem.ClaimMapViews
import Derived.JoinedTies
import Derived.KernelRfl
namespace Go.Proofs.Ytgbmpnoknmpmcaa
/- THE CELL 'sum', in the pinned program and in every row, IS THE sha256 OF THE DUMP (.gsa) THAT YtgbmpnoknmpmcaaProg.lean LOADS. Nothing in Lean hashes anything: it is a label: what it is worth is what the hold of that sum in a sandbox is worth. -/
noncomputable def Try.pinned : Pinned := { name := "ytgbmpnoknmpmcaa", sum := "a28dcb64e6f71396af381eb619fdf4df3db4a3855142280e48a61eceed202c3a", checked := Try.checked }
namespace Rows
def none {H : Type} : Left H := { results := [], args := [] }

/-- 'tocsinlaw5.PileKnown': WHATEVER THE INPUT: true; the input reads as it did. -/
def pileKnownSpec : ChangeSpec := { name := "pileKnown", fn := fun _ => fun
  | [] => { results := [.lit (.bool true)], args := [] }
  | _ => none }
def pileKnownRow : OpenClaim := { program := "ytgbmpnoknmpmcaa", sum := "a28dcb64e6f71396af381eb619fdf4df3db4a3855142280e48a61eceed202c3a", func := "tocsin/tocsinlaw5.PileKnown", spec := "pileKnown", inPlace := ["slices.overlaps[tocsin/pile.Item]"], unfollowed := true, recurses := true, apart := false }
def PileKnownSaid : Prop := pileKnownRow.holds Try.pinned (OpenSpec.ofChange pileKnownSpec)

/-- ITS FALSE NEIGHBOUR: 'it returns false'. Refute it at one input. -/
def pileKnownWrong : ChangeSpec := { name := "pileKnown", fn := fun _ => fun
  | [] => { results := [.lit (.bool false)], args := [] }
  | _ => none }
def PileKnownWrongFalsely : Prop := pileKnownRow.holds Try.pinned (OpenSpec.ofChange pileKnownWrong)

/-- 'tocsinlaw5.PilePlays': WHATEVER THE INPUT: true; the input reads as it did. -/
def pilePlaysSpec : ChangeSpec := { name := "pilePlays", fn := fun _ => fun
  | [d1, d2] => { results := [.lit (.bool true)], args := [d1, d2] }
  | _ => none }
def pilePlaysRow : OpenClaim := { program := "ytgbmpnoknmpmcaa", sum := "a28dcb64e6f71396af381eb619fdf4df3db4a3855142280e48a61eceed202c3a", func := "tocsin/tocsinlaw5.PilePlays", spec := "pilePlays", inPlace := ["slices.overlaps[tocsin/pile.Item]"], unfollowed := true, recurses := true, apart := false }
def PilePlaysSaid : Prop := pilePlaysRow.holds Try.pinned (OpenSpec.ofChange pilePlaysSpec)

/-- ITS FALSE NEIGHBOUR: 'it returns false'. Refute it at one input. -/
def pilePlaysWrong : ChangeSpec := { name := "pilePlays", fn := fun _ => fun
  | [d1, d2] => { results := [.lit (.bool false)], args := [d1, d2] }
  | _ => none }
def PilePlaysWrongFalsely : Prop := pilePlaysRow.holds Try.pinned (OpenSpec.ofChange pilePlaysWrong)

/-- 'tocsinlaw5.PileSorts': WHATEVER THE INPUT: true; the input reads as it did. -/
def pileSortsSpec : ChangeSpec := { name := "pileSorts", fn := fun _ => fun
  | [d] => { results := [.lit (.bool true)], args := [d] }
  | _ => none }
def pileSortsRow : OpenClaim := { program := "ytgbmpnoknmpmcaa", sum := "a28dcb64e6f71396af381eb619fdf4df3db4a3855142280e48a61eceed202c3a", func := "tocsin/tocsinlaw5.PileSorts", spec := "pileSorts", inPlace := ["slices.overlaps[tocsin/pile.Item]"], unfollowed := true, recurses := true, apart := false }
def PileSortsSaid : Prop := pileSortsRow.holds Try.pinned (OpenSpec.ofChange pileSortsSpec)

/-- ITS FALSE NEIGHBOUR: 'it returns false'. Refute it at one input. -/
def pileSortsWrong : ChangeSpec := { name := "pileSorts", fn := fun _ => fun
  | [d] => { results := [.lit (.bool false)], args := [d] }
  | _ => none }
def PileSortsWrongFalsely : Prop := pileSortsRow.holds Try.pinned (OpenSpec.ofChange pileSortsWrong)

/-- 'tocsinlaw5.PileMoves': WHATEVER THE INPUT: true; the input reads as it did. -/
def pileMovesSpec : ChangeSpec := { name := "pileMoves", fn := fun _ => fun
  | [d1, d2, d3] => { results := [.lit (.bool true)], args := [d1, d2, d3] }
  | _ => none }
def pileMovesRow : OpenClaim := { program := "ytgbmpnoknmpmcaa", sum := "a28dcb64e6f71396af381eb619fdf4df3db4a3855142280e48a61eceed202c3a", func := "tocsin/tocsinlaw5.PileMoves", spec := "pileMoves", inPlace := ["slices.overlaps[tocsin/pile.Item]"], unfollowed := true, recurses := true, apart := false }
def PileMovesSaid : Prop := pileMovesRow.holds Try.pinned (OpenSpec.ofChange pileMovesSpec)

/-- ITS FALSE NEIGHBOUR: 'it returns false'. Refute it at one input. -/
def pileMovesWrong : ChangeSpec := { name := "pileMoves", fn := fun _ => fun
  | [d1, d2, d3] => { results := [.lit (.bool false)], args := [d1, d2, d3] }
  | _ => none }
def PileMovesWrongFalsely : Prop := pileMovesRow.holds Try.pinned (OpenSpec.ofChange pileMovesWrong)

/-- 'tocsinlaw5.PileDrops': WHATEVER THE INPUT: true; the input reads as it did. -/
def pileDropsSpec : ChangeSpec := { name := "pileDrops", fn := fun _ => fun
  | [d1, d2] => { results := [.lit (.bool true)], args := [d1, d2] }
  | _ => none }
def pileDropsRow : OpenClaim := { program := "ytgbmpnoknmpmcaa", sum := "a28dcb64e6f71396af381eb619fdf4df3db4a3855142280e48a61eceed202c3a", func := "tocsin/tocsinlaw5.PileDrops", spec := "pileDrops", inPlace := ["slices.overlaps[tocsin/pile.Item]"], unfollowed := true, recurses := true, apart := false }
def PileDropsSaid : Prop := pileDropsRow.holds Try.pinned (OpenSpec.ofChange pileDropsSpec)

/-- ITS FALSE NEIGHBOUR: 'it returns false'. Refute it at one input. -/
def pileDropsWrong : ChangeSpec := { name := "pileDrops", fn := fun _ => fun
  | [d1, d2] => { results := [.lit (.bool false)], args := [d1, d2] }
  | _ => none }
def PileDropsWrongFalsely : Prop := pileDropsRow.holds Try.pinned (OpenSpec.ofChange pileDropsWrong)

/- THE SECOND FORM. 'bulk': how many values and letters a reading holds, each counted each time it is reached (what is shared counts as often as it is met; a slice's spare places count too). A statement '..UptoSaid' is the law's where the arguments, and the package variables that the reading takes, are together of bulk at most 1048576: NARROWER than '..Said'. Prove '..Said' where nothing that the law and all that it calls make is longer than what came in: it says more and counts as full. Else prove '..UptoSaid'. A law counts once. -/
mutual
def uptoBulk {H : Type} : DataW H → Nat
  | .lit (.string bytes) => bytes.length + 1
  | .lit _ => 1
  | .nil => 1
  | .ptr d => uptoBulk d + 1
  | .slice elems spare => uptoBulkAll elems + uptoBulkAll spare + 1
  | .agg parts => uptoBulkAll parts + 1
  | .iface _ d => uptoBulk d + 1
  | .map entries => uptoBulkEntries entries + 1
  | .held _ => 1
def uptoBulkAll {H : Type} : List (DataW H) → Nat
  | [] => 0
  | d :: r => uptoBulk d + uptoBulkAll r
def uptoBulkEntries {H : Type} : List (Lit × DataW H) → Nat
  | [] => 0
  | x :: r => uptoBulkEntry x + uptoBulkEntries r
def uptoBulkEntry {H : Type} : Lit × DataW H → Nat
  | (.string bytes, d) => bytes.length + uptoBulk d + 1
  | (_, d) => uptoBulk d + 1
 end
def uptoSmall : (H : Type) → List (DataW H) → Bool := fun _ ds => decide (uptoBulkAll ds ≤ 1048576)
def OpenSpec.upto (s : _root_.Go.ChangeSpec) : _root_.Go.OpenSpec := { _root_.Go.OpenSpec.ofChange s with cond := some uptoSmall }

/-- 'tocsinlaw5.PileKnown', WHERE WHAT IT READS IS OF BULK AT MOST 1048576: true; the input reads as it did. -/
def pileKnownUptoRow : OpenClaim := { program := "ytgbmpnoknmpmcaa", sum := "a28dcb64e6f71396af381eb619fdf4df3db4a3855142280e48a61eceed202c3a", func := "tocsin/tocsinlaw5.PileKnown", spec := "pileKnown", inPlace := ["slices.overlaps[tocsin/pile.Item]"], unfollowed := true, recurses := true, apart := false, narrowed := true }
def PileKnownUptoSaid : Prop := pileKnownUptoRow.holds Try.pinned (OpenSpec.upto pileKnownSpec)

/-- 'tocsinlaw5.PilePlays', WHERE WHAT IT READS IS OF BULK AT MOST 1048576: true; the input reads as it did. -/
def pilePlaysUptoRow : OpenClaim := { program := "ytgbmpnoknmpmcaa", sum := "a28dcb64e6f71396af381eb619fdf4df3db4a3855142280e48a61eceed202c3a", func := "tocsin/tocsinlaw5.PilePlays", spec := "pilePlays", inPlace := ["slices.overlaps[tocsin/pile.Item]"], unfollowed := true, recurses := true, apart := false, narrowed := true }
def PilePlaysUptoSaid : Prop := pilePlaysUptoRow.holds Try.pinned (OpenSpec.upto pilePlaysSpec)

/-- 'tocsinlaw5.PileSorts', WHERE WHAT IT READS IS OF BULK AT MOST 1048576: true; the input reads as it did. -/
def pileSortsUptoRow : OpenClaim := { program := "ytgbmpnoknmpmcaa", sum := "a28dcb64e6f71396af381eb619fdf4df3db4a3855142280e48a61eceed202c3a", func := "tocsin/tocsinlaw5.PileSorts", spec := "pileSorts", inPlace := ["slices.overlaps[tocsin/pile.Item]"], unfollowed := true, recurses := true, apart := false, narrowed := true }
def PileSortsUptoSaid : Prop := pileSortsUptoRow.holds Try.pinned (OpenSpec.upto pileSortsSpec)

/-- 'tocsinlaw5.PileMoves', WHERE WHAT IT READS IS OF BULK AT MOST 1048576: true; the input reads as it did. -/
def pileMovesUptoRow : OpenClaim := { program := "ytgbmpnoknmpmcaa", sum := "a28dcb64e6f71396af381eb619fdf4df3db4a3855142280e48a61eceed202c3a", func := "tocsin/tocsinlaw5.PileMoves", spec := "pileMoves", inPlace := ["slices.overlaps[tocsin/pile.Item]"], unfollowed := true, recurses := true, apart := false, narrowed := true }
def PileMovesUptoSaid : Prop := pileMovesUptoRow.holds Try.pinned (OpenSpec.upto pileMovesSpec)

/-- 'tocsinlaw5.PileDrops', WHERE WHAT IT READS IS OF BULK AT MOST 1048576: true; the input reads as it did. -/
def pileDropsUptoRow : OpenClaim := { program := "ytgbmpnoknmpmcaa", sum := "a28dcb64e6f71396af381eb619fdf4df3db4a3855142280e48a61eceed202c3a", func := "tocsin/tocsinlaw5.PileDrops", spec := "pileDrops", inPlace := ["slices.overlaps[tocsin/pile.Item]"], unfollowed := true, recurses := true, apart := false, narrowed := true }
def PileDropsUptoSaid : Prop := pileDropsUptoRow.holds Try.pinned (OpenSpec.upto pileDropsSpec)

end Rows
end Go.Proofs.Ytgbmpnoknmpmcaa
