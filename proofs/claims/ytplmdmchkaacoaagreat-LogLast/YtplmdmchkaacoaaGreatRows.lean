/-
  No cell of these rows narrows 'for every input' (looked for: loops, veiled, ifaces, maps, wideKeys, modest, calm, conditions, laid).
  DERIVED. THE GIVEN ROWS OF THIS SEAT. 8 by the template 'for every input the law returns true; each argument reads behind the call as it read before'; 0 by the template 'total and deterministic' (their statements: YtplmdmchkaacoaaGreatTotals.lean).
  GIVEN WITH THE SEED: the statements are not yours to turn. If you find one false, say at which input.
  Laid BY PROGRAM, IN A SANDBOX (cutbox-rows.mjs): the forced cells as the released guide's own fill.sh prints them over the translation 8e6543772e532e7d… (all of the seat's roots in one cut). By AI agents, Wed Nov 11 2026. No macro, syntax, notation, axiom, sorry.
-/
import Derived.Test.YtplmdmchkaacoaaGreatChecked
import GoSem.Claim
import GoSem.ClaimJoined
import GoSem.ClaimMapViews
import Derived.JoinedTies
import Derived.KernelRfl
namespace Go.Proofs.YtplmdmchkaacoaaGreat
/- THE CELL 'sum', in the pinned program and in every row, IS THE sha256 OF THE DUMP (.gsa) THAT YtplmdmchkaacoaaGreatProg.lean LOADS. Nothing in Lean hashes anything: it is a label: what it is worth is what the hold of that sum in a sandbox is worth. -/
noncomputable def Tryz.pinned : Pinned := { name := "ytplmdmchkaacoaagreat", sum := "8e6543772e532e7d61416a8b4f5ef7d826ff34842590e8fc4b527e2c5e2ab84b", checked := Tryz.checked }
namespace Rows
def none {H : Type} : Left H := { results := [], args := [] }

/-- 'drystonelaw15.LogPlays': WHATEVER THE INPUT: true; the input reads as it did. -/
def logPlaysSpec : ChangeSpec := { name := "logPlays", fn := fun _ => fun
  | [d1, d2] => { results := [.lit (.bool true)], args := [d1, d2] }
  | _ => none }
def logPlaysRow : OpenClaim := { program := "ytplmdmchkaacoaagreat", sum := "8e6543772e532e7d61416a8b4f5ef7d826ff34842590e8fc4b527e2c5e2ab84b", func := "drystone/drystonelaw15.LogPlays", spec := "logPlays", unfollowed := true, recurses := true, apart := false }
def LogPlaysSaid : Prop := logPlaysRow.holds Tryz.pinned (OpenSpec.ofChange logPlaysSpec)

/-- ITS FALSE NEIGHBOUR: 'it returns false'. Refute it at one input. -/
def logPlaysWrong : ChangeSpec := { name := "logPlays", fn := fun _ => fun
  | [d1, d2] => { results := [.lit (.bool false)], args := [d1, d2] }
  | _ => none }
def LogPlaysWrongFalsely : Prop := logPlaysRow.holds Tryz.pinned (OpenSpec.ofChange logPlaysWrong)

/-- 'drystonelaw15.LogNotes': WHATEVER THE INPUT: true; the input reads as it did. -/
def logNotesSpec : ChangeSpec := { name := "logNotes", fn := fun _ => fun
  | [d1, d2] => { results := [.lit (.bool true)], args := [d1, d2] }
  | _ => none }
def logNotesRow : OpenClaim := { program := "ytplmdmchkaacoaagreat", sum := "8e6543772e532e7d61416a8b4f5ef7d826ff34842590e8fc4b527e2c5e2ab84b", func := "drystone/drystonelaw15.LogNotes", spec := "logNotes", unfollowed := true, recurses := true, apart := false }
def LogNotesSaid : Prop := logNotesRow.holds Tryz.pinned (OpenSpec.ofChange logNotesSpec)

/-- ITS FALSE NEIGHBOUR: 'it returns false'. Refute it at one input. -/
def logNotesWrong : ChangeSpec := { name := "logNotes", fn := fun _ => fun
  | [d1, d2] => { results := [.lit (.bool false)], args := [d1, d2] }
  | _ => none }
def LogNotesWrongFalsely : Prop := logNotesRow.holds Tryz.pinned (OpenSpec.ofChange logNotesWrong)

/-- 'drystonelaw15.LogDrains': WHATEVER THE INPUT: true; the input reads as it did. -/
def logDrainsSpec : ChangeSpec := { name := "logDrains", fn := fun _ => fun
  | [d1, d2] => { results := [.lit (.bool true)], args := [d1, d2] }
  | _ => none }
def logDrainsRow : OpenClaim := { program := "ytplmdmchkaacoaagreat", sum := "8e6543772e532e7d61416a8b4f5ef7d826ff34842590e8fc4b527e2c5e2ab84b", func := "drystone/drystonelaw15.LogDrains", spec := "logDrains", unfollowed := true, recurses := true, apart := false }
def LogDrainsSaid : Prop := logDrainsRow.holds Tryz.pinned (OpenSpec.ofChange logDrainsSpec)

/-- ITS FALSE NEIGHBOUR: 'it returns false'. Refute it at one input. -/
def logDrainsWrong : ChangeSpec := { name := "logDrains", fn := fun _ => fun
  | [d1, d2] => { results := [.lit (.bool false)], args := [d1, d2] }
  | _ => none }
def LogDrainsWrongFalsely : Prop := logDrainsRow.holds Tryz.pinned (OpenSpec.ofChange logDrainsWrong)

/-- 'drystonelaw15.LogApplies': WHATEVER THE INPUT: true; the input reads as it did. -/
def logAppliesSpec : ChangeSpec := { name := "logApplies", fn := fun _ => fun
  | [d1, d2, d3, d4, d5] => { results := [.lit (.bool true)], args := [d1, d2, d3, d4, d5] }
  | _ => none }
def logAppliesRow : OpenClaim := { program := "ytplmdmchkaacoaagreat", sum := "8e6543772e532e7d61416a8b4f5ef7d826ff34842590e8fc4b527e2c5e2ab84b", func := "drystone/drystonelaw15.LogApplies", spec := "logApplies", unfollowed := true, recurses := true, apart := false }
def LogAppliesSaid : Prop := logAppliesRow.holds Tryz.pinned (OpenSpec.ofChange logAppliesSpec)

/-- ITS FALSE NEIGHBOUR: 'it returns false'. Refute it at one input. -/
def logAppliesWrong : ChangeSpec := { name := "logApplies", fn := fun _ => fun
  | [d1, d2, d3, d4, d5] => { results := [.lit (.bool false)], args := [d1, d2, d3, d4, d5] }
  | _ => none }
def LogAppliesWrongFalsely : Prop := logAppliesRow.holds Tryz.pinned (OpenSpec.ofChange logAppliesWrong)

/-- 'drystonelaw15.LogReads': WHATEVER THE INPUT: true; the input reads as it did. -/
def logReadsSpec : ChangeSpec := { name := "logReads", fn := fun _ => fun
  | [d1, d2, d3] => { results := [.lit (.bool true)], args := [d1, d2, d3] }
  | _ => none }
def logReadsRow : OpenClaim := { program := "ytplmdmchkaacoaagreat", sum := "8e6543772e532e7d61416a8b4f5ef7d826ff34842590e8fc4b527e2c5e2ab84b", func := "drystone/drystonelaw15.LogReads", spec := "logReads", unfollowed := true, recurses := true, apart := false }
def LogReadsSaid : Prop := logReadsRow.holds Tryz.pinned (OpenSpec.ofChange logReadsSpec)

/-- ITS FALSE NEIGHBOUR: 'it returns false'. Refute it at one input. -/
def logReadsWrong : ChangeSpec := { name := "logReads", fn := fun _ => fun
  | [d1, d2, d3] => { results := [.lit (.bool false)], args := [d1, d2, d3] }
  | _ => none }
def LogReadsWrongFalsely : Prop := logReadsRow.holds Tryz.pinned (OpenSpec.ofChange logReadsWrong)

/-- 'drystonelaw15.LogSpace': WHATEVER THE INPUT: true; the input reads as it did. -/
def logSpaceSpec : ChangeSpec := { name := "logSpace", fn := fun _ => fun
  | [d1, d2] => { results := [.lit (.bool true)], args := [d1, d2] }
  | _ => none }
def logSpaceRow : OpenClaim := { program := "ytplmdmchkaacoaagreat", sum := "8e6543772e532e7d61416a8b4f5ef7d826ff34842590e8fc4b527e2c5e2ab84b", func := "drystone/drystonelaw15.LogSpace", spec := "logSpace", unfollowed := true, recurses := true, apart := false }
def LogSpaceSaid : Prop := logSpaceRow.holds Tryz.pinned (OpenSpec.ofChange logSpaceSpec)

/-- ITS FALSE NEIGHBOUR: 'it returns false'. Refute it at one input. -/
def logSpaceWrong : ChangeSpec := { name := "logSpace", fn := fun _ => fun
  | [d1, d2] => { results := [.lit (.bool false)], args := [d1, d2] }
  | _ => none }
def LogSpaceWrongFalsely : Prop := logSpaceRow.holds Tryz.pinned (OpenSpec.ofChange logSpaceWrong)

/-- 'drystonelaw15.LogLast': WHATEVER THE INPUT: true; the input reads as it did. -/
def logLastSpec : ChangeSpec := { name := "logLast", fn := fun _ => fun
  | [d1, d2] => { results := [.lit (.bool true)], args := [d1, d2] }
  | _ => none }
def logLastRow : OpenClaim := { program := "ytplmdmchkaacoaagreat", sum := "8e6543772e532e7d61416a8b4f5ef7d826ff34842590e8fc4b527e2c5e2ab84b", func := "drystone/drystonelaw15.LogLast", spec := "logLast", unfollowed := true, recurses := true, apart := false }
def LogLastSaid : Prop := logLastRow.holds Tryz.pinned (OpenSpec.ofChange logLastSpec)

/-- ITS FALSE NEIGHBOUR: 'it returns false'. Refute it at one input. -/
def logLastWrong : ChangeSpec := { name := "logLast", fn := fun _ => fun
  | [d1, d2] => { results := [.lit (.bool false)], args := [d1, d2] }
  | _ => none }
def LogLastWrongFalsely : Prop := logLastRow.holds Tryz.pinned (OpenSpec.ofChange logLastWrong)

/-- 'drystonelaw15.LogCut': WHATEVER THE INPUT: true; the input reads as it did. -/
def logCutSpec : ChangeSpec := { name := "logCut", fn := fun _ => fun
  | [d1, d2, d3] => { results := [.lit (.bool true)], args := [d1, d2, d3] }
  | _ => none }
def logCutRow : OpenClaim := { program := "ytplmdmchkaacoaagreat", sum := "8e6543772e532e7d61416a8b4f5ef7d826ff34842590e8fc4b527e2c5e2ab84b", func := "drystone/drystonelaw15.LogCut", spec := "logCut", unfollowed := true, recurses := true, apart := false }
def LogCutSaid : Prop := logCutRow.holds Tryz.pinned (OpenSpec.ofChange logCutSpec)

/-- ITS FALSE NEIGHBOUR: 'it returns false'. Refute it at one input. -/
def logCutWrong : ChangeSpec := { name := "logCut", fn := fun _ => fun
  | [d1, d2, d3] => { results := [.lit (.bool false)], args := [d1, d2, d3] }
  | _ => none }
def LogCutWrongFalsely : Prop := logCutRow.holds Tryz.pinned (OpenSpec.ofChange logCutWrong)

/- THE SECOND FORM. 'bulk': how many values and letters a reading holds, each counted each time it is reached (what is shared counts as often as it is met; a slice's spare places count too). A statement '..UptoSaid' is the law's where the arguments, and the package variables that the reading takes, are together of bulk at most 1048576: NARROWER than '..Said'. Prove '..Said' where nothing that the law and all that it calls make is longer than what came in: it says more and counts as full. Else prove '..UptoSaid'. A law counts once. -/
mutual
def uptoBulk {H : Type} : DataW H → Nat
  | .lit (.string bytes) => bytes.length + 1
  | .lit _ => 1
  | .nil => 1
  | .ptr d => uptoBulk d + 1
  | .slice elems spare => uptoBulkAll elems + uptoBulkAll spare + 1
  | .agg parts => uptoBulkAll parts + 1
  | .iface _ d => uptoBulk d + 1
  | .map entries => uptoBulkEntries entries + 1
  | .held _ => 1
def uptoBulkAll {H : Type} : List (DataW H) → Nat
  | [] => 0
  | d :: r => uptoBulk d + uptoBulkAll r
def uptoBulkEntries {H : Type} : List (Lit × DataW H) → Nat
  | [] => 0
  | x :: r => uptoBulkEntry x + uptoBulkEntries r
def uptoBulkEntry {H : Type} : Lit × DataW H → Nat
  | (.string bytes, d) => bytes.length + uptoBulk d + 1
  | (_, d) => uptoBulk d + 1
 end
def uptoSmall : (H : Type) → List (DataW H) → Bool := fun _ ds => decide (uptoBulkAll ds ≤ 1048576)
def OpenSpec.upto (s : _root_.Go.ChangeSpec) : _root_.Go.OpenSpec := { _root_.Go.OpenSpec.ofChange s with cond := some uptoSmall }

/-- 'drystonelaw15.LogPlays', WHERE WHAT IT READS IS OF BULK AT MOST 1048576: true; the input reads as it did. -/
def logPlaysUptoRow : OpenClaim := { program := "ytplmdmchkaacoaagreat", sum := "8e6543772e532e7d61416a8b4f5ef7d826ff34842590e8fc4b527e2c5e2ab84b", func := "drystone/drystonelaw15.LogPlays", spec := "logPlays", unfollowed := true, recurses := true, apart := false, narrowed := true }
def LogPlaysUptoSaid : Prop := logPlaysUptoRow.holds Tryz.pinned (OpenSpec.upto logPlaysSpec)

/-- 'drystonelaw15.LogNotes', WHERE WHAT IT READS IS OF BULK AT MOST 1048576: true; the input reads as it did. -/
def logNotesUptoRow : OpenClaim := { program := "ytplmdmchkaacoaagreat", sum := "8e6543772e532e7d61416a8b4f5ef7d826ff34842590e8fc4b527e2c5e2ab84b", func := "drystone/drystonelaw15.LogNotes", spec := "logNotes", unfollowed := true, recurses := true, apart := false, narrowed := true }
def LogNotesUptoSaid : Prop := logNotesUptoRow.holds Tryz.pinned (OpenSpec.upto logNotesSpec)

/-- 'drystonelaw15.LogDrains', WHERE WHAT IT READS IS OF BULK AT MOST 1048576: true; the input reads as it did. -/
def logDrainsUptoRow : OpenClaim := { program := "ytplmdmchkaacoaagreat", sum := "8e6543772e532e7d61416a8b4f5ef7d826ff34842590e8fc4b527e2c5e2ab84b", func := "drystone/drystonelaw15.LogDrains", spec := "logDrains", unfollowed := true, recurses := true, apart := false, narrowed := true }
def LogDrainsUptoSaid : Prop := logDrainsUptoRow.holds Tryz.pinned (OpenSpec.upto logDrainsSpec)

/-- 'drystonelaw15.LogApplies', WHERE WHAT IT READS IS OF BULK AT MOST 1048576: true; the input reads as it did. -/
def logAppliesUptoRow : OpenClaim := { program := "ytplmdmchkaacoaagreat", sum := "8e6543772e532e7d61416a8b4f5ef7d826ff34842590e8fc4b527e2c5e2ab84b", func := "drystone/drystonelaw15.LogApplies", spec := "logApplies", unfollowed := true, recurses := true, apart := false, narrowed := true }
def LogAppliesUptoSaid : Prop := logAppliesUptoRow.holds Tryz.pinned (OpenSpec.upto logAppliesSpec)

/-- 'drystonelaw15.LogReads', WHERE WHAT IT READS IS OF BULK AT MOST 1048576: true; the input reads as it did. -/
def logReadsUptoRow : OpenClaim := { program := "ytplmdmchkaacoaagreat", sum := "8e6543772e532e7d61416a8b4f5ef7d826ff34842590e8fc4b527e2c5e2ab84b", func := "drystone/drystonelaw15.LogReads", spec := "logReads", unfollowed := true, recurses := true, apart := false, narrowed := true }
def LogReadsUptoSaid : Prop := logReadsUptoRow.holds Tryz.pinned (OpenSpec.upto logReadsSpec)

/-- 'drystonelaw15.LogSpace', WHERE WHAT IT READS IS OF BULK AT MOST 1048576: true; the input reads as it did. -/
def logSpaceUptoRow : OpenClaim := { program := "ytplmdmchkaacoaagreat", sum := "8e6543772e532e7d61416a8b4f5ef7d826ff34842590e8fc4b527e2c5e2ab84b", func := "drystone/drystonelaw15.LogSpace", spec := "logSpace", unfollowed := true, recurses := true, apart := false, narrowed := true }
def LogSpaceUptoSaid : Prop := logSpaceUptoRow.holds Tryz.pinned (OpenSpec.upto logSpaceSpec)

/-- 'drystonelaw15.LogLast', WHERE WHAT IT READS IS OF BULK AT MOST 1048576: true; the input reads as it did. -/
def logLastUptoRow : OpenClaim := { program := "ytplmdmchkaacoaagreat", sum := "8e6543772e532e7d61416a8b4f5ef7d826ff34842590e8fc4b527e2c5e2ab84b", func := "drystone/drystonelaw15.LogLast", spec := "logLast", unfollowed := true, recurses := true, apart := false, narrowed := true }
def LogLastUptoSaid : Prop := logLastUptoRow.holds Tryz.pinned (OpenSpec.upto logLastSpec)

/-- 'drystonelaw15.LogCut', WHERE WHAT IT READS IS OF BULK AT MOST 1048576: true; the input reads as it did. -/
def logCutUptoRow : OpenClaim := { program := "ytplmdmchkaacoaagreat", sum := "8e6543772e532e7d61416a8b4f5ef7d826ff34842590e8fc4b527e2c5e2ab84b", func := "drystone/drystonelaw15.LogCut", spec := "logCut", unfollowed := true, recurses := true, apart := false, narrowed := true }
def LogCutUptoSaid : Prop := logCutUptoRow.holds Tryz.pinned (OpenSpec.upto logCutSpec)

end Rows
end Go.Proofs.YtplmdmchkaacoaaGreat
