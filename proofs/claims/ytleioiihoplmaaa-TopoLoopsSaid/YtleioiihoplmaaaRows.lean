/-
  No cell of these rows narrows 'for every input' (looked for: loops, veiled, ifaces, maps, wideKeys, modest, calm, conditions, laid).
  DERIVED. THE GIVEN ROWS OF THIS SEAT. 5 by the template 'for every input the law returns true; each argument reads behind the call as it read before'; 0 by the template 'total and deterministic' (their statements: YtleioiihoplmaaaTotals.lean).
  GIVEN WITH THE SEED: the statements are not yours to turn. If you find one false, say at which input.
  Laid BY PROGRAM, IN A SANDBOX (cutbox-rows.mjs): the forced cells as the released guide's own fill.sh prints them over the translation f8fd975bb5a65a10… (all of the seat's roots in one cut). By AI agents, Wed Nov 11 2026. No macro, syntax, notation, axiom, sorry.
-/
import Derived.Test.YtleioiihoplmaaaChecked
import GoSem.Claim
import GoSem.ClaimJoined
import GoSem.ClaimMapViews
import Derived.JoinedTies
import Derived.KernelRfl
namespace Go.Proofs.Ytleioiihoplmaaa
/- THE CELL 'sum', in the pinned program and in every row, IS THE sha256 OF THE DUMP (.gsa) THAT YtleioiihoplmaaaProg.lean LOADS. Nothing in Lean hashes anything: it is a label: what it is worth is what the hold of that sum in a sandbox is worth. -/
noncomputable def Try.pinned : Pinned := { name := "ytleioiihoplmaaa", sum := "f8fd975bb5a65a10e873caa28c2a3b9bea8d5e9f5a9b71572c32a6aa4fe0d63d", checked := Try.checked }
namespace Rows
def none {H : Type} : Left H := { results := [], args := [] }

/-- 'tributarylaw27.TopoChanges': WHATEVER THE INPUT: true; the input reads as it did. -/
def topoChangesSpec : ChangeSpec := { name := "topoChanges", fn := fun _ => fun
  | [d1, d2, d3, d4] => { results := [.lit (.bool true)], args := [d1, d2, d3, d4] }
  | _ => none }
def topoChangesRow : OpenClaim := { program := "ytleioiihoplmaaa", sum := "f8fd975bb5a65a10e873caa28c2a3b9bea8d5e9f5a9b71572c32a6aa4fe0d63d", func := "tributary/tributarylaw27.TopoChanges", spec := "topoChanges", unfollowed := true, recurses := true, apart := false }
def TopoChangesSaid : Prop := topoChangesRow.holds Try.pinned (OpenSpec.ofChange topoChangesSpec)

/-- ITS FALSE NEIGHBOUR: 'it returns false'. Refute it at one input. -/
def topoChangesWrong : ChangeSpec := { name := "topoChanges", fn := fun _ => fun
  | [d1, d2, d3, d4] => { results := [.lit (.bool false)], args := [d1, d2, d3, d4] }
  | _ => none }
def TopoChangesWrongFalsely : Prop := topoChangesRow.holds Try.pinned (OpenSpec.ofChange topoChangesWrong)

/-- 'tributarylaw27.TopoTells': WHATEVER THE INPUT: true; the input reads as it did. -/
def topoTellsSpec : ChangeSpec := { name := "topoTells", fn := fun _ => fun
  | [d1, d2] => { results := [.lit (.bool true)], args := [d1, d2] }
  | _ => none }
def topoTellsRow : OpenClaim := { program := "ytleioiihoplmaaa", sum := "f8fd975bb5a65a10e873caa28c2a3b9bea8d5e9f5a9b71572c32a6aa4fe0d63d", func := "tributary/tributarylaw27.TopoTells", spec := "topoTells", unfollowed := true, recurses := true, apart := false }
def TopoTellsSaid : Prop := topoTellsRow.holds Try.pinned (OpenSpec.ofChange topoTellsSpec)

/-- ITS FALSE NEIGHBOUR: 'it returns false'. Refute it at one input. -/
def topoTellsWrong : ChangeSpec := { name := "topoTells", fn := fun _ => fun
  | [d1, d2] => { results := [.lit (.bool false)], args := [d1, d2] }
  | _ => none }
def TopoTellsWrongFalsely : Prop := topoTellsRow.holds Try.pinned (OpenSpec.ofChange topoTellsWrong)

/-- 'tributarylaw27.TopoKnown': WHATEVER THE INPUT: true; the input reads as it did. -/
def topoKnownSpec : ChangeSpec := { name := "topoKnown", fn := fun _ => fun
  | [] => { results := [.lit (.bool true)], args := [] }
  | _ => none }
def topoKnownRow : OpenClaim := { program := "ytleioiihoplmaaa", sum := "f8fd975bb5a65a10e873caa28c2a3b9bea8d5e9f5a9b71572c32a6aa4fe0d63d", func := "tributary/tributarylaw27.TopoKnown", spec := "topoKnown", unfollowed := true, recurses := true, apart := false }
def TopoKnownSaid : Prop := topoKnownRow.holds Try.pinned (OpenSpec.ofChange topoKnownSpec)

/-- ITS FALSE NEIGHBOUR: 'it returns false'. Refute it at one input. -/
def topoKnownWrong : ChangeSpec := { name := "topoKnown", fn := fun _ => fun
  | [] => { results := [.lit (.bool false)], args := [] }
  | _ => none }
def TopoKnownWrongFalsely : Prop := topoKnownRow.holds Try.pinned (OpenSpec.ofChange topoKnownWrong)

/-- 'tributarylaw27.TopoStays': WHATEVER THE INPUT: true; the input reads as it did. -/
def topoStaysSpec : ChangeSpec := { name := "topoStays", fn := fun _ => fun
  | [d] => { results := [.lit (.bool true)], args := [d] }
  | _ => none }
def topoStaysRow : OpenClaim := { program := "ytleioiihoplmaaa", sum := "f8fd975bb5a65a10e873caa28c2a3b9bea8d5e9f5a9b71572c32a6aa4fe0d63d", func := "tributary/tributarylaw27.TopoStays", spec := "topoStays", unfollowed := true, recurses := true, apart := false }
def TopoStaysSaid : Prop := topoStaysRow.holds Try.pinned (OpenSpec.ofChange topoStaysSpec)

/-- ITS FALSE NEIGHBOUR: 'it returns false'. Refute it at one input. -/
def topoStaysWrong : ChangeSpec := { name := "topoStays", fn := fun _ => fun
  | [d] => { results := [.lit (.bool false)], args := [d] }
  | _ => none }
def TopoStaysWrongFalsely : Prop := topoStaysRow.holds Try.pinned (OpenSpec.ofChange topoStaysWrong)

/-- 'tributarylaw27.TopoLoops': WHATEVER THE INPUT: true; the input reads as it did. -/
def topoLoopsSpec : ChangeSpec := { name := "topoLoops", fn := fun _ => fun
  | [d1, d2, d3] => { results := [.lit (.bool true)], args := [d1, d2, d3] }
  | _ => none }
def topoLoopsRow : OpenClaim := { program := "ytleioiihoplmaaa", sum := "f8fd975bb5a65a10e873caa28c2a3b9bea8d5e9f5a9b71572c32a6aa4fe0d63d", func := "tributary/tributarylaw27.TopoLoops", spec := "topoLoops", unfollowed := true, recurses := true, apart := false }
def TopoLoopsSaid : Prop := topoLoopsRow.holds Try.pinned (OpenSpec.ofChange topoLoopsSpec)

/-- ITS FALSE NEIGHBOUR: 'it returns false'. Refute it at one input. -/
def topoLoopsWrong : ChangeSpec := { name := "topoLoops", fn := fun _ => fun
  | [d1, d2, d3] => { results := [.lit (.bool false)], args := [d1, d2, d3] }
  | _ => none }
def TopoLoopsWrongFalsely : Prop := topoLoopsRow.holds Try.pinned (OpenSpec.ofChange topoLoopsWrong)

/- THE SECOND FORM. 'bulk': how many values and letters a reading holds, each counted each time it is reached (what is shared counts as often as it is met; a slice's spare places count too). A statement '..UptoSaid' is the law's where the arguments, and the package variables that the reading takes, are together of bulk at most 1048576: NARROWER than '..Said'. Prove '..Said' where nothing that the law and all that it calls make is longer than what came in: it says more and counts as full. Else prove '..UptoSaid'. A law counts once. -/
mutual
def uptoBulk {H : Type} : DataW H → Nat
  | .lit (.string bytes) => bytes.length + 1
  | .lit _ => 1
  | .nil => 1
  | .ptr d => uptoBulk d + 1
  | .slice elems spare => uptoBulkAll elems + uptoBulkAll spare + 1
  | .agg parts => uptoBulkAll parts + 1
  | .iface _ d => uptoBulk d + 1
  | .map entries => uptoBulkEntries entries + 1
  | .held _ => 1
def uptoBulkAll {H : Type} : List (DataW H) → Nat
  | [] => 0
  | d :: r => uptoBulk d + uptoBulkAll r
def uptoBulkEntries {H : Type} : List (Lit × DataW H) → Nat
  | [] => 0
  | x :: r => uptoBulkEntry x + uptoBulkEntries r
def uptoBulkEntry {H : Type} : Lit × DataW H → Nat
  | (.string bytes, d) => bytes.length + uptoBulk d + 1
  | (_, d) => uptoBulk d + 1
 end
def uptoSmall : (H : Type) → List (DataW H) → Bool := fun _ ds => decide (uptoBulkAll ds ≤ 1048576)
def OpenSpec.upto (s : _root_.Go.ChangeSpec) : _root_.Go.OpenSpec := { _root_.Go.OpenSpec.ofChange s with cond := some uptoSmall }

/-- 'tributarylaw27.TopoChanges', WHERE WHAT IT READS IS OF BULK AT MOST 1048576: true; the input reads as it did. -/
def topoChangesUptoRow : OpenClaim := { program := "ytleioiihoplmaaa", sum := "f8fd975bb5a65a10e873caa28c2a3b9bea8d5e9f5a9b71572c32a6aa4fe0d63d", func := "tributary/tributarylaw27.TopoChanges", spec := "topoChanges", unfollowed := true, recurses := true, apart := false, narrowed := true }
def TopoChangesUptoSaid : Prop := topoChangesUptoRow.holds Try.pinned (OpenSpec.upto topoChangesSpec)

/-- 'tributarylaw27.TopoTells', WHERE WHAT IT READS IS OF BULK AT MOST 1048576: true; the input reads as it did. -/
def topoTellsUptoRow : OpenClaim := { program := "ytleioiihoplmaaa", sum := "f8fd975bb5a65a10e873caa28c2a3b9bea8d5e9f5a9b71572c32a6aa4fe0d63d", func := "tributary/tributarylaw27.TopoTells", spec := "topoTells", unfollowed := true, recurses := true, apart := false, narrowed := true }
def TopoTellsUptoSaid : Prop := topoTellsUptoRow.holds Try.pinned (OpenSpec.upto topoTellsSpec)

/-- 'tributarylaw27.TopoKnown', WHERE WHAT IT READS IS OF BULK AT MOST 1048576: true; the input reads as it did. -/
def topoKnownUptoRow : OpenClaim := { program := "ytleioiihoplmaaa", sum := "f8fd975bb5a65a10e873caa28c2a3b9bea8d5e9f5a9b71572c32a6aa4fe0d63d", func := "tributary/tributarylaw27.TopoKnown", spec := "topoKnown", unfollowed := true, recurses := true, apart := false, narrowed := true }
def TopoKnownUptoSaid : Prop := topoKnownUptoRow.holds Try.pinned (OpenSpec.upto topoKnownSpec)

/-- 'tributarylaw27.TopoStays', WHERE WHAT IT READS IS OF BULK AT MOST 1048576: true; the input reads as it did. -/
def topoStaysUptoRow : OpenClaim := { program := "ytleioiihoplmaaa", sum := "f8fd975bb5a65a10e873caa28c2a3b9bea8d5e9f5a9b71572c32a6aa4fe0d63d", func := "tributary/tributarylaw27.TopoStays", spec := "topoStays", unfollowed := true, recurses := true, apart := false, narrowed := true }
def TopoStaysUptoSaid : Prop := topoStaysUptoRow.holds Try.pinned (OpenSpec.upto topoStaysSpec)

/-- 'tributarylaw27.TopoLoops', WHERE WHAT IT READS IS OF BULK AT MOST 1048576: true; the input reads as it did. -/
def topoLoopsUptoRow : OpenClaim := { program := "ytleioiihoplmaaa", sum := "f8fd975bb5a65a10e873caa28c2a3b9bea8d5e9f5a9b71572c32a6aa4fe0d63d", func := "tributary/tributarylaw27.TopoLoops", spec := "topoLoops", unfollowed := true, recurses := true, apart := false, narrowed := true }
def TopoLoopsUptoSaid : Prop := topoLoopsUptoRow.holds Try.pinned (OpenSpec.upto topoLoopsSpec)

end Rows
end Go.Proofs.Ytleioiihoplmaaa
