/-
  No cell of these rows narrows 'for every input' (looked for: loops, veiled, ifaces, maps, wideKeys, modest, calm, conditions, laid).
  DERIVED. THE GIVEN ROWS OF THIS SEAT. 5 by the template 'for every input the law returns true; each argument reads behind the call as it read before'; 0 by the template 'total and deterministic' (their statements: YtbihcoidbfoaoaaTotals.lean).
  GIVEN WITH THE SEED: the statements are not yours to turn. If you find one false, say at which input.
  Laid BY PROGRAM, IN A SANDBOX (cutbox-rows.mjs): the forced cells as the released guide's own fill.sh prints them over the translation ca255f8124353cf5… (all of the seat's roots in one cut). By AI agents, Wed Nov 11 2026. No macro, syntax, notation, axiom, sorry.
-/
import Derived.Test.YtbihcoidbfoaoaaChecked
import GoSem.Claim
import GoSem.ClaimJoined
import GoSem.ClaimMapViews
import Derived.JoinedTies
import Derived.KernelRfl
namespace Go.Proofs.Ytbihcoidbfoaoaa
/- THE CELL 'sum', in the pinned program and in every row, IS THE sha256 OF THE DUMP (.gsa) THAT YtbihcoidbfoaoaaProg.lean LOADS. Nothing in Lean hashes anything: it is a label: what it is worth is what the hold of that sum in a sandbox is worth. -/
noncomputable def Try.pinned : Pinned := { name := "ytbihcoidbfoaoaa", sum := "ca255f8124353cf5b47b3a8fd0ec1d18c7053ac2da448c9117cddc1f399a5126", checked := Try.checked }
namespace Rows
def none {H : Type} : Left H := { results := [], args := [] }

/-- 'tributarylaw04.EffectTells': WHATEVER THE INPUT: true; the input reads as it did. -/
def effectTellsSpec : ChangeSpec := { name := "effectTells", fn := fun _ => fun
  | [d1, d2] => { results := [.lit (.bool true)], args := [d1, d2] }
  | _ => none }
def effectTellsRow : OpenClaim := { program := "ytbihcoidbfoaoaa", sum := "ca255f8124353cf5b47b3a8fd0ec1d18c7053ac2da448c9117cddc1f399a5126", func := "tributary/tributarylaw04.EffectTells", spec := "effectTells", inPlace := ["internal/bytealg.Compare"], unfollowed := true, recurses := true, apart := false }
def EffectTellsSaid : Prop := effectTellsRow.holds Try.pinned (OpenSpec.ofChange effectTellsSpec)

/-- ITS FALSE NEIGHBOUR: 'it returns false'. Refute it at one input. -/
def effectTellsWrong : ChangeSpec := { name := "effectTells", fn := fun _ => fun
  | [d1, d2] => { results := [.lit (.bool false)], args := [d1, d2] }
  | _ => none }
def EffectTellsWrongFalsely : Prop := effectTellsRow.holds Try.pinned (OpenSpec.ofChange effectTellsWrong)

/-- 'tributarylaw04.EffectReads': WHATEVER THE INPUT: true; the input reads as it did. -/
def effectReadsSpec : ChangeSpec := { name := "effectReads", fn := fun _ => fun
  | [d] => { results := [.lit (.bool true)], args := [d] }
  | _ => none }
def effectReadsRow : OpenClaim := { program := "ytbihcoidbfoaoaa", sum := "ca255f8124353cf5b47b3a8fd0ec1d18c7053ac2da448c9117cddc1f399a5126", func := "tributary/tributarylaw04.EffectReads", spec := "effectReads", inPlace := ["internal/bytealg.Compare"], unfollowed := true, recurses := true, apart := false }
def EffectReadsSaid : Prop := effectReadsRow.holds Try.pinned (OpenSpec.ofChange effectReadsSpec)

/-- ITS FALSE NEIGHBOUR: 'it returns false'. Refute it at one input. -/
def effectReadsWrong : ChangeSpec := { name := "effectReads", fn := fun _ => fun
  | [d] => { results := [.lit (.bool false)], args := [d] }
  | _ => none }
def EffectReadsWrongFalsely : Prop := effectReadsRow.holds Try.pinned (OpenSpec.ofChange effectReadsWrong)

/-- 'tributarylaw04.EffectKnown': WHATEVER THE INPUT: true; the input reads as it did. -/
def effectKnownSpec : ChangeSpec := { name := "effectKnown", fn := fun _ => fun
  | [] => { results := [.lit (.bool true)], args := [] }
  | _ => none }
def effectKnownRow : OpenClaim := { program := "ytbihcoidbfoaoaa", sum := "ca255f8124353cf5b47b3a8fd0ec1d18c7053ac2da448c9117cddc1f399a5126", func := "tributary/tributarylaw04.EffectKnown", spec := "effectKnown", inPlace := ["internal/bytealg.Compare"], unfollowed := true, recurses := true, apart := false }
def EffectKnownSaid : Prop := effectKnownRow.holds Try.pinned (OpenSpec.ofChange effectKnownSpec)

/-- ITS FALSE NEIGHBOUR: 'it returns false'. Refute it at one input. -/
def effectKnownWrong : ChangeSpec := { name := "effectKnown", fn := fun _ => fun
  | [] => { results := [.lit (.bool false)], args := [] }
  | _ => none }
def EffectKnownWrongFalsely : Prop := effectKnownRow.holds Try.pinned (OpenSpec.ofChange effectKnownWrong)

/-- 'tributarylaw04.EffectBack': WHATEVER THE INPUT: true; the input reads as it did. -/
def effectBackSpec : ChangeSpec := { name := "effectBack", fn := fun _ => fun
  | [d1, d2] => { results := [.lit (.bool true)], args := [d1, d2] }
  | _ => none }
def effectBackRow : OpenClaim := { program := "ytbihcoidbfoaoaa", sum := "ca255f8124353cf5b47b3a8fd0ec1d18c7053ac2da448c9117cddc1f399a5126", func := "tributary/tributarylaw04.EffectBack", spec := "effectBack", inPlace := ["internal/bytealg.Compare"], unfollowed := true, recurses := true, apart := false }
def EffectBackSaid : Prop := effectBackRow.holds Try.pinned (OpenSpec.ofChange effectBackSpec)

/-- ITS FALSE NEIGHBOUR: 'it returns false'. Refute it at one input. -/
def effectBackWrong : ChangeSpec := { name := "effectBack", fn := fun _ => fun
  | [d1, d2] => { results := [.lit (.bool false)], args := [d1, d2] }
  | _ => none }
def EffectBackWrongFalsely : Prop := effectBackRow.holds Try.pinned (OpenSpec.ofChange effectBackWrong)

/-- 'tributarylaw04.EffectOrder': WHATEVER THE INPUT: true; the input reads as it did. -/
def effectOrderSpec : ChangeSpec := { name := "effectOrder", fn := fun _ => fun
  | [d1, d2, d3] => { results := [.lit (.bool true)], args := [d1, d2, d3] }
  | _ => none }
def effectOrderRow : OpenClaim := { program := "ytbihcoidbfoaoaa", sum := "ca255f8124353cf5b47b3a8fd0ec1d18c7053ac2da448c9117cddc1f399a5126", func := "tributary/tributarylaw04.EffectOrder", spec := "effectOrder", inPlace := ["internal/bytealg.Compare"], unfollowed := true, recurses := true, apart := false }
def EffectOrderSaid : Prop := effectOrderRow.holds Try.pinned (OpenSpec.ofChange effectOrderSpec)

/-- ITS FALSE NEIGHBOUR: 'it returns false'. Refute it at one input. -/
def effectOrderWrong : ChangeSpec := { name := "effectOrder", fn := fun _ => fun
  | [d1, d2, d3] => { results := [.lit (.bool false)], args := [d1, d2, d3] }
  | _ => none }
def EffectOrderWrongFalsely : Prop := effectOrderRow.holds Try.pinned (OpenSpec.ofChange effectOrderWrong)

/- THE SECOND FORM. 'bulk': how many values and letters a reading holds, each counted each time it is reached (what is shared counts as often as it is met; a slice's spare places count too). A statement '..UptoSaid' is the law's where the arguments, and the package variables that the reading takes, are together of bulk at most 1048576: NARROWER than '..Said'. Prove '..Said' where nothing that the law and all that it calls make is longer than what came in: it says more and counts as full. Else prove '..UptoSaid'. A law counts once. -/
mutual
def uptoBulk {H : Type} : DataW H → Nat
  | .lit (.string bytes) => bytes.length + 1
  | .lit _ => 1
  | .nil => 1
  | .ptr d => uptoBulk d + 1
  | .slice elems spare => uptoBulkAll elems + uptoBulkAll spare + 1
  | .agg parts => uptoBulkAll parts + 1
  | .iface _ d => uptoBulk d + 1
  | .map entries => uptoBulkEntries entries + 1
  | .held _ => 1
def uptoBulkAll {H : Type} : List (DataW H) → Nat
  | [] => 0
  | d :: r => uptoBulk d + uptoBulkAll r
def uptoBulkEntries {H : Type} : List (Lit × DataW H) → Nat
  | [] => 0
  | x :: r => uptoBulkEntry x + uptoBulkEntries r
def uptoBulkEntry {H : Type} : Lit × DataW H → Nat
  | (.string bytes, d) => bytes.length + uptoBulk d + 1
  | (_, d) => uptoBulk d + 1
 end
def uptoSmall : (H : Type) → List (DataW H) → Bool := fun _ ds => decide (uptoBulkAll ds ≤ 1048576)
def OpenSpec.upto (s : _root_.Go.ChangeSpec) : _root_.Go.OpenSpec := { _root_.Go.OpenSpec.ofChange s with cond := some uptoSmall }

/-- 'tributarylaw04.EffectTells', WHERE WHAT IT READS IS OF BULK AT MOST 1048576: true; the input reads as it did. -/
def effectTellsUptoRow : OpenClaim := { program := "ytbihcoidbfoaoaa", sum := "ca255f8124353cf5b47b3a8fd0ec1d18c7053ac2da448c9117cddc1f399a5126", func := "tributary/tributarylaw04.EffectTells", spec := "effectTells", inPlace := ["internal/bytealg.Compare"], unfollowed := true, recurses := true, apart := false, narrowed := true }
def EffectTellsUptoSaid : Prop := effectTellsUptoRow.holds Try.pinned (OpenSpec.upto effectTellsSpec)

/-- 'tributarylaw04.EffectReads', WHERE WHAT IT READS IS OF BULK AT MOST 1048576: true; the input reads as it did. -/
def effectReadsUptoRow : OpenClaim := { program := "ytbihcoidbfoaoaa", sum := "ca255f8124353cf5b47b3a8fd0ec1d18c7053ac2da448c9117cddc1f399a5126", func := "tributary/tributarylaw04.EffectReads", spec := "effectReads", inPlace := ["internal/bytealg.Compare"], unfollowed := true, recurses := true, apart := false, narrowed := true }
def EffectReadsUptoSaid : Prop := effectReadsUptoRow.holds Try.pinned (OpenSpec.upto effectReadsSpec)

/-- 'tributarylaw04.EffectKnown', WHERE WHAT IT READS IS OF BULK AT MOST 1048576: true; the input reads as it did. -/
def effectKnownUptoRow : OpenClaim := { program := "ytbihcoidbfoaoaa", sum := "ca255f8124353cf5b47b3a8fd0ec1d18c7053ac2da448c9117cddc1f399a5126", func := "tributary/tributarylaw04.EffectKnown", spec := "effectKnown", inPlace := ["internal/bytealg.Compare"], unfollowed := true, recurses := true, apart := false, narrowed := true }
def EffectKnownUptoSaid : Prop := effectKnownUptoRow.holds Try.pinned (OpenSpec.upto effectKnownSpec)

/-- 'tributarylaw04.EffectBack', WHERE WHAT IT READS IS OF BULK AT MOST 1048576: true; the input reads as it did. -/
def effectBackUptoRow : OpenClaim := { program := "ytbihcoidbfoaoaa", sum := "ca255f8124353cf5b47b3a8fd0ec1d18c7053ac2da448c9117cddc1f399a5126", func := "tributary/tributarylaw04.EffectBack", spec := "effectBack", inPlace := ["internal/bytealg.Compare"], unfollowed := true, recurses := true, apart := false, narrowed := true }
def EffectBackUptoSaid : Prop := effectBackUptoRow.holds Try.pinned (OpenSpec.upto effectBackSpec)

/-- 'tributarylaw04.EffectOrder', WHERE WHAT IT READS IS OF BULK AT MOST 1048576: true; the input reads as it did. -/
def effectOrderUptoRow : OpenClaim := { program := "ytbihcoidbfoaoaa", sum := "ca255f8124353cf5b47b3a8fd0ec1d18c7053ac2da448c9117cddc1f399a5126", func := "tributary/tributarylaw04.EffectOrder", spec := "effectOrder", inPlace := ["internal/bytealg.Compare"], unfollowed := true, recurses := true, apart := false, narrowed := true }
def EffectOrderUptoSaid : Prop := effectOrderUptoRow.holds Try.pinned (OpenSpec.upto effectOrderSpec)

end Rows
end Go.Proofs.Ytbihcoidbfoaoaa
