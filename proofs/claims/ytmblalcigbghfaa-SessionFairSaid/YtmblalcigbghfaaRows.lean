/-
  No cell of these rows narrows 'for every input' (looked for: loops, veiled, ifaces, maps, wideKeys, modest, calm, conditions, laid).
  DERIVED. THE GIVEN ROWS OF THIS SEAT. 4 by the template 'for every input the law returns true; each argument reads behind the call as it read before'; 0 by the template 'total and deterministic' (their statements: YtmblalcigbghfaaTotals.lean).
  GIVEN WITH THE SEED: the statements are not yours to turn. If you find one false, say at which input.
  Laid BY PROGRAM, IN A SANDBOX (cutbox-rows.mjs): the forced cells as the released guide's own fill.sh prints them over the translation 8bea024fedea318f… (all of the seat's roots in one cut). By AI agents, Wed Nov 11 2026. No macro, syntax, notation, axiom, sorry.
-/
import Derived.Test.YtmblalcigbghfaaChecked
import GoSem.Claim
import GoSem.ClaimJoined
import GoSem.ClaimMapViews
import Derived.JoinedTies
import Derived.KernelRfl
namespace Go.Proofs.Ytmblalcigbghfaa
/- THE CELL 'sum', in the pinned program and in every row, IS THE sha256 OF THE DUMP (.gsa) THAT YtmblalcigbghfaaProg.lean LOADS. Nothing in Lean hashes anything: it is a label: what it is worth is what the hold of that sum in a sandbox is worth. -/
noncomputable def Try.pinned : Pinned := { name := "ytmblalcigbghfaa", sum := "8bea024fedea318f36947811fbc538c999c8b5af1b6c6e35b0db680b0e28a51c", checked := Try.checked }
namespace Rows
def none {H : Type} : Left H := { results := [], args := [] }

/-- 'tributarylaw18.SessionScript': WHATEVER THE INPUT: true; the input reads as it did. -/
def sessionScriptSpec : ChangeSpec := { name := "sessionScript", fn := fun _ => fun
  | [d1, d2] => { results := [.lit (.bool true)], args := [d1, d2] }
  | _ => none }
def sessionScriptRow : OpenClaim := { program := "ytmblalcigbghfaa", sum := "8bea024fedea318f36947811fbc538c999c8b5af1b6c6e35b0db680b0e28a51c", func := "tributary/tributarylaw18.SessionScript", spec := "sessionScript", inPlace := ["sync/atomic.CompareAndSwapUint32", "sync/atomic.LoadInt64", "sync/atomic.SwapUint32", "sync/atomic.SwapInt64", "sync/atomic.AddInt64"], apart := false }
def SessionScriptSaid : Prop := sessionScriptRow.holds Try.pinned (OpenSpec.ofChange sessionScriptSpec)

/-- ITS FALSE NEIGHBOUR: 'it returns false'. Refute it at one input. -/
def sessionScriptWrong : ChangeSpec := { name := "sessionScript", fn := fun _ => fun
  | [d1, d2] => { results := [.lit (.bool false)], args := [d1, d2] }
  | _ => none }
def SessionScriptWrongFalsely : Prop := sessionScriptRow.holds Try.pinned (OpenSpec.ofChange sessionScriptWrong)

/-- 'tributarylaw18.SessionOrder': WHATEVER THE INPUT: true; the input reads as it did. -/
def sessionOrderSpec : ChangeSpec := { name := "sessionOrder", fn := fun _ => fun
  | [d1, d2, d3] => { results := [.lit (.bool true)], args := [d1, d2, d3] }
  | _ => none }
def sessionOrderRow : OpenClaim := { program := "ytmblalcigbghfaa", sum := "8bea024fedea318f36947811fbc538c999c8b5af1b6c6e35b0db680b0e28a51c", func := "tributary/tributarylaw18.SessionOrder", spec := "sessionOrder", inPlace := ["sync/atomic.CompareAndSwapUint32", "sync/atomic.LoadInt64", "sync/atomic.SwapUint32", "sync/atomic.SwapInt64", "sync/atomic.AddInt64"], apart := false }
def SessionOrderSaid : Prop := sessionOrderRow.holds Try.pinned (OpenSpec.ofChange sessionOrderSpec)

/-- ITS FALSE NEIGHBOUR: 'it returns false'. Refute it at one input. -/
def sessionOrderWrong : ChangeSpec := { name := "sessionOrder", fn := fun _ => fun
  | [d1, d2, d3] => { results := [.lit (.bool false)], args := [d1, d2, d3] }
  | _ => none }
def SessionOrderWrongFalsely : Prop := sessionOrderRow.holds Try.pinned (OpenSpec.ofChange sessionOrderWrong)

/-- 'tributarylaw18.SessionFair': WHATEVER THE INPUT: true; the input reads as it did. -/
def sessionFairSpec : ChangeSpec := { name := "sessionFair", fn := fun _ => fun
  | [d] => { results := [.lit (.bool true)], args := [d] }
  | _ => none }
def sessionFairRow : OpenClaim := { program := "ytmblalcigbghfaa", sum := "8bea024fedea318f36947811fbc538c999c8b5af1b6c6e35b0db680b0e28a51c", func := "tributary/tributarylaw18.SessionFair", spec := "sessionFair", inPlace := ["sync/atomic.CompareAndSwapUint32", "sync/atomic.LoadInt64", "sync/atomic.SwapUint32", "sync/atomic.SwapInt64", "sync/atomic.AddInt64"], apart := false }
def SessionFairSaid : Prop := sessionFairRow.holds Try.pinned (OpenSpec.ofChange sessionFairSpec)

/-- ITS FALSE NEIGHBOUR: 'it returns false'. Refute it at one input. -/
def sessionFairWrong : ChangeSpec := { name := "sessionFair", fn := fun _ => fun
  | [d] => { results := [.lit (.bool false)], args := [d] }
  | _ => none }
def SessionFairWrongFalsely : Prop := sessionFairRow.holds Try.pinned (OpenSpec.ofChange sessionFairWrong)

/-- 'tributarylaw18.SessionTurns': WHATEVER THE INPUT: true; the input reads as it did. -/
def sessionTurnsSpec : ChangeSpec := { name := "sessionTurns", fn := fun _ => fun
  | [d1, d2] => { results := [.lit (.bool true)], args := [d1, d2] }
  | _ => none }
def sessionTurnsRow : OpenClaim := { program := "ytmblalcigbghfaa", sum := "8bea024fedea318f36947811fbc538c999c8b5af1b6c6e35b0db680b0e28a51c", func := "tributary/tributarylaw18.SessionTurns", spec := "sessionTurns", inPlace := ["sync/atomic.CompareAndSwapUint32", "sync/atomic.LoadInt64", "sync/atomic.SwapUint32", "sync/atomic.SwapInt64", "sync/atomic.AddInt64"], apart := false }
def SessionTurnsSaid : Prop := sessionTurnsRow.holds Try.pinned (OpenSpec.ofChange sessionTurnsSpec)

/-- ITS FALSE NEIGHBOUR: 'it returns false'. Refute it at one input. -/
def sessionTurnsWrong : ChangeSpec := { name := "sessionTurns", fn := fun _ => fun
  | [d1, d2] => { results := [.lit (.bool false)], args := [d1, d2] }
  | _ => none }
def SessionTurnsWrongFalsely : Prop := sessionTurnsRow.holds Try.pinned (OpenSpec.ofChange sessionTurnsWrong)

/- THE SECOND FORM. 'bulk': how many values and letters a reading holds, each counted each time it is reached (what is shared counts as often as it is met; a slice's spare places count too). A statement '..UptoSaid' is the law's where the arguments, and the package variables that the reading takes, are together of bulk at most 1048576: NARROWER than '..Said'. Prove '..Said' where nothing that the law and all that it calls make is longer than what came in: it says more and counts as full. Else prove '..UptoSaid'. A law counts once. -/
mutual
def uptoBulk {H : Type} : DataW H → Nat
  | .lit (.string bytes) => bytes.length + 1
  | .lit _ => 1
  | .nil => 1
  | .ptr d => uptoBulk d + 1
  | .slice elems spare => uptoBulkAll elems + uptoBulkAll spare + 1
  | .agg parts => uptoBulkAll parts + 1
  | .iface _ d => uptoBulk d + 1
  | .map entries => uptoBulkEntries entries + 1
  | .held _ => 1
def uptoBulkAll {H : Type} : List (DataW H) → Nat
  | [] => 0
  | d :: r => uptoBulk d + uptoBulkAll r
def uptoBulkEntries {H : Type} : List (Lit × DataW H) → Nat
  | [] => 0
  | x :: r => uptoBulkEntry x + uptoBulkEntries r
def uptoBulkEntry {H : Type} : Lit × DataW H → Nat
  | (.string bytes, d) => bytes.length + uptoBulk d + 1
  | (_, d) => uptoBulk d + 1
 end
def uptoSmall : (H : Type) → List (DataW H) → Bool := fun _ ds => decide (uptoBulkAll ds ≤ 1048576)
def OpenSpec.upto (s : _root_.Go.ChangeSpec) : _root_.Go.OpenSpec := { _root_.Go.OpenSpec.ofChange s with cond := some uptoSmall }

/-- 'tributarylaw18.SessionScript', WHERE WHAT IT READS IS OF BULK AT MOST 1048576: true; the input reads as it did. -/
def sessionScriptUptoRow : OpenClaim := { program := "ytmblalcigbghfaa", sum := "8bea024fedea318f36947811fbc538c999c8b5af1b6c6e35b0db680b0e28a51c", func := "tributary/tributarylaw18.SessionScript", spec := "sessionScript", inPlace := ["sync/atomic.CompareAndSwapUint32", "sync/atomic.LoadInt64", "sync/atomic.SwapUint32", "sync/atomic.SwapInt64", "sync/atomic.AddInt64"], apart := false, narrowed := true }
def SessionScriptUptoSaid : Prop := sessionScriptUptoRow.holds Try.pinned (OpenSpec.upto sessionScriptSpec)

/-- 'tributarylaw18.SessionOrder', WHERE WHAT IT READS IS OF BULK AT MOST 1048576: true; the input reads as it did. -/
def sessionOrderUptoRow : OpenClaim := { program := "ytmblalcigbghfaa", sum := "8bea024fedea318f36947811fbc538c999c8b5af1b6c6e35b0db680b0e28a51c", func := "tributary/tributarylaw18.SessionOrder", spec := "sessionOrder", inPlace := ["sync/atomic.CompareAndSwapUint32", "sync/atomic.LoadInt64", "sync/atomic.SwapUint32", "sync/atomic.SwapInt64", "sync/atomic.AddInt64"], apart := false, narrowed := true }
def SessionOrderUptoSaid : Prop := sessionOrderUptoRow.holds Try.pinned (OpenSpec.upto sessionOrderSpec)

/-- 'tributarylaw18.SessionFair', WHERE WHAT IT READS IS OF BULK AT MOST 1048576: true; the input reads as it did. -/
def sessionFairUptoRow : OpenClaim := { program := "ytmblalcigbghfaa", sum := "8bea024fedea318f36947811fbc538c999c8b5af1b6c6e35b0db680b0e28a51c", func := "tributary/tributarylaw18.SessionFair", spec := "sessionFair", inPlace := ["sync/atomic.CompareAndSwapUint32", "sync/atomic.LoadInt64", "sync/atomic.SwapUint32", "sync/atomic.SwapInt64", "sync/atomic.AddInt64"], apart := false, narrowed := true }
def SessionFairUptoSaid : Prop := sessionFairUptoRow.holds Try.pinned (OpenSpec.upto sessionFairSpec)

/-- 'tributarylaw18.SessionTurns', WHERE WHAT IT READS IS OF BULK AT MOST 1048576: true; the input reads as it did. -/
def sessionTurnsUptoRow : OpenClaim := { program := "ytmblalcigbghfaa", sum := "8bea024fedea318f36947811fbc538c999c8b5af1b6c6e35b0db680b0e28a51c", func := "tributary/tributarylaw18.SessionTurns", spec := "sessionTurns", inPlace := ["sync/atomic.CompareAndSwapUint32", "sync/atomic.LoadInt64", "sync/atomic.SwapUint32", "sync/atomic.SwapInt64", "sync/atomic.AddInt64"], apart := false, narrowed := true }
def SessionTurnsUptoSaid : Prop := sessionTurnsUptoRow.holds Try.pinned (OpenSpec.upto sessionTurnsSpec)

end Rows
end Go.Proofs.Ytmblalcigbghfaa
