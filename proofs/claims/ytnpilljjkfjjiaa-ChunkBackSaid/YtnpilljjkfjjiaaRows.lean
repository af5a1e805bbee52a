/-
  No cell of these rows narrows 'for every input' (looked for: loops, veiled, ifaces, maps, wideKeys, modest, calm, conditions, laid).
  DERIVED. THE GIVEN ROWS OF THIS SEAT. 6 by the template 'for every input the law returns true; each argument reads behind the call as it read before'; 0 by the template 'total and deterministic' (their statements: YtnpilljjkfjjiaaTotals.lean).
  GIVEN WITH THE SEED: the statements are not yours to turn. If you find one false, say at which input.
  Laid BY PROGRAM, IN A SANDBOX (cutbox-rows.mjs): the forced cells as the released guide's own fill.sh prints them over the translation 8a3a97f8f366ebdc… (all of the seat's roots in one cut). By AI agents, Wed Nov 11 2026. No macro, syntax, notation, axiom, sorry.
-/
import Derived.Test.YtnpilljjkfjjiaaChecked
import GoSem.Claim
import GoSem.ClaimJoined
import GoSem.ClaimMapViews
import Derived.JoinedTies
import Derived.KernelRfl
namespace Go.Proofs.Ytnpilljjkfjjiaa
/- THE CELL 'sum', in the pinned program and in every row, IS THE sha256 OF THE DUMP (.gsa) THAT YtnpilljjkfjjiaaProg.lean LOADS. Nothing in Lean hashes anything: it is a label: what it is worth is what the hold of that sum in a sandbox is worth. -/
noncomputable def Try.pinned : Pinned := { name := "ytnpilljjkfjjiaa", sum := "8a3a97f8f366ebdcf8d0f2d959fa810be8078d17daa9cef96819fc99069d2ff9", checked := Try.checked }
namespace Rows
def none {H : Type} : Left H := { results := [], args := [] }

/-- 'tributarylaw19.ChunkCuts': WHATEVER THE INPUT: true; the input reads as it did. -/
def chunkCutsSpec : ChangeSpec := { name := "chunkCuts", fn := fun _ => fun
  | [d1, d2] => { results := [.lit (.bool true)], args := [d1, d2] }
  | _ => none }
def chunkCutsRow : OpenClaim := { program := "ytnpilljjkfjjiaa", sum := "8a3a97f8f366ebdcf8d0f2d959fa810be8078d17daa9cef96819fc99069d2ff9", func := "tributary/tributarylaw19.ChunkCuts", spec := "chunkCuts", unfollowed := true, recurses := true, apart := false }
def ChunkCutsSaid : Prop := chunkCutsRow.holds Try.pinned (OpenSpec.ofChange chunkCutsSpec)

/-- ITS FALSE NEIGHBOUR: 'it returns false'. Refute it at one input. -/
def chunkCutsWrong : ChangeSpec := { name := "chunkCuts", fn := fun _ => fun
  | [d1, d2] => { results := [.lit (.bool false)], args := [d1, d2] }
  | _ => none }
def ChunkCutsWrongFalsely : Prop := chunkCutsRow.holds Try.pinned (OpenSpec.ofChange chunkCutsWrong)

/-- 'tributarylaw19.ChunkScript': WHATEVER THE INPUT: true; the input reads as it did. -/
def chunkScriptSpec : ChangeSpec := { name := "chunkScript", fn := fun _ => fun
  | [d1, d2, d3] => { results := [.lit (.bool true)], args := [d1, d2, d3] }
  | _ => none }
def chunkScriptRow : OpenClaim := { program := "ytnpilljjkfjjiaa", sum := "8a3a97f8f366ebdcf8d0f2d959fa810be8078d17daa9cef96819fc99069d2ff9", func := "tributary/tributarylaw19.ChunkScript", spec := "chunkScript", unfollowed := true, recurses := true, apart := false }
def ChunkScriptSaid : Prop := chunkScriptRow.holds Try.pinned (OpenSpec.ofChange chunkScriptSpec)

/-- ITS FALSE NEIGHBOUR: 'it returns false'. Refute it at one input. -/
def chunkScriptWrong : ChangeSpec := { name := "chunkScript", fn := fun _ => fun
  | [d1, d2, d3] => { results := [.lit (.bool false)], args := [d1, d2, d3] }
  | _ => none }
def ChunkScriptWrongFalsely : Prop := chunkScriptRow.holds Try.pinned (OpenSpec.ofChange chunkScriptWrong)

/-- 'tributarylaw19.ChunkNone': WHATEVER THE INPUT: true; the input reads as it did. -/
def chunkNoneSpec : ChangeSpec := { name := "chunkNone", fn := fun _ => fun
  | [d] => { results := [.lit (.bool true)], args := [d] }
  | _ => none }
def chunkNoneRow : OpenClaim := { program := "ytnpilljjkfjjiaa", sum := "8a3a97f8f366ebdcf8d0f2d959fa810be8078d17daa9cef96819fc99069d2ff9", func := "tributary/tributarylaw19.ChunkNone", spec := "chunkNone", unfollowed := true, recurses := true, apart := false }
def ChunkNoneSaid : Prop := chunkNoneRow.holds Try.pinned (OpenSpec.ofChange chunkNoneSpec)

/-- ITS FALSE NEIGHBOUR: 'it returns false'. Refute it at one input. -/
def chunkNoneWrong : ChangeSpec := { name := "chunkNone", fn := fun _ => fun
  | [d] => { results := [.lit (.bool false)], args := [d] }
  | _ => none }
def ChunkNoneWrongFalsely : Prop := chunkNoneRow.holds Try.pinned (OpenSpec.ofChange chunkNoneWrong)

/-- 'tributarylaw19.ChunkKnown': WHATEVER THE INPUT: true; the input reads as it did. -/
def chunkKnownSpec : ChangeSpec := { name := "chunkKnown", fn := fun _ => fun
  | [] => { results := [.lit (.bool true)], args := [] }
  | _ => none }
def chunkKnownRow : OpenClaim := { program := "ytnpilljjkfjjiaa", sum := "8a3a97f8f366ebdcf8d0f2d959fa810be8078d17daa9cef96819fc99069d2ff9", func := "tributary/tributarylaw19.ChunkKnown", spec := "chunkKnown", unfollowed := true, recurses := true, apart := false }
def ChunkKnownSaid : Prop := chunkKnownRow.holds Try.pinned (OpenSpec.ofChange chunkKnownSpec)

/-- ITS FALSE NEIGHBOUR: 'it returns false'. Refute it at one input. -/
def chunkKnownWrong : ChangeSpec := { name := "chunkKnown", fn := fun _ => fun
  | [] => { results := [.lit (.bool false)], args := [] }
  | _ => none }
def ChunkKnownWrongFalsely : Prop := chunkKnownRow.holds Try.pinned (OpenSpec.ofChange chunkKnownWrong)

/-- 'tributarylaw19.ChunkBack': WHATEVER THE INPUT: true; the input reads as it did. -/
def chunkBackSpec : ChangeSpec := { name := "chunkBack", fn := fun _ => fun
  | [d1, d2, d3, d4] => { results := [.lit (.bool true)], args := [d1, d2, d3, d4] }
  | _ => none }
def chunkBackRow : OpenClaim := { program := "ytnpilljjkfjjiaa", sum := "8a3a97f8f366ebdcf8d0f2d959fa810be8078d17daa9cef96819fc99069d2ff9", func := "tributary/tributarylaw19.ChunkBack", spec := "chunkBack", unfollowed := true, recurses := true, apart := false }
def ChunkBackSaid : Prop := chunkBackRow.holds Try.pinned (OpenSpec.ofChange chunkBackSpec)

/-- ITS FALSE NEIGHBOUR: 'it returns false'. Refute it at one input. -/
def chunkBackWrong : ChangeSpec := { name := "chunkBack", fn := fun _ => fun
  | [d1, d2, d3, d4] => { results := [.lit (.bool false)], args := [d1, d2, d3, d4] }
  | _ => none }
def ChunkBackWrongFalsely : Prop := chunkBackRow.holds Try.pinned (OpenSpec.ofChange chunkBackWrong)

/-- 'tributarylaw19.ChunkRoom': WHATEVER THE INPUT: true; the input reads as it did. -/
def chunkRoomSpec : ChangeSpec := { name := "chunkRoom", fn := fun _ => fun
  | [d1, d2] => { results := [.lit (.bool true)], args := [d1, d2] }
  | _ => none }
def chunkRoomRow : OpenClaim := { program := "ytnpilljjkfjjiaa", sum := "8a3a97f8f366ebdcf8d0f2d959fa810be8078d17daa9cef96819fc99069d2ff9", func := "tributary/tributarylaw19.ChunkRoom", spec := "chunkRoom", unfollowed := true, recurses := true, apart := false }
def ChunkRoomSaid : Prop := chunkRoomRow.holds Try.pinned (OpenSpec.ofChange chunkRoomSpec)

/-- ITS FALSE NEIGHBOUR: 'it returns false'. Refute it at one input. -/
def chunkRoomWrong : ChangeSpec := { name := "chunkRoom", fn := fun _ => fun
  | [d1, d2] => { results := [.lit (.bool false)], args := [d1, d2] }
  | _ => none }
def ChunkRoomWrongFalsely : Prop := chunkRoomRow.holds Try.pinned (OpenSpec.ofChange chunkRoomWrong)

/- THE SECOND FORM. 'bulk': how many values and letters a reading holds, each counted each time it is reached (what is shared counts as often as it is met; a slice's spare places count too). A statement '..UptoSaid' is the law's where the arguments, and the package variables that the reading takes, are together of bulk at most 1048576: NARROWER than '..Said'. Prove '..Said' where nothing that the law and all that it calls make is longer than what came in: it says more and counts as full. Else prove '..UptoSaid'. A law counts once. -/
mutual
def uptoBulk {H : Type} : DataW H → Nat
  | .lit (.string bytes) => bytes.length + 1
  | .lit _ => 1
  | .nil => 1
  | .ptr d => uptoBulk d + 1
  | .slice elems spare => uptoBulkAll elems + uptoBulkAll spare + 1
  | .agg parts => uptoBulkAll parts + 1
  | .iface _ d => uptoBulk d + 1
  | .map entries => uptoBulkEntries entries + 1
  | .held _ => 1
def uptoBulkAll {H : Type} : List (DataW H) → Nat
  | [] => 0
  | d :: r => uptoBulk d + uptoBulkAll r
def uptoBulkEntries {H : Type} : List (Lit × DataW H) → Nat
  | [] => 0
  | x :: r => uptoBulkEntry x + uptoBulkEntries r
def uptoBulkEntry {H : Type} : Lit × DataW H → Nat
  | (.string bytes, d) => bytes.length + uptoBulk d + 1
  | (_, d) => uptoBulk d + 1
 end
def uptoSmall : (H : Type) → List (DataW H) → Bool := fun _ ds => decide (uptoBulkAll ds ≤ 1048576)
def OpenSpec.upto (s : _root_.Go.ChangeSpec) : _root_.Go.OpenSpec := { _root_.Go.OpenSpec.ofChange s with cond := some uptoSmall }

/-- 'tributarylaw19.ChunkCuts', WHERE WHAT IT READS IS OF BULK AT MOST 1048576: true; the input reads as it did. -/
def chunkCutsUptoRow : OpenClaim := { program := "ytnpilljjkfjjiaa", sum := "8a3a97f8f366ebdcf8d0f2d959fa810be8078d17daa9cef96819fc99069d2ff9", func := "tributary/tributarylaw19.ChunkCuts", spec := "chunkCuts", unfollowed := true, recurses := true, apart := false, narrowed := true }
def ChunkCutsUptoSaid : Prop := chunkCutsUptoRow.holds Try.pinned (OpenSpec.upto chunkCutsSpec)

/-- 'tributarylaw19.ChunkScript', WHERE WHAT IT READS IS OF BULK AT MOST 1048576: true; the input reads as it did. -/
def chunkScriptUptoRow : OpenClaim := { program := "ytnpilljjkfjjiaa", sum := "8a3a97f8f366ebdcf8d0f2d959fa810be8078d17daa9cef96819fc99069d2ff9", func := "tributary/tributarylaw19.ChunkScript", spec := "chunkScript", unfollowed := true, recurses := true, apart := false, narrowed := true }
def ChunkScriptUptoSaid : Prop := chunkScriptUptoRow.holds Try.pinned (OpenSpec.upto chunkScriptSpec)

/-- 'tributarylaw19.ChunkNone', WHERE WHAT IT READS IS OF BULK AT MOST 1048576: true; the input reads as it did. -/
def chunkNoneUptoRow : OpenClaim := { program := "ytnpilljjkfjjiaa", sum := "8a3a97f8f366ebdcf8d0f2d959fa810be8078d17daa9cef96819fc99069d2ff9", func := "tributary/tributarylaw19.ChunkNone", spec := "chunkNone", unfollowed := true, recurses := true, apart := false, narrowed := true }
def ChunkNoneUptoSaid : Prop := chunkNoneUptoRow.holds Try.pinned (OpenSpec.upto chunkNoneSpec)

/-- 'tributarylaw19.ChunkKnown', WHERE WHAT IT READS IS OF BULK AT MOST 1048576: true; the input reads as it did. -/
def chunkKnownUptoRow : OpenClaim := { program := "ytnpilljjkfjjiaa", sum := "8a3a97f8f366ebdcf8d0f2d959fa810be8078d17daa9cef96819fc99069d2ff9", func := "tributary/tributarylaw19.ChunkKnown", spec := "chunkKnown", unfollowed := true, recurses := true, apart := false, narrowed := true }
def ChunkKnownUptoSaid : Prop := chunkKnownUptoRow.holds Try.pinned (OpenSpec.upto chunkKnownSpec)

/-- 'tributarylaw19.ChunkBack', WHERE WHAT IT READS IS OF BULK AT MOST 1048576: true; the input reads as it did. -/
def chunkBackUptoRow : OpenClaim := { program := "ytnpilljjkfjjiaa", sum := "8a3a97f8f366ebdcf8d0f2d959fa810be8078d17daa9cef96819fc99069d2ff9", func := "tributary/tributarylaw19.ChunkBack", spec := "chunkBack", unfollowed := true, recurses := true, apart := false, narrowed := true }
def ChunkBackUptoSaid : Prop := chunkBackUptoRow.holds Try.pinned (OpenSpec.upto chunkBackSpec)

/-- 'tributarylaw19.ChunkRoom', WHERE WHAT IT READS IS OF BULK AT MOST 1048576: true; the input reads as it did. -/
def chunkRoomUptoRow : OpenClaim := { program := "ytnpilljjkfjjiaa", sum := "8a3a97f8f366ebdcf8d0f2d959fa810be8078d17daa9cef96819fc99069d2ff9", func := "tributary/tributarylaw19.ChunkRoom", spec := "chunkRoom", unfollowed := true, recurses := true, apart := false, narrowed := true }
def ChunkRoomUptoSaid : Prop := chunkRoomUptoRow.holds Try.pinned (OpenSpec.upto chunkRoomSpec)

end Rows
end Go.Proofs.Ytnpilljjkfjjiaa
