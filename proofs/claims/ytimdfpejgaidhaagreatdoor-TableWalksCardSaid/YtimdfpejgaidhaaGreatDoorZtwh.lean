/- Regions that draw their order: what any order of them comes to. No program is named here. The run on marks, with all that is the same at each visit reckoned once (the kernel remembers what a closed box holds). No program is named here. A closed call: what the run on marks says is what the program does, in whatever world. No program is named here. The layer's closed examples: the run on marks, reckoned by the kernel. What the laws of past have in common. -/
import Derived.Test.YtimdfpejgaidhaaGreatDoorZtwg
import Derived.Test.YtimdfpejgaidhaaGreatDoorZtwd
import Derived.Laws.Strings
import Derived.Test.YtimdfpejgaidhaaGreatDoorZtwa
import Derived.Test.YtimdfpejgaidhaaGreatDoorZtwc
namespace Go.Proofs.YtimdfpejgaidhaaGreatDoor
section
open Go.RowKit Go.Lib
set_option linter.unusedSimpArgs false
set_option linter.unusedVariables false



theorem OwnK.lt_ {α : Type} {R : RowTy α} {w : World} {A : Option Addr} {c : Nat} {xs : List α} (h : OwnK R w A c xs) : ∀ a, A = some a → a.block < w.heap.size := by
  rintro a rfl
  rcases h with ⟨h1, _⟩ | ⟨g, full, h1, hg, _⟩
  · cases h1
  · cases h1; exact lt_of_heap hg
end
end Go.Proofs.YtimdfpejgaidhaaGreatDoor
