/- The reader of package wire: Open, and what tells without reading. -/
import Derived.Test.YtphchggabcbfkaaDoorWr4
import Derived.Deep.QuietTactic
import Derived.BigQuiet
namespace Go.Proofs.YtphchggabcbfkaaDoor
open Go.RowKit

theorem flipw {P : Program} {f : FuncId} {args : Array Value} {w : World} {v : Value} (h : Calls P f args w fun e w' => e = .returned v ∧ w = w') : Calls P f args w fun e w' => e = .returned v ∧ w' = w :=
  h.mono fun _ _ hh => ⟨hh.1, hh.2.symm⟩
end Go.Proofs.YtphchggabcbfkaaDoor
