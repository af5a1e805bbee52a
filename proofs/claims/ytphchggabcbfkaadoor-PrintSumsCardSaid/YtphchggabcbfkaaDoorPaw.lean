/- Layer 17: awake. -/
import Derived.Test.YtphchggabcbfkaaDoorGet2
import Derived.Test.YtphchggabcbfkaaDoorMsg
namespace Go.Proofs.YtphchggabcbfkaaDoor
open Go.RowKit
set_option linter.unusedSimpArgs false
set_option linter.unusedVariables false

theorem Bs.fill {w : World} {g n : Nat} {C : Array Value} (xs : List UInt8) {fr : Nat × Nat} (hg : w.heap[g]? = some (.cells C 5 fr)) (h : C.toList = xs.map bv) (hn : xs.length = n) : Bs w (some ⟨g, 0, none⟩) n xs :=
  ⟨hn, fun j u hj => ⟨_, rfl, by
    rw [add_zero_lit]
    have e : w.cell? ⟨g, j, none⟩ = C[j]? := by simp [World.cell?, hg]
    rw [e, ← Array.getElem?_toList, h, List.getElem?_map, hj]; rfl⟩⟩

/-- The bytes of the chapter's packet. -/
def five : List UInt8 := pkO 5 0 0 0 []
theorem five_len : five.length = 14 := by decide +kernel
theorem five_chk : chkP 5 0 0 0 0 = 0 := by decide +kernel
theorem five_read : readP five = ((5, 0, 0, 0, []), (0, 0)) := by decide +kernel
end Go.Proofs.YtphchggabcbfkaaDoor
