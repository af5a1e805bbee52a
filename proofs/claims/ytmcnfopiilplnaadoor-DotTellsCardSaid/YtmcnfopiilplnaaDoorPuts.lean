/- Stores into one block or two, and what lies there then. -/
import Derived.Test.YtmcnfopiilplnaaDoorMem
namespace Go.Proofs.YtmcnfopiilplnaaDoor
open Go.RowKit
set_option linter.unusedSimpArgs false
set_option linter.unusedVariables false


theorem put2_0 {w : World} {s0 : Nat} {a0 a1 : Value} {T : TypeId} (v0 v1 : Value) (q0 : w.heap[s0]? = some (.cells #[a0, a1] T (0, 0))) :
    ((w.setCell ⟨s0, 0, none⟩ v0).setCell ⟨s0, 1, none⟩ v1).heap[s0]? = some (.cells #[v0, v1] T (0, 0)) := by
  have p0 := heap_setCell_same _ s0 0 _ _ v0 q0
  have p1 := heap_setCell_same _ s0 1 _ _ v1 p0
  exact p1

theorem put2_2 {w : World} {s0 s1 : Nat} {a0 a1 b0 b1 : Value} {T T' : TypeId} (v0 v1 u0 u1 : Value) (q0 : w.heap[s0]? = some (.cells #[a0, a1] T (0, 0))) (q1 : w.heap[s1]? = some (.cells #[b0, b1] T' (0, 0))) (h : s0 ≠ s1) :
    ((((w.setCell ⟨s0, 0, none⟩ v0).setCell ⟨s0, 1, none⟩ v1).setCell ⟨s1, 0, none⟩ u0).setCell ⟨s1, 1, none⟩ u1).heap[s0]? = some (.cells #[v0, v1] T (0, 0)) ∧
    ((((w.setCell ⟨s0, 0, none⟩ v0).setCell ⟨s0, 1, none⟩ v1).setCell ⟨s1, 0, none⟩ u0).setCell ⟨s1, 1, none⟩ u1).heap[s1]? = some (.cells #[u0, u1] T' (0, 0)) := by
  have p0 := heap_setCell_same _ s0 0 _ _ v0 q0
  have p1 := heap_setCell_same _ s0 1 _ _ v1 p0
  have h' : s1 ≠ s0 := fun e => h e.symm
  have r : ((w.setCell ⟨s0, 0, none⟩ v0).setCell ⟨s0, 1, none⟩ v1).heap[s1]? = some (.cells #[b0, b1] T' (0, 0)) := by
    rw [Below.heap_setCell _ _ _ _ (by simpa using h'), Below.heap_setCell _ _ _ _ (by simpa using h')]
    exact q1
  have r0 := heap_setCell_same _ s1 0 _ _ u0 r
  have r1 := heap_setCell_same _ s1 1 _ _ u1 r0
  refine ⟨?_, r1⟩
  rw [Below.heap_setCell _ _ _ _ (by simpa using h), Below.heap_setCell _ _ _ _ (by simpa using h)]
  exact p1

theorem put3_0 {w : World} {s0 : Nat} {a0 a1 a2 : Value} {T : TypeId} (v0 v1 v2 : Value) (q0 : w.heap[s0]? = some (.cells #[a0, a1, a2] T (0, 0))) :
    (((w.setCell ⟨s0, 0, none⟩ v0).setCell ⟨s0, 1, none⟩ v1).setCell ⟨s0, 2, none⟩ v2).heap[s0]? = some (.cells #[v0, v1, v2] T (0, 0)) := by
  have p0 := heap_setCell_same _ s0 0 _ _ v0 q0
  have p1 := heap_setCell_same _ s0 1 _ _ v1 p0
  have p2 := heap_setCell_same _ s0 2 _ _ v2 p1
  exact p2

theorem put3_2 {w : World} {s0 s1 : Nat} {a0 a1 a2 b0 b1 : Value} {T T' : TypeId} (v0 v1 v2 u0 u1 : Value) (q0 : w.heap[s0]? = some (.cells #[a0, a1, a2] T (0, 0))) (q1 : w.heap[s1]? = some (.cells #[b0, b1] T' (0, 0))) (h : s0 ≠ s1) :
    (((((w.setCell ⟨s0, 0, none⟩ v0).setCell ⟨s0, 1, none⟩ v1).setCell ⟨s0, 2, none⟩ v2).setCell ⟨s1, 0, none⟩ u0).setCell ⟨s1, 1, none⟩ u1).heap[s0]? = some (.cells #[v0, v1, v2] T (0, 0)) ∧
    (((((w.setCell ⟨s0, 0, none⟩ v0).setCell ⟨s0, 1, none⟩ v1).setCell ⟨s0, 2, none⟩ v2).setCell ⟨s1, 0, none⟩ u0).setCell ⟨s1, 1, none⟩ u1).heap[s1]? = some (.cells #[u0, u1] T' (0, 0)) := by
  have p0 := heap_setCell_same _ s0 0 _ _ v0 q0
  have p1 := heap_setCell_same _ s0 1 _ _ v1 p0
  have p2 := heap_setCell_same _ s0 2 _ _ v2 p1
  have h' : s1 ≠ s0 := fun e => h e.symm
  have r : (((w.setCell ⟨s0, 0, none⟩ v0).setCell ⟨s0, 1, none⟩ v1).setCell ⟨s0, 2, none⟩ v2).heap[s1]? = some (.cells #[b0, b1] T' (0, 0)) := by
    rw [Below.heap_setCell _ _ _ _ (by simpa using h'), Below.heap_setCell _ _ _ _ (by simpa using h'), Below.heap_setCell _ _ _ _ (by simpa using h')]
    exact q1
  have r0 := heap_setCell_same _ s1 0 _ _ u0 r
  have r1 := heap_setCell_same _ s1 1 _ _ u1 r0
  refine ⟨?_, r1⟩
  rw [Below.heap_setCell _ _ _ _ (by simpa using h), Below.heap_setCell _ _ _ _ (by simpa using h)]
  exact p2
end Go.Proofs.YtmcnfopiilplnaaDoor
