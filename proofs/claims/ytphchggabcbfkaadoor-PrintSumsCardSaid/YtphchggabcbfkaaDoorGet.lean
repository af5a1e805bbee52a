/- Package frame: GetPacket. -/
import Derived.Test.YtphchggabcbfkaaDoorPut
import Derived.Test.YtphchggabcbfkaaDoorKit
import Derived.Deep.RegionHeld3
import Derived.Deep.Cut
import Derived.Deep.CutRange
namespace Go.Proofs.YtphchggabcbfkaaDoor
open Go.RowKit
set_option linter.unusedSimpArgs false
set_option linter.unusedVariables false

section
variable {P : Program} {ops : Array Oper} {Q : Exit → Act → World → Prop} {md : Region.Mode} {S : World → Prop}
/-- A step that yields at once, its slot written out. -/
theorem take_yes (i d : Nat) (v : Value) {oi : Oper} {fuel : Nat} {listed : Array Bool} {a : Act} {w : World} (hS : S w) (hi : ops[i]? = some oi) (hd : oi.dst = some d)
    (hs : Region.noSelect ops = true) (hf : Region.free md ops listed i = true) (hr : (Region.ready md ops listed).contains i = true)
    (hQ : ∀ c a w, Q (.panic c) (a.put (some d) v) w → Q (.panic c) a w) (hw : Region.wanted oi (yielded ops a.tmps) = true) (hy : ∀ w, S w → (execOp a.eval oi).run P w = .ok (.value v) w)
    (h : wpAnyH P md ops Q S fuel (listed.setIfInBounds i true) (a.put (some d) v) w) : wpAnyH P md ops Q S (fuel + 1) listed a w :=
  wpAnyH_take hi hs hf hr (by rw [hd]; exact hQ) (.inl ⟨hw, hy⟩) hS (by rw [hd]; exact h)
/-- A step that is not wanted. -/
theorem take_no (i d : Nat) {oi : Oper} {fuel : Nat} {listed : Array Bool} {a : Act} {w : World} (hS : S w) (hi : ops[i]? = some oi) (hd : oi.dst = some d)
    (hs : Region.noSelect ops = true) (hf : Region.free md ops listed i = true) (hr : (Region.ready md ops listed).contains i = true)
    (hQ : ∀ c a w, Q (.panic c) (a.put (some d) undef) w → Q (.panic c) a w) (hw : Region.wanted oi (yielded ops a.tmps) = false)
    (h : wpAnyH P md ops Q S fuel (listed.setIfInBounds i true) (a.put (some d) undef) w) : wpAnyH P md ops Q S (fuel + 1) listed a w :=
  wpAnyH_take hi hs hf hr (by rw [hd]; exact hQ) (.inr ⟨hw, rfl⟩) hS (by rw [hd]; exact h)
end


theorem Bs.head {w : World} {A : Option Addr} {n : Nat} {xs : List UInt8} (h : Bs w A n xs) (k : Nat) (hk : k ≤ n) : Bs w A k (xs.take k) := by
  have hl := h.len
  refine ⟨by simp; omega, fun j u hj => ?_⟩
  rw [List.getElem?_take] at hj
  split at hj
  · exact h.cells j u hj
  · cases hj
theorem Bs.tail {w : World} {g o n : Nat} {xs : List UInt8} (h : Bs w (some ⟨g, o, none⟩) n xs) (k : Nat) (hk : k ≤ n) : Bs w (some ⟨g, o + k, none⟩) (n - k) (xs.drop k) := by
  have hl := h.len
  refine ⟨by simp; omega, fun j u hj => ⟨_, rfl, ?_⟩⟩
  rw [List.getElem?_drop] at hj
  obtain ⟨a, e, hc⟩ := h.cells (k + j) u hj
  cases e
  rw [add_lit] at hc ⊢
  rw [Nat.add_assoc]
  exact hc

def pN1 (xs : List UInt8) : Int × Nat × Int × Int := rNum xs 0 0 0 1 1099511627776
def pN2 (xs : List UInt8) : Int × Nat × Int × Int := rNum xs (pN1 xs).2.1 (pN1 xs).2.2.1 (pN1 xs).2.2.2 0 1099511627776
def pN3 (xs : List UInt8) : Int × Nat × Int × Int := rNum xs (pN2 xs).2.1 (pN2 xs).2.2.1 (pN2 xs).2.2.2 0 1099511627776
def pN4 (xs : List UInt8) : Int × Nat × Int × Int := rNum xs (pN3 xs).2.1 (pN3 xs).2.2.1 (pN3 xs).2.2.2 0 1099511627776
def pR5 (xs : List UInt8) : List UInt8 × Nat × Int × Int := rRaw xs (pN4 xs).2.1 (pN4 xs).2.2.1 (pN4 xs).2.2.2 400
def pF (xs : List UInt8) : Int × Int := endR xs (pR5 xs).2.1 (pR5 xs).2.2.1 (pR5 xs).2.2.2
/-- What is read of a packet's bytes: the packet; the fault. -/
def readQ (xs : List UInt8) : (Int × Int × Int × Int × List UInt8) × Int × Int :=
  if (pF xs).1 ≠ 0 then ((0, 0, 0, 0, []), pF xs) else if FineP (pN1 xs).1 (pN2 xs).1 (pN3 xs).1 (pN4 xs).1 (pR5 xs).1.length then (((pN1 xs).1, (pN2 xs).1, (pN3 xs).1, (pN4 xs).1, (pR5 xs).1), (0, 0)) else ((0, 0, 0, 0, []), (2, 0))
/-- Are these bytes whole: is the fingerprint that of what stands ahead? -/
def whole (xs : List UInt8) : Prop := 8 ≤ xs.length ∧ sumB (xs.take (xs.length - 8)) = xs.drop (xs.length - 8)
instance (xs : List UInt8) : Decidable (whole xs) := by unfold whole; exact inferInstance
def readP (xs : List UInt8) : (Int × Int × Int × Int × List UInt8) × Int × Int := if whole xs then readQ (xs.take (xs.length - 8)) else ((0, 0, 0, 0, []), (11, 0))

/-- What GetPacket leaves. -/
def ReadPPost (w : World) (r : (Int × Int × Int × Int × List UInt8) × Int × Int) (e : Ending) (w' : World) : Prop :=
  ∃ A c, e = .returned (.tuple #[.agg #[.int .i64 r.1.1, .int .i64 r.1.2.1, .int .i64 r.1.2.2.1, .int .i64 r.1.2.2.2.1, .slice A r.1.2.2.2.2.length c], .agg #[.int .i64 r.2.1, .int .i64 r.2.2]]) ∧ Fresh w w' A c r.1.2.2.2.2

/-- Both results written. -/
theorem put7 {w : World} {s0 s1 : Nat} {a0 a1 a2 a3 a4 b0 b1 : Value} {T T' : TypeId} (v0 v1 v2 v3 v4 u0 u1 : Value) (q0 : w.heap[s0]? = some (.cells #[a0, a1, a2, a3, a4] T (0, 0))) (q1 : w.heap[s1]? = some (.cells #[b0, b1] T' (0, 0))) (h : s0 ≠ s1) :
    (((((((w.setCell ⟨s0, 0, none⟩ v0).setCell ⟨s0, 1, none⟩ v1).setCell ⟨s0, 2, none⟩ v2).setCell ⟨s0, 3, none⟩ v3).setCell ⟨s0, 4, none⟩ v4).setCell ⟨s1, 0, none⟩ u0).setCell ⟨s1, 1, none⟩ u1).heap[s0]? = some (.cells #[v0, v1, v2, v3, v4] T (0, 0)) ∧
    (((((((w.setCell ⟨s0, 0, none⟩ v0).setCell ⟨s0, 1, none⟩ v1).setCell ⟨s0, 2, none⟩ v2).setCell ⟨s0, 3, none⟩ v3).setCell ⟨s0, 4, none⟩ v4).setCell ⟨s1, 0, none⟩ u0).setCell ⟨s1, 1, none⟩ u1).heap[s1]? = some (.cells #[u0, u1] T' (0, 0)) := by
  have h' : s1 ≠ s0 := fun e => h e.symm
  have p0 := heap_setCell_same _ s0 0 _ _ v0 q0
  have p1 := heap_setCell_same _ s0 1 _ _ v1 p0
  have p2 := heap_setCell_same _ s0 2 _ _ v2 p1
  have p3 := heap_setCell_same _ s0 3 _ _ v3 p2
  have p4 := heap_setCell_same _ s0 4 _ _ v4 p3
  have r : (((((w.setCell ⟨s0, 0, none⟩ v0).setCell ⟨s0, 1, none⟩ v1).setCell ⟨s0, 2, none⟩ v2).setCell ⟨s0, 3, none⟩ v3).setCell ⟨s0, 4, none⟩ v4).heap[s1]? = some (.cells #[b0, b1] T' (0, 0)) := by
    rw [Below.heap_setCell _ _ _ _ (by simpa using h'), Below.heap_setCell _ _ _ _ (by simpa using h'), Below.heap_setCell _ _ _ _ (by simpa using h'), Below.heap_setCell _ _ _ _ (by simpa using h'), Below.heap_setCell _ _ _ _ (by simpa using h')]
    exact q1
  have r0 := heap_setCell_same _ s1 0 _ _ u0 r
  have r1 := heap_setCell_same _ s1 1 _ _ u1 r0
  refine ⟨?_, r1⟩
  rw [Below.heap_setCell _ _ _ _ (by simpa using h), Below.heap_setCell _ _ _ _ (by simpa using h)]
  exact p4

theorem last1 {p q : Prop} (h : p ∧ q) : q := h.2
end Go.Proofs.YtphchggabcbfkaaDoor
