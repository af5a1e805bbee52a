/- A row of acts as bytes. -/
import Derived.Test.YtknhgicpndgdoaaBack
namespace Go.Proofs.Ytknhgicpndgdoaa
open Go.RowKit

/-- The bytes of a row of acts. -/
def outAll (l : List ActD) : List UInt8 := l.flatMap ActD.put
theorem outAll_nil : outAll [] = [] := rfl
theorem outAll_append (l k : List ActD) : outAll (l ++ k) = outAll l ++ outAll k := List.flatMap_append
theorem outAll_cons (a : ActD) (l : List ActD) : outAll (a :: l) = a.put ++ outAll l := List.flatMap_cons
theorem outAll_more {l : List ActD} {j : Nat} {a : ActD} (h : l[j]? = some a) : outAll (l.take (j + 1)) = outAll (l.take j) ++ a.put := by
  rw [List.take_add_one, h, outAll_append]
  simp [outAll]
theorem outAll_split {l : List ActD} {j : Nat} {a : ActD} (h : l[j]? = some a) : outAll l = outAll (l.take j) ++ (a.put ++ outAll (l.drop (j + 1))) := by
  have hl := (List.getElem?_eq_some_iff.1 h)
  obtain ⟨h1, h2⟩ := hl
  rw [← outAll_cons, ← outAll_append]
  congr 1
  rw [← h2, ← List.drop_eq_getElem_cons h1, List.take_append_drop]
theorem short_take {l : List ActD} (h : ∀ a ∈ l, a.short) : ∀ j, j ≤ l.length → (outAll (l.take j)).length ≤ 309 * j
  | 0, _ => by simp [outAll]
  | j + 1, hj => by
    have hlt : j < l.length := by omega
    have ih := short_take h j (by omega)
    rw [outAll_more (List.getElem?_eq_getElem hlt), List.length_append]
    have := put_len _ (h _ (List.getElem_mem hlt))
    omega
theorem outAll_pos {l : List ActD} (h : ∀ a ∈ l, a.short) (h0 : l ≠ []) : outAll l ≠ [] := by
  cases l with
  | nil => exact absurd rfl h0
  | cons a l =>
    rw [outAll_cons]
    have := put_len a (h a (by simp))
    intro e
    have e2 := congrArg List.length e
    rw [List.length_append, List.length_nil] at e2
    omega
/-- Short of the last byte: an act that is not the last. -/
theorem outAll_cut {l : List ActD} (hs : ∀ a ∈ l, a.short) {j : Nat} {a : ActD} (h : l[j]? = some a) (hj : j + 1 < l.length) : (outAll l).dropLast = outAll (l.take j) ++ (a.put ++ (outAll (l.drop (j + 1))).dropLast) := by
  have hne : outAll (l.drop (j + 1)) ≠ [] := outAll_pos (fun a ha => hs a (List.mem_of_mem_drop ha)) (by
    intro e
    have := congrArg List.length e
    simp at this
    omega)
  rw [outAll_split h, List.dropLast_append_of_ne_nil (by simp [hne]), List.dropLast_append_of_ne_nil hne]
/-- The last act. -/
theorem outAll_last {l : List ActD} (hs : ∀ a ∈ l, a.short) {j : Nat} {a : ActD} (h : l[j]? = some a) (hj : j + 1 = l.length) : (outAll l).dropLast = outAll (l.take j) ++ a.put.dropLast := by
  have hp := put_len a (hs a (List.mem_of_getElem? h))
  have hne : a.put ≠ [] := by
    intro e
    rw [e] at hp
    simp at hp
  rw [outAll_split h, hj, List.drop_length, outAll_nil, List.append_nil, List.dropLast_append_of_ne_nil hne]
theorem shorts {w : World} {A : Option Addr} {len : Nat} {l : List ActD} (h : Acts w A len l) (hl : longs l = false) : (∀ a ∈ l, a.short) ∧ l.length ≤ 60 := by
  simp only [longs, Bool.or_eq_false_iff, List.any_eq_false, decide_eq_false_iff_not, Nat.not_lt] at hl
  refine ⟨fun a ha => ?_, hl.2⟩
  have hb := hl.1 a ha
  simp only [bad, Bool.or_eq_true, decide_eq_true_eq, not_or, Nat.not_lt] at hb
  obtain ⟨j, hj⟩ := List.getElem?_of_mem ha
  obtain ⟨b, off, _, hA⟩ := h.2 j a hj
  have := hA.bytes.len
  refine ⟨?_, by omega⟩
  rw [Array.length_toList]
  exact hb.1
end Go.Proofs.Ytknhgicpndgdoaa
