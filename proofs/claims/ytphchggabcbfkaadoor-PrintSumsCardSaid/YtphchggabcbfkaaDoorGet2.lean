/- Package frame: GetPacket of bytes that are whole. -/
import Derived.Test.YtphchggabcbfkaaDoorGet
namespace Go.Proofs.YtphchggabcbfkaaDoor
open Go.RowKit
set_option linter.unusedSimpArgs false
set_option linter.unusedVariables false

theorem rNum_calm {xs : List UInt8} {p : Nat} {fe fa low high : Int} (he : (rNum xs p fe fa low high).2.2.1 = 0) : fe = 0 ∧ (rNum xs p fe fa low high).2.2.2 = fa := by
  unfold rNum at he ⊢
  split at he
  · rename_i h; exact absurd he h
  · rename_i h
    have hz : fe = 0 := by simpa using h
    rw [if_neg h]
    cases hn : numAt xs p low high with
    | error x => obtain ⟨f, q⟩ := x; simp only [hn] at he; have := numAt_err hn; omega
    | ok x => exact ⟨hz, rfl⟩
theorem rRaw_calm {xs : List UInt8} {p : Nat} {fe fa most : Int} (he : (rRaw xs p fe fa most).2.2.1 = 0) : fe = 0 ∧ (rRaw xs p fe fa most).2.2.2 = fa := by
  unfold rRaw at he ⊢
  split at he
  · rename_i h; exact absurd he h
  · rename_i h
    have hz : fe = 0 := by simpa using h
    rw [if_neg h]
    cases hn : numAt xs p 0 4611686018427387903 with
    | error x => obtain ⟨f, q⟩ := x; simp only [hn] at he; have := numAt_err hn; omega
    | ok x =>
      obtain ⟨n, q⟩ := x
      simp only [hn] at he ⊢
      split at he
      · simp at he
      · rename_i h1
        rw [if_neg h1]
        split at he
        · simp at he
        · rename_i h2; rw [if_neg h2]; exact ⟨hz, rfl⟩
theorem endR_calm {xs : List UInt8} {p : Nat} {fe fa : Int} (he : (endR xs p fe fa).1 = 0) : fe = 0 ∧ (endR xs p fe fa).2 = fa ∧ xs.length ≤ p := by
  unfold endR at he ⊢
  split at he
  · simp at he
  · rename_i h
    rw [if_neg h]
    exact ⟨he, rfl, by omega⟩
theorem pF_zero {xs : List UInt8} (h : (pF xs).1 = 0) : (pF xs).2 = 0 := by
  unfold pF at h ⊢
  obtain ⟨h1, h2, _⟩ := endR_calm h
  rw [h2]
  unfold pR5 at h1 ⊢
  obtain ⟨h3, h4⟩ := rRaw_calm h1
  rw [h4]
  unfold pN4 at h3 ⊢
  obtain ⟨h5, h6⟩ := rNum_calm h3
  rw [h6]
  unfold pN3 at h5 ⊢
  obtain ⟨h5, h6⟩ := rNum_calm h5
  rw [h6]
  unfold pN2 at h5 ⊢
  obtain ⟨h5, h6⟩ := rNum_calm h5
  rw [h6]
  unfold pN1 at h5 ⊢
  obtain ⟨_, h8⟩ := rNum_calm h5
  rw [h8]
theorem pR5_small (xs : List UInt8) : (pR5 xs).1.length ≤ xs.length := by
  have h1 : (pN1 xs).2.1 ≤ xs.length := rNum_le (by omega)
  have h2 : (pN2 xs).2.1 ≤ xs.length := rNum_le h1
  have h3 : (pN3 xs).2.1 ≤ xs.length := rNum_le h2
  have h4 : (pN4 xs).2.1 ≤ xs.length := rNum_le h3
  have h5 := rRaw_le (xs := xs) (fe := (pN4 xs).2.2.1) (fa := (pN4 xs).2.2.2) (most := 400) h4
  unfold pR5
  omega
theorem bs_apart2 {A : Option Addr} {s0 s1 n : Nat} (h : ∀ a, A = some a → n ≤ a.block) (h0 : s0 < n) (h1 : s1 < n) : ∀ a, A = some a → a.block ∉ [s0, s1] := by
  intro a e
  have := h a e
  simp
  omega

end Go.Proofs.YtphchggabcbfkaaDoor
