/- The document's writer (tributaryref01): form, put, Num, Raw, Text, Out. -/
import Derived.Test.YtphchggabcbfkaaDoorWr4
namespace Go.Proofs.YtphchggabcbfkaaDoor
open Go.RowKit

theorem nb_char (n k : Nat) (hk : k ≤ 8) (h0 : n < 256 ^ k) (h1 : k = 0 ∨ 256 ^ (k - 1) ≤ n) : k = nb n := by
  have e : ∀ j, 256 ^ j = 2 ^ (8 * j) := fun j => by rw [Nat.pow_mul]
  have h2 := Lib.bitLen_le n (8 * k) (by omega) (by rw [← e]; exact h0)
  unfold nb
  rcases h1 with rfl | h1
  · omega
  · by_cases hk0 : k = 0
    · subst hk0; omega
    · rw [e] at h1
      have hn : n < 2 ^ 64 := by
        have : 256 ^ k ≤ 256 ^ 8 := Nat.pow_le_pow_right (by omega) hk
        have e8 : 256 ^ 8 = 2 ^ 64 := by decide
        omega
      have h3 := Lib.bitLen_shift (8 * (k - 1)) n h1 hn
      have h4 : Lib.bitLen (n / 2 ^ (8 * (k - 1))) ≠ 0 := by
        intro h
        have hp : 1 ≤ n / 2 ^ (8 * (k - 1)) := (Nat.le_div_iff_mul_le (Nat.two_pow_pos _)).2 (by omega)
        have := Lib.bitLen_shift 0 (n / 2 ^ (8 * (k - 1))) (by simpa using hp) (by have := Nat.div_le_self n (2 ^ (8 * (k - 1))); omega)
        have h5 : Lib.bitLen (n / 2 ^ (8 * (k - 1))) = 1 + Lib.bitLen (n / 2 ^ (8 * (k - 1)) / 2) := Lib.bitLen_half _ (by omega) (by have := Nat.div_le_self n (2 ^ (8 * (k - 1))); omega)
        omega
      omega

theorem OwnB.one (w : World) (c : UInt8) (x : Int) (hx : x = (c.toNat : Int)) : OwnB (w.alloc (.cells #[.int .u8 x] 5)) (some ⟨w.heap.size, 0, none⟩) 1 [c] := by
  subst hx
  exact .of (full := [c]) (heap_alloc_new w _) (by simp) (by simp [maxLen]) rfl (by simp)

/-- A byte ahead of bytes. -/
theorem ahead_app {w wr w1 : World} {A' : Option Addr} {c' : Nat} {x : Value} {zs : List UInt8} (own1 : OwnB w1 A' c' zs) (hc : Chg [] w wr) (hg1 : (wr.alloc (.cells #[x] 5)).grownBy w1 (Option.map (·.block) (some (⟨wr.heap.size, 0, none⟩ : Addr))))
    (hA1 : A' = some ⟨wr.heap.size, 0, none⟩ ∨ A' = some ⟨(wr.alloc (.cells #[x] 5)).heap.size, 0, none⟩) : Fresh w w1 A' c' zs := by
  have hs := hc.size
  refine ⟨own1, ?_, (hc.alloc _).grown hg1 (by simp; omega)⟩
  rintro a rfl
  rcases hA1 with h | h <;> cases h <;> simp <;> omega

/-- What is left of a number above its lowest k digits. -/
def up (n k : Nat) : Nat := n / 256 ^ k
theorem up_zero (n : Nat) : up n 0 = n := by simp [up]
theorem up_succ (n k : Nat) : ((up n k : Nat) : Int) / 256 = ((up n (k + 1) : Nat) : Int) := by
  have : up n (k + 1) = up n k / 256 := by unfold up; rw [Nat.pow_succ, Nat.div_div_eq_div_mul]
  rw [this]; omega
theorem up_le (n k : Nat) : up n k ≤ n := Nat.div_le_self _ _
theorem up_pos {n k : Nat} (h : 0 < up n k) : 256 ^ k ≤ n := by
  unfold up at h
  rcases Nat.lt_or_ge n (256 ^ k) with h1 | h1
  · rw [Nat.div_eq_of_lt h1] at h; omega
  · exact h1
theorem up_none {n k : Nat} (h : ¬ 0 < up n k) : n < 256 ^ k := by
  unfold up at h
  rcases Nat.lt_or_ge n (256 ^ k) with h1 | h1
  · exact h1
  · exact absurd ((Nat.le_div_iff_mul_le (Nat.two_pow_pos (8 * k) |> fun h => by rwa [Nat.pow_mul] at h)).2 (by omega)) (by omega : ¬ 1 ≤ n / 256 ^ k)

end Go.Proofs.YtphchggabcbfkaaDoor
