/- What a box answers to the pieces of an item. -/
import Derived.Test.YtnpilljjkfjjiaaCkcutp
import Derived.Test.YtnpilljjkfjjiaaCkbox
namespace Go.Proofs.Ytnpilljjkfjjiaa
open Go.RowKit
set_option linter.unusedSimpArgs false
set_option linter.unusedVariables false

theorem piece_chk {it : Int} {xs : List UInt8} {j : Nat} (i1 : 1 ≤ it) (i2 : it ≤ 1099511627776) (hl : xs.length ≤ 60000) (hj : j * 200 < xs.length) : chkM 1 it (xs.length : Int) ((j : Int) * 200) (pieceR xs j).length = 0 := by
  have h1 := pieceL_le xs.length j
  have h2 := pieceL_pos hj
  rw [pieceR_len]
  exact chkM_fine ⟨i1, i2, .inl ⟨rfl, by omega, by omega, by omega, by omega, by omega, by omega, by omega⟩⟩
theorem pieceR_zero (xs : List UInt8) : pieceR xs 0 = xs.take 200 := by
  unfold pieceR pieceL
  simp only [Nat.zero_mul, List.drop_zero, Nat.sub_zero]
  split
  · rfl
  · rw [List.take_of_length_le (Nat.le_refl _), List.take_of_length_le (by omega)]
theorem take_piece (xs : List UInt8) (j : Nat) : xs.take (j * 200) ++ pieceR xs j = xs.take ((j + 1) * 200) := by
  unfold pieceR pieceL
  rw [show (j + 1) * 200 = j * 200 + 200 by omega, List.take_add]
  congr 1
  split
  · rfl
  · rw [List.take_of_length_le (by simp), List.take_of_length_le (by simp; omega)]
/-- A first piece above the quota: the box is empty. -/
theorem put_full {q it : Int} {xs : List UInt8} (st : BoxT) (i1 : 1 ≤ it) (i2 : it ≤ 1099511627776) (hl : xs.length ≤ 60000) (h0 : 0 < xs.length) (hq : q < (xs.length : Int)) : putC q st 1 it (xs.length : Int) 0 (pieceR xs 0) = ([], 8, 0, 0, []) := by
  have := piece_chk (j := 0) i1 i2 hl (by omega)
  rw [show (((0 : Nat) : Int) * 200) = 0 from rfl] at this
  unfold putC
  rw [if_neg (by intro h; rcases h with h | h; exact h this; exact h rfl), if_pos rfl, if_pos hq]
/-- A first piece within it, whatever came ahead. -/
theorem put_first {q it : Int} {xs : List UInt8} (st : BoxT) (i1 : 1 ≤ it) (i2 : it ≤ 1099511627776) (hl : xs.length ≤ 60000) (h0 : 0 < xs.length) (hq : ¬ q < (xs.length : Int)) : putC q st 1 it (xs.length : Int) 0 (pieceR xs 0) = finC it (xs.length : Int) (xs.take 200) := by
  have := piece_chk (j := 0) i1 i2 hl (by omega)
  rw [show (((0 : Nat) : Int) * 200) = 0 from rfl] at this
  unfold putC
  rw [if_neg (by intro h; rcases h with h | h; exact h this; exact h rfl), if_pos rfl, if_neg hq, pieceR_zero]
/-- The next piece. -/
theorem put_next {q it : Int} {xs : List UInt8} {j : Nat} (i1 : 1 ≤ it) (i2 : it ≤ 1099511627776) (hl : xs.length ≤ 60000) (h0 : 0 < j) (hj : j * 200 < xs.length) : putC q (it, (xs.length : Int), xs.take (j * 200)) 1 it (xs.length : Int) ((j : Int) * 200) (pieceR xs j) = finC it (xs.length : Int) (xs.take ((j + 1) * 200)) := by
  have := piece_chk i1 i2 hl hj
  unfold putC
  rw [if_neg (by intro h; rcases h with h | h; exact h this; exact h rfl), if_neg (by omega), if_pos ⟨rfl, rfl, by simp; omega⟩, take_piece]
/-- A piece that is not the next one. -/
theorem put_state {q it : Int} {xs : List UInt8} {j : Nat} (st : BoxT) (i1 : 1 ≤ it) (i2 : it ≤ 1099511627776) (hl : xs.length ≤ 60000) (h0 : 0 < j) (hj : j * 200 < xs.length) (hs : st.2.2.length ≠ j * 200) : putC q st 1 it (xs.length : Int) ((j : Int) * 200) (pieceR xs j) = ([], 9, st) := by
  have := piece_chk i1 i2 hl hj
  unfold putC
  rw [if_neg (by intro h; rcases h with h | h; exact h this; exact h rfl), if_neg (by omega), if_neg (by rintro ⟨_, _, h⟩; omega)]
theorem fin_more {it : Int} {xs : List UInt8} {j : Nat} (h : j * 200 < xs.length) : finC it (xs.length : Int) (xs.take (j * 200)) = ([], 0, it, (xs.length : Int), xs.take (j * 200)) := by
  unfold finC
  rw [if_pos (by simp; omega)]
theorem fin_last {it : Int} {xs : List UInt8} {j : Nat} (h : xs.length ≤ j * 200) : finC it (xs.length : Int) (xs.take (j * 200)) = (xs, 0, 0, 0, []) := by
  unfold finC
  rw [List.take_of_length_le h, if_neg (by omega)]
end Go.Proofs.Ytnpilljjkfjjiaa
