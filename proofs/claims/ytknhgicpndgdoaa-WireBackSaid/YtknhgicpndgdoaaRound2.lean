/- Acts as bytes: written, read, read short of a byte. -/
import Derived.Test.YtknhgicpndgdoaaRound
import Derived.Test.YtknhgicpndgdoaaActs
namespace Go.Proofs.Ytknhgicpndgdoaa
open Go.RowKit

/-- The number that an act bears behind right. -/
def ActD.rn (a : ActD) : Int := if a.kind = 0 then a.n % 4611686018427387904 else a.n
/-- An act's bytes. -/
def ActD.put (a : ActD) : List UInt8 := if a.kind = 0 then enc a.rn.toNat else if a.kind = 1 then enc a.s.data.toList.length ++ a.s.data.toList else enc a.ys.length ++ a.ys
/-- Short enough. -/
def ActD.short (a : ActD) : Prop := a.s.data.toList.length ≤ 300 ∧ a.ys.length ≤ 300
theorem rn_range (a : ActD) (h : a.kind = 0) : 0 ≤ a.rn ∧ a.rn ≤ 4611686018427387903 := by
  unfold ActD.rn
  rw [if_pos h]
  omega
theorem put_len (a : ActD) (h : a.short) : 0 < a.put.length ∧ a.put.length ≤ 309 := by
  unfold ActD.put
  split
  · rename_i h0
    have := rn_range a h0
    have := nb_le a.rn.toNat (by omega)
    rw [enc_len]
    omega
  · have h1 := nb_le a.s.data.toList.length (by have := h.1; omega)
    have h2 := nb_le a.ys.length (by have := h.2; omega)
    have h3 := h.1
    have h4 := h.2
    split <;> (rw [List.length_append, enc_len]; omega)
theorem wAct_put (xs : List UInt8) (a : ActD) (h : a.short) (hx : xs.length ≤ 1048000) : wAct xs 0 a.kind a.rn a.s.data.toList a.ys = (xs ++ a.put, 0) := by
  unfold wAct ActD.put
  have h3 := h.1
  have h4 := h.2
  split
  · rename_i h0
    have h5 := rn_range a h0
    have h6 := nb_le a.rn.toNat (by omega)
    unfold wNum
    rw [if_neg (by simp), if_neg (by omega), if_neg (by omega)]
  · have h1 := nb_le a.s.data.toList.length (by omega)
    have h2 := nb_le a.ys.length (by omega)
    split
    · unfold wRaw
      rw [if_neg (by simp), if_neg (by omega), List.append_assoc]
    · unfold wRaw
      rw [if_neg (by simp), if_neg (by omega), List.append_assoc]

theorem rNum_enc (pre rest : List UInt8) (n : Int) (h0 : 0 ≤ n) (h1 : n ≤ 4611686018427387903) : rNum (pre ++ (enc n.toNat ++ rest)) pre.length 0 0 n n = (n, pre.length + (enc n.toNat).length, 0, 0) := by
  unfold rNum
  rw [if_neg (by simp), numAt_enc pre rest n.toNat n n (by omega) (by omega) (by omega)]
  simp only [enc_len, Prod.mk.injEq, and_true]
  omega
theorem rRaw_enc (pre ys rest : List UInt8) (h : ys.length ≤ 300) : rRaw (pre ++ ((enc ys.length ++ ys) ++ rest)) pre.length 0 0 ys.length = (ys, pre.length + (enc ys.length ++ ys).length, 0, 0) := by
  unfold rRaw
  rw [if_neg (by simp), List.append_assoc, numAt_enc pre (ys ++ rest) ys.length 0 4611686018427387903 (by omega) (by omega) (by omega)]
  have hl : (pre ++ (enc ys.length ++ (ys ++ rest))).length = pre.length + (1 + nb ys.length) + ys.length + rest.length := by simp [enc_len]; omega
  have hd : (pre ++ (enc ys.length ++ (ys ++ rest))).drop (pre.length + 1 + nb ys.length) = ys ++ rest := by
    rw [Nat.add_assoc, ← enc_len, ← List.drop_drop, List.drop_left, List.drop_left]
  simp only
  rw [if_neg (by omega), if_neg (by rw [hl]; omega), hd, List.take_left]
  simp only [List.length_append, enc_len, Prod.mk.injEq, and_true, true_and]
  omega

theorem numAt_cut (pre : List UInt8) (n : Nat) (low high : Int) (hn : n ≤ 4611686018427387903) : numAt (pre ++ (enc n).dropLast) pre.length low high = .error (4, (pre ++ (enc n).dropLast).length) := by
  have hnb := nb_le n (by omega)
  have hl : (pre ++ (enc n).dropLast).length = pre.length + nb n := by simp [enc_len]
  unfold numAt
  by_cases h0 : nb n = 0
  · rw [if_pos (by omega)]
  · rw [if_neg (by omega)]
    have hb : bt (pre ++ (enc n).dropLast) pre.length = nb n := by
      obtain ⟨k, hk⟩ : ∃ k, nb n = k + 1 := ⟨nb n - 1, by omega⟩
      have e : (enc n).dropLast = UInt8.ofNat (nb n) :: (be (nb n) n).dropLast := by
        unfold enc
        rw [List.dropLast_cons_of_ne_nil]
        intro e
        have := congrArg List.length e
        rw [be_len] at this
        simp at this
        omega
      rw [e]
      simp only [bt, List.getD, List.getElem?_append_right (Nat.le_refl _), Nat.sub_self, List.getElem?_cons_zero, Option.getD_some]
      simp
      omega
    rw [hb, if_neg (by omega), if_pos (by omega)]
theorem rNum_cut (pre : List UInt8) (n : Int) (h0 : 0 ≤ n) (h1 : n ≤ 4611686018427387903) (low high : Int) : rNum (pre ++ (enc n.toNat).dropLast) pre.length 0 0 low high = (0, pre.length, 4, ((pre ++ (enc n.toNat).dropLast).length : Int)) := by
  unfold rNum
  rw [if_neg (by simp), numAt_cut pre n.toNat low high (by omega)]
  rfl
theorem rRaw_cut (pre ys : List UInt8) (h : ys.length ≤ 300) : rRaw (pre ++ (enc ys.length ++ ys).dropLast) pre.length 0 0 ys.length = ([], pre.length, 4, ((pre ++ (enc ys.length ++ ys).dropLast).length : Int)) := by
  unfold rRaw
  rw [if_neg (by simp)]
  by_cases hy : ys = []
  · subst hy
    rw [List.append_nil, numAt_cut pre _ _ _ (by simp)]
    rfl
  · rw [List.dropLast_append_of_ne_nil hy]
    have hp : 0 < ys.length := List.length_pos_iff.2 hy
    rw [numAt_enc pre ys.dropLast ys.length 0 4611686018427387903 (by omega) (by omega) (by omega)]
    have hl : (pre ++ (enc ys.length ++ ys.dropLast)).length = pre.length + (1 + nb ys.length) + (ys.length - 1) := by simp [enc_len]; omega
    simp only
    rw [if_neg (by omega), if_pos (by rw [hl]; omega)]
end Go.Proofs.Ytknhgicpndgdoaa
