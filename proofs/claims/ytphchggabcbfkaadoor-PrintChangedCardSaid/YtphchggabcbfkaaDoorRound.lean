/- What is written is read as it was: no memory here. -/
import Derived.Test.YtphchggabcbfkaaDoorRd3
namespace Go.Proofs.YtphchggabcbfkaaDoor
open Go.RowKit

theorem nb_zero : nb 0 = 0 := by decide
theorem nb_small (n : Nat) (h0 : 0 < n) (h : n < 256) : nb n = 1 := by
  have h1 := Lib.bitLen_le n 8 (by omega) (by omega)
  have h2 := Lib.bitLen_half n (by omega) (by omega)
  unfold nb
  omega
theorem nb_step (n : Nat) (h : 256 ≤ n) (hn : n < 18446744073709551616) : nb n = 1 + nb (n / 256) := by
  have := Lib.bitLen_shift8 n h hn
  unfold nb
  omega
theorem nb_range (n : Nat) : n < 18446744073709551616 → n < 256 ^ nb n ∧ (0 < n → 256 ^ (nb n - 1) ≤ n ∧ 0 < nb n) := by
  induction n using Nat.strongRecOn with
  | _ n ih =>
    intro hn
    by_cases h0 : n = 0
    · subst h0; rw [nb_zero]; decide
    by_cases h : n < 256
    · rw [nb_small n (by omega) h]
      exact ⟨by simpa using h, fun _ => ⟨by simp; omega, by omega⟩⟩
    · have := ih (n / 256) (by omega) (by omega)
      rw [nb_step n (by omega) hn]
      obtain ⟨h1, h2⟩ := this
      obtain ⟨h3, h4⟩ := h2 (by omega)
      obtain ⟨k, hk⟩ : ∃ k, nb (n / 256) = k + 1 := ⟨nb (n / 256) - 1, by omega⟩
      rw [hk] at h1 h3 ⊢
      rw [show 1 + (k + 1) - 1 = k + 1 by omega, show 1 + (k + 1) = (k + 1) + 1 by omega]
      rw [show k + 1 - 1 = k by omega] at h3
      rw [Nat.pow_succ] at h1
      rw [Nat.pow_succ 256 (k + 1), Nat.pow_succ]
      omega

theorem val_from (l : List UInt8) : ∀ a : Nat, l.foldl (fun n x => n * 256 + x.toNat) a = a * 256 ^ l.length + val l := by
  induction l with
  | nil => intro a; simp [val]
  | cons c l ih =>
    intro a
    simp only [List.foldl_cons, val, List.length_cons, Nat.pow_succ]
    rw [ih, ih]
    simp only [Nat.zero_mul, Nat.zero_add]
    rw [Nat.add_mul, Nat.mul_assoc, Nat.mul_comm 256 (256 ^ l.length), Nat.add_assoc]
theorem val_cons (c : UInt8) (l : List UInt8) : val (c :: l) = c.toNat * 256 ^ l.length + val l := by
  have := val_from l c.toNat
  simp only [val, List.foldl_cons, Nat.zero_mul, Nat.zero_add] at this ⊢
  exact this
theorem val_be : ∀ (k n : Nat), val (be k n) = n % 256 ^ k
  | 0, n => by simp [be, val]; omega
  | k + 1, n => by
    rw [be, val_cons, val_be k n, be_len]
    have h : (UInt8.ofNat (n / 256 ^ k)).toNat = n / 256 ^ k % 256 := by simp
    rw [h, Nat.pow_succ, Nat.mod_mul]
    rw [Nat.mul_comm]
    omega

/-- A number's form, read where it stands. -/
theorem numAt_enc (pre rest : List UInt8) (n : Nat) (low high : Int) (hn : n ≤ 4611686018427387903) (hl : low ≤ n) (hh : (n : Int) ≤ high) :
    numAt (pre ++ (enc n ++ rest)) pre.length low high = .ok (n, pre.length + 1 + nb n) := by
  have hnb := nb_le n (by omega)
  obtain ⟨h1, h2⟩ := nb_range n (by omega)
  have hb : bt (pre ++ (enc n ++ rest)) pre.length = nb n := by
    simp only [bt, List.getD, List.getElem?_append_right (Nat.le_refl _), Nat.sub_self, enc, List.cons_append, List.getElem?_cons_zero, Option.getD_some]
    simp
    omega
  have hlen : (pre ++ (enc n ++ rest)).length = pre.length + (1 + nb n) + rest.length := by simp [enc_len]; omega
  have hd : dv (pre ++ (enc n ++ rest)) pre.length (nb n) = n := by
    unfold dv
    have : (pre ++ (enc n ++ rest)).drop (pre.length + 1) = be (nb n) n ++ rest := by
      rw [← List.drop_drop, List.drop_left]
      simp [enc]
    rw [this, List.take_append_of_le_length (by rw [be_len]; exact Nat.le_refl _), List.take_of_length_le (by rw [be_len]; exact Nat.le_refl _), val_be, Nat.mod_eq_of_lt h1]
  have hz : ¬ (0 < nb n ∧ bt (pre ++ (enc n ++ rest)) (pre.length + 1) = 0) := by
    rintro ⟨h3, h4⟩
    obtain ⟨k, hk⟩ : ∃ k, nb n = k + 1 := ⟨nb n - 1, by omega⟩
    have h0 : 0 < n := by
      rcases Nat.eq_zero_or_pos n with e | e
      · subst e; rw [nb_zero] at h3; omega
      · exact e
    have h5 := (h2 h0).1
    rw [hk, show k + 1 - 1 = k by omega] at h5
    have h6 : bt (pre ++ (enc n ++ rest)) (pre.length + 1) = n / 256 ^ k % 256 := by
      simp only [bt, List.getD, List.getElem?_append_right (Nat.le_add_right _ _), Nat.add_sub_cancel_left, enc, hk, be, List.cons_append, List.getElem?_cons_succ, List.getElem?_cons_zero, Option.getD_some]
      simp
    rw [hk, Nat.pow_succ] at h1
    have h7 : 1 ≤ n / 256 ^ k := (Nat.one_le_div_iff (Nat.pow_pos (by omega))).2 h5
    have h8 : n / 256 ^ k < 256 := Nat.div_lt_of_lt_mul h1
    omega
  unfold numAt
  rw [if_neg (by omega), hb, if_neg (by omega), if_neg (by omega), if_neg hz, hd, if_neg (by omega)]
end Go.Proofs.YtphchggabcbfkaaDoor
