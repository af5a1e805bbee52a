/- Sixteen letters: a number's digits to the base 16: no memory here. -/
import Derived.Test.YtphchggabcbfkaaDoorBase
namespace Go.Proofs.YtphchggabcbfkaaDoor
open Go.RowKit
set_option linter.unusedSimpArgs false
set_option linter.unusedVariables false

/-- The letter of a digit below 16. -/
def hexd (d : Nat) : UInt8 := if d < 10 then UInt8.ofNat (48 + d) else UInt8.ofNat (87 + d)
/-- The lowest k digits of n, the highest first. -/
def hexs : Nat → Nat → List UInt8
  | 0, _ => []
  | k + 1, n => hexd (n / 16 ^ k % 16) :: hexs k n
theorem hexs_len : ∀ (k n : Nat), (hexs k n).length = k
  | 0, _ => rfl
  | k + 1, n => by simp [hexs, hexs_len k n]
theorem hexs_mod : ∀ (k n m : Nat), n % 16 ^ k = m % 16 ^ k → hexs k n = hexs k m
  | 0, _, _, _ => rfl
  | k + 1, n, m, h => by
    have h1 : n % 16 ^ k = m % 16 ^ k := by
      have := congrArg (· % 16 ^ k) h
      simpa [Nat.mod_mod_of_dvd _ (Nat.pow_dvd_pow 16 (Nat.le_succ k))] using this
    have h2 : n / 16 ^ k % 16 = m / 16 ^ k % 16 := by
      have a := Nat.mod_mul_right_div_self n (16 ^ k) 16
      have b := Nat.mod_mul_right_div_self m (16 ^ k) 16
      rw [Nat.pow_succ] at h
      rw [← a, ← b, h]
    simp only [hexs, h2, hexs_mod k n m h1]
/-- A digit behind all others. -/
theorem hexs_low : ∀ (k n : Nat), hexs (k + 1) n = hexs k (n / 16) ++ [hexd (n % 16)]
  | 0, n => by simp [hexs]
  | k + 1, n => by
    rw [hexs, hexs_low k n, hexs]
    simp only [List.cons_append, List.cons.injEq, and_true]
    rw [Nat.div_div_eq_div_mul, Nat.pow_succ, Nat.mul_comm]
/-- How many digits a number has. -/
def ndig (n : Nat) : Nat := if h : n < 16 then 1 else 1 + ndig (n / 16)
theorem ndig_small {n : Nat} (h : n < 16) : ndig n = 1 := by rw [ndig, dif_pos h]
theorem ndig_big {n : Nat} (h : ¬ n < 16) : ndig n = 1 + ndig (n / 16) := by rw [ndig, dif_neg h]
theorem ndig_pos (n : Nat) : 1 ≤ ndig n := by
  rw [ndig]; split <;> omega
theorem ndig_le : ∀ (k n : Nat), n < 16 ^ (k + 1) → ndig n ≤ k + 1
  | 0, n, h => by rw [ndig_small (by simpa using h)]; exact Nat.le_refl _
  | k + 1, n, h => by
    by_cases hs : n < 16
    · rw [ndig_small hs]; omega
    · rw [ndig_big hs]
      have := ndig_le k (n / 16) (by rw [Nat.pow_succ] at h; exact Nat.div_lt_of_lt_mul (by rw [Nat.mul_comm]; exact h))
      omega
theorem ndig_lt : ∀ (f n : Nat), n < 16 ^ f → n < 16 ^ ndig n
  | 0, n, h => by
    have : n = 0 := by simpa using h
    subst this
    rw [ndig_small (by omega)]; omega
  | f + 1, n, h => by
    by_cases hs : n < 16
    · rw [ndig_small hs]; simpa using hs
    · rw [ndig_big hs, Nat.add_comm, Nat.pow_succ]
      have := ndig_lt f (n / 16) (by rw [Nat.pow_succ] at h; exact Nat.div_lt_of_lt_mul (by rw [Nat.mul_comm]; exact h))
      omega
/-- Higher digits are nothing but '0'. -/
theorem hexs_pad : ∀ (j k n : Nat), n < 16 ^ k → hexs (j + k) n = List.replicate j 48 ++ hexs k n
  | 0, k, n, _ => by simp
  | j + 1, k, n, h => by
    rw [show j + 1 + k = (j + k) + 1 by omega, hexs, hexs_pad j k n h]
    have : n / 16 ^ (j + k) = 0 := Nat.div_eq_of_lt (Nat.lt_of_lt_of_le h (Nat.pow_le_pow_right (by omega) (by omega)))
    rw [this]
    rfl
/-- Sixteen letters: those of the number behind as many '0' as are wanted. -/
theorem hexs_text (n : Nat) (h : n < 18446744073709551616) : List.replicate (16 - ndig n) 48 ++ hexs (ndig n) n = hexs 16 n := by
  have h1 := ndig_le 15 n (by omega)
  have h2 := ndig_lt 16 n (by omega)
  rw [← hexs_pad _ _ _ h2, show 16 - ndig n + ndig n = 16 by omega]

/-- What a letter is worth; 16: it is none. -/
def unhex (c : UInt8) : Nat := if 48 ≤ c.toNat ∧ c.toNat ≤ 57 then c.toNat - 48 else if 97 ≤ c.toNat ∧ c.toNat ≤ 102 then c.toNat - 87 else 16
theorem unhex_le (c : UInt8) : unhex c ≤ 16 := by unfold unhex; split <;> (try split) <;> omega
theorem hexd_toNat (d : Nat) (h : d < 16) : (hexd d).toNat = if d < 10 then 48 + d else 87 + d := by
  unfold hexd
  split <;> simp [UInt8.toNat_ofNat'] <;> omega
theorem unhex_hexd (d : Nat) (h : d < 16) : unhex (hexd d) = d := by
  unfold unhex
  rw [hexd_toNat d h]
  split <;> split <;> (try split) <;> omega
theorem hexd_unhex (c : UInt8) (h : unhex c < 16) : hexd (unhex c) = c := by
  apply UInt8.toNat_inj.1
  rw [hexd_toNat _ h]
  unfold unhex at *
  split at h
  · split <;> (try split) <;> omega
  · split at h
    · split <;> (try split) <;> omega
    · omega
/-- The number that letters tell. -/
def unhexs (l : List UInt8) : Nat := l.foldl (fun n c => n * 16 + unhex c) 0
theorem snoc_ind {α : Type} {P : List α → Prop} (h0 : P []) (h1 : ∀ l a, P l → P (l ++ [a])) (l : List α) : P l := by
  rw [← l.reverse_reverse]
  induction l.reverse with
  | nil => exact h0
  | cons a t ih => simpa using h1 _ a ih
theorem unhexs_snoc (l : List UInt8) (c : UInt8) : unhexs (l ++ [c]) = unhexs l * 16 + unhex c := by simp [unhexs]
theorem unhexs_lt : ∀ (l : List UInt8), (∀ c ∈ l, unhex c < 16) → unhexs l < 16 ^ l.length := by
  refine snoc_ind (fun _ => by simp [unhexs]) ?_
  · intro l c ih h
    have h1 := ih fun x hx => h x (by simp [hx])
    have h2 := h c (by simp)
    rw [unhexs_snoc, List.length_append, List.length_singleton, Nat.pow_succ]
    omega
theorem hexs_unhexs : ∀ (l : List UInt8), (∀ c ∈ l, unhex c < 16) → hexs l.length (unhexs l) = l := by
  refine snoc_ind (fun _ => rfl) ?_
  · intro l c ih h
    have h1 := ih fun x hx => h x (by simp [hx])
    have h2 := h c (by simp)
    rw [List.length_append, List.length_singleton, hexs_low, unhexs_snoc, show (unhexs l * 16 + unhex c) / 16 = unhexs l by omega, show (unhexs l * 16 + unhex c) % 16 = unhex c by omega, h1, hexd_unhex c h2]
theorem hexs_good : ∀ (k n : Nat), ∀ c ∈ hexs k n, unhex c < 16
  | 0, n, c, h => by simp [hexs] at h
  | k + 1, n, c, h => by
    simp only [hexs, List.mem_cons] at h
    rcases h with rfl | h
    · rw [unhex_hexd _ (Nat.mod_lt _ (by omega))]; exact Nat.mod_lt _ (by omega)
    · exact hexs_good k n c h
theorem unhexs_hexs : ∀ (k n : Nat), n < 16 ^ k → unhexs (hexs k n) = n
  | 0, n, h => by have : n = 0 := by simpa using h
                  subst this; rfl
  | k + 1, n, h => by
    rw [hexs_low, unhexs_snoc, unhexs_hexs k (n / 16) (by rw [Nat.pow_succ] at h; exact Nat.div_lt_of_lt_mul (by rw [Nat.mul_comm]; exact h)), unhex_hexd _ (Nat.mod_lt _ (by omega))]
    omega
end Go.Proofs.YtphchggabcbfkaaDoor
