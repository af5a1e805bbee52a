/- What is read is written as it was read: no memory here. -/
import Derived.Test.YtelbahfmkpncaaaRound
namespace Go.Proofs.Ytelbahfmkpncaaa
open Go.RowKit

theorem be_mod : ∀ (k a m : Nat), be k (a * 256 ^ k + m) = be k m
  | 0, _, _ => rfl
  | k + 1, a, m => by
    have e : a * 256 ^ (k + 1) + m = (a * 256) * 256 ^ k + m := by rw [Nat.pow_succ, Nat.mul_assoc, Nat.mul_comm 256]
    have hp : 0 < 256 ^ k := Nat.pow_pos (by omega)
    rw [e, be, be, be_mod k (a * 256) m]
    congr 1
    rw [Nat.add_comm, Nat.add_mul_div_right _ _ hp]
    apply UInt8.toNat_inj.1
    simp
theorem be_val : ∀ (ys : List UInt8), be ys.length (val ys) = ys
  | [] => rfl
  | c :: t => by
    have ht := val_lt t.length t rfl
    have hp : 0 < 256 ^ t.length := Nat.pow_pos (by omega)
    rw [List.length_cons, be, val_cons, be_mod, be_val t]
    congr 1
    rw [Nat.add_comm, Nat.add_mul_div_right _ _ hp, Nat.div_eq_of_lt ht, Nat.zero_add]
    simp
theorem dv_ge (xs : List UInt8) (p : Nat) : ∀ k, p + 1 + (k + 1) ≤ xs.length → bt xs (p + 1) * 256 ^ k ≤ dv xs p (k + 1)
  | 0, h => by
    have := dv_succ xs p 0 (by omega)
    rw [dv_zero, Nat.add_zero] at this
    rw [this, Nat.pow_zero]
    simp
  | k + 1, h => by
    have ih := dv_ge xs p k (by omega)
    have e := dv_succ xs p (k + 1) (by omega)
    rw [e, Nat.pow_succ, ← Nat.mul_assoc]
    omega
theorem nb_unique (v n : Nat) (hv : v < 18446744073709551616) (h1 : v < 256 ^ n) (h2 : 0 < n → 256 ^ (n - 1) ≤ v) : nb v = n := by
  obtain ⟨r1, r2⟩ := nb_range v hv
  rcases Nat.lt_trichotomy (nb v) n with h | h | h
  · have h3 := h2 (by omega)
    have h4 : 256 ^ nb v ≤ 256 ^ (n - 1) := Nat.pow_le_pow_right (by omega) (by omega)
    omega
  · exact h
  · have h0 : 0 < v := by
      rcases Nat.eq_zero_or_pos v with e | e
      · subst e; rw [nb_zero] at h; omega
      · exact e
    have h3 := (r2 h0).1
    have h4 : 256 ^ n ≤ 256 ^ (nb v - 1) := Nat.pow_le_pow_right (by omega) (by omega)
    omega

/-- A number that was read has just the bytes that it was read from. -/
theorem numAt_take {xs : List UInt8} {p : Nat} {low high : Int} {v q : Nat} (h : numAt xs p low high = .ok (v, q)) (hp : p ≤ xs.length) : xs.take q = xs.take p ++ enc v := by
  have hok := numAt_ok h hp
  unfold numAt at h
  split at h
  · cases h
  split at h
  · cases h
  split at h
  · cases h
  split at h
  · cases h
  split at h
  · cases h
  rename_i h1 h2 h3 h4 h5
  cases h
  have hn : nb (dv xs p (bt xs p)) = bt xs p := by
    refine nb_unique _ _ (by omega) (dv_lt xs p _ (by omega)) (fun h0 => ?_)
    obtain ⟨k, hk⟩ : ∃ k, bt xs p = k + 1 := ⟨bt xs p - 1, by omega⟩
    have := dv_ge xs p k (by omega)
    rw [hk, show k + 1 - 1 = k by omega]
    have hb : 1 ≤ bt xs (p + 1) := by
      rcases Nat.eq_zero_or_pos (bt xs (p + 1)) with e | e
      · exact absurd ⟨h0, e⟩ h4
      · exact e
    calc 256 ^ k = 1 * 256 ^ k := (Nat.one_mul _).symm
      _ ≤ bt xs (p + 1) * 256 ^ k := Nat.mul_le_mul_right _ hb
      _ ≤ _ := this
  have hlt : p < xs.length := by omega
  have e1 : xs.take (p + 1 + bt xs p) = xs.take p ++ (xs[p] :: ((xs.drop (p + 1)).take (bt xs p))) := by
    rw [Nat.add_assoc, List.take_add, List.drop_eq_getElem_cons hlt, Nat.add_comm 1, List.take_succ_cons]
  rw [e1]
  congr 1
  unfold enc
  rw [hn]
  have hlen : ((xs.drop (p + 1)).take (bt xs p)).length = bt xs p := by simp; omega
  congr 1
  · unfold bt
    simp [List.getD, hlt]
  · have := be_val ((xs.drop (p + 1)).take (bt xs p))
    rw [hlen] at this
    exact this.symm
/-- Bytes that were read have just the bytes that they were read from. -/
theorem rRaw_take {xs : List UInt8} {p : Nat} {fe fa most : Int} (hp : p ≤ xs.length) (he : (rRaw xs p fe fa most).2.2.1 = 0) :
    xs.take (rRaw xs p fe fa most).2.1 = xs.take p ++ (enc (rRaw xs p fe fa most).1.length ++ (rRaw xs p fe fa most).1) := by
  unfold rRaw at he ⊢
  split at he
  · rename_i h; exact absurd he h
  · rename_i h
    rw [if_neg h]
    cases hn : numAt xs p 0 4611686018427387903 with
    | error x =>
      obtain ⟨f, q⟩ := x
      simp only [hn] at he
      have := numAt_err hn
      omega
    | ok x =>
      obtain ⟨n, q⟩ := x
      have hok := numAt_ok hn hp
      simp only [hn] at he ⊢
      split at he
      · simp at he
      split at he
      · simp at he
      rename_i h1 h2
      rw [if_neg h1, if_neg h2]
      simp only
      have hl : ((xs.drop q).take n).length = n := by simp; omega
      rw [hl, ← List.append_assoc, ← numAt_take hn hp, List.take_add]
theorem rRaw_failed {xs : List UInt8} {p : Nat} {fe fa most : Int} (he : (rRaw xs p fe fa most).2.2.1 ≠ 0) :
    (rRaw xs p fe fa most).1 = [] ∧ (rRaw xs p fe fa most).2.1 = p ∧ (fe ≠ 0 → (rRaw xs p fe fa most).2.2.1 = fe ∧ (rRaw xs p fe fa most).2.2.2 = fa) := by
  unfold rRaw at he ⊢
  split at he
  · rename_i h; rw [if_pos h]; exact ⟨rfl, rfl, fun _ => ⟨rfl, rfl⟩⟩
  · rename_i h
    rw [if_neg h]
    have hz : fe = 0 := by simpa using h
    cases hn : numAt xs p 0 4611686018427387903 with
    | error x => exact ⟨rfl, rfl, fun e => absurd hz e⟩
    | ok x =>
      obtain ⟨n, q⟩ := x
      simp only [hn] at he ⊢
      split at he
      · rename_i h1; rw [if_pos h1]; exact ⟨rfl, rfl, fun e => absurd hz e⟩
      · rename_i h1
        rw [if_neg h1]
        split at he
        · rename_i h2; rw [if_pos h2]; exact ⟨rfl, rfl, fun e => absurd hz e⟩
        · simp at he
theorem rNum_take {xs : List UInt8} {p : Nat} {fe fa low high : Int} (hp : p ≤ xs.length) (he : (rNum xs p fe fa low high).2.2.1 = 0) :
    xs.take (rNum xs p fe fa low high).2.1 = xs.take p ++ enc (rNum xs p fe fa low high).1.toNat ∧ 0 ≤ (rNum xs p fe fa low high).1 ∧ (rNum xs p fe fa low high).1 ≤ 4611686018427387903 := by
  unfold rNum at he ⊢
  split at he
  · rename_i h; exact absurd he h
  · rename_i h
    rw [if_neg h]
    cases hn : numAt xs p low high with
    | error x =>
      obtain ⟨f, q⟩ := x
      simp only [hn] at he
      have := numAt_err hn
      omega
    | ok x =>
      obtain ⟨n, q⟩ := x
      have hok := numAt_ok hn hp
      exact ⟨numAt_take hn hp, by simp only; omega, by simp only; omega⟩
theorem rNum_failed {xs : List UInt8} {p : Nat} {fe fa low high : Int} (he : (rNum xs p fe fa low high).2.2.1 ≠ 0) :
    (rNum xs p fe fa low high).1 = 0 ∧ (rNum xs p fe fa low high).2.1 = p ∧ (fe ≠ 0 → (rNum xs p fe fa low high).2.2.1 = fe ∧ (rNum xs p fe fa low high).2.2.2 = fa) := by
  unfold rNum at he ⊢
  split at he
  · rename_i h; rw [if_pos h]; exact ⟨rfl, rfl, fun _ => ⟨rfl, rfl⟩⟩
  · rename_i h
    rw [if_neg h]
    have hz : fe = 0 := by simpa using h
    cases hn : numAt xs p low high with
    | error x => exact ⟨rfl, rfl, fun e => absurd hz e⟩
    | ok x => simp only [hn] at he; simp at he
end Go.Proofs.Ytelbahfmkpncaaa
