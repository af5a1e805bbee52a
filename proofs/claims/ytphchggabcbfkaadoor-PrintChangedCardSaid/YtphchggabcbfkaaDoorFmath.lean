/- One byte changed changes the fingerprint. -/
import Derived.Test.YtphchggabcbfkaaDoorGet
import Derived.Test.YtphchggabcbfkaaDoorRound
namespace Go.Proofs.YtphchggabcbfkaaDoor
open Go.RowKit
set_option linter.unusedSimpArgs false
set_option linter.unusedVariables false

theorem mul_back (a C D M q : Nat) (h : C * D = M * q + 1) : a * C % M * D % M = a % M := by
  rw [Nat.mul_mod, Nat.mod_mod, ← Nat.mul_mod, Nat.mul_assoc, h, Nat.mul_add, Nat.mul_one, Nat.mul_left_comm, Nat.mul_add_mod]
theorem mul_inj (a b C D M q : Nat) (h : C * D = M * q + 1) (ha : a < M) (hb : b < M) (e : a * C % M = b * C % M) : a = b := by
  have := mul_back a C D M q h
  rw [e, mul_back b C D M q h, Nat.mod_eq_of_lt ha, Nat.mod_eq_of_lt hb] at this
  exact this.symm
theorem xor_lt (s : Nat) (x : UInt8) (h : s < 2 ^ 64) : s ^^^ x.toNat < 2 ^ 64 := Nat.xor_lt_two_pow h (by have := x.toNat_lt; omega)
theorem fnv1_any_inj (C D q s s' : Nat) (x x' : UInt8) (hC : C * D = 2 ^ 64 * q + 1) (h : s < 2 ^ 64) (h' : s' < 2 ^ 64) (e : ((s ^^^ x.toNat) * C) % 2 ^ 64 = ((s' ^^^ x'.toNat) * C) % 2 ^ 64) : s ^^^ x.toNat = s' ^^^ x'.toNat :=
  mul_inj _ _ C D _ q hC (xor_lt s x h) (xor_lt s' x' h') e
theorem fnv1_xor (s s' : Nat) (x x' : UInt8) (h : s < 18446744073709551616) (h' : s' < 18446744073709551616) (e : fnv1 s x = fnv1 s' x') : s ^^^ x.toNat = s' ^^^ x'.toNat :=
  fnv1_any_inj 1099511628211 14886173955864302971 887285111055 s s' x x' (by decide +kernel) h h' e
theorem xor_r {a b c : Nat} (e : a ^^^ c = b ^^^ c) : a = b := by
  have := congrArg (· ^^^ c) e
  simpa [Nat.xor_assoc] using this
theorem xor_l {a b c : Nat} (e : a ^^^ b = a ^^^ c) : b = c := by
  rw [Nat.xor_comm a b, Nat.xor_comm a c] at e
  exact xor_r e
theorem fnv1_state (s s' : Nat) (x : UInt8) (h : s < 18446744073709551616) (h' : s' < 18446744073709551616) (e : fnv1 s x = fnv1 s' x) : s = s' :=
  xor_r (fnv1_xor s s' x x h h' e)
theorem fnv1_byte (s : Nat) (x x' : UInt8) (h : s < 18446744073709551616) (e : fnv1 s x = fnv1 s x') : x = x' :=
  UInt8.toNat_inj.1 (xor_l (fnv1_xor s s x x' h h e))
theorem fnv_inj (q : List UInt8) : ∀ (s s' : Nat), s < 18446744073709551616 → s' < 18446744073709551616 → fnv s q = fnv s' q → s = s' := by
  induction q with
  | nil => intro s s' _ _ e; exact e
  | cons x q ih => intro s s' h h' e; exact fnv1_state s s' x h h' (ih _ _ (fnv1_lt s x) (fnv1_lt s' x) e)
theorem fnv_mid (s : Nat) (p q : List UInt8) (x : UInt8) : fnv s (p ++ x :: q) = fnv (fnv1 (fnv s p) x) q := by unfold fnv; rw [List.foldl_append, List.foldl_cons]
theorem fnvS_mid (p q : List UInt8) (x x' : UInt8) (e : fnvS (p ++ x :: q) = fnvS (p ++ x' :: q)) : x = x' := by
  unfold fnvS at e
  rw [fnv_mid, fnv_mid] at e
  have hp := fnv_lt fnv0 p fnv0_lt
  exact fnv1_byte _ x x' hp (fnv_inj q _ _ (fnv1_lt _ x) (fnv1_lt _ x') e)
theorem sumB_inj {p q : List UInt8} (e : sumB p = sumB q) : fnvS p = fnvS q := by
  have h := congrArg val e
  unfold sumB at h
  rw [val_be, val_be] at h
  have h1 : fnvS p < 256 ^ 8 := fnv_lt _ _ fnv0_lt
  have h2 : fnvS q < 256 ^ 8 := fnv_lt _ _ fnv0_lt
  rwa [Nat.mod_eq_of_lt h1, Nat.mod_eq_of_lt h2] at h
theorem set_mid (zs : List UInt8) (i : Nat) (h : i < zs.length) (x : UInt8) : zs.set i x = zs.take i ++ x :: zs.drop (i + 1) := by
  rw [List.set_eq_take_append_cons_drop, if_pos h]
/-- Bytes of a packet of which one is changed are not whole. -/
theorem not_whole (zs : List UInt8) (i : Nat) (x : UInt8) (hi : i < (zs ++ sumB zs).length) (hx : x ≠ (zs ++ sumB zs)[i]) : ¬ whole ((zs ++ sumB zs).set i x) := by
  unfold whole
  rintro ⟨_, h⟩
  have hl : ((zs ++ sumB zs).set i x).length - 8 = zs.length := by simp [sumB_len]
  rw [hl] at h
  by_cases hz : i < zs.length
  · rw [List.set_append_left _ _ hz, List.take_left' (by simp), List.drop_left' (by simp)] at h
    rw [List.getElem_append_left hz] at hx
    have e : zs = zs.take i ++ zs[i] :: zs.drop (i + 1) := by simp
    have h2 := sumB_inj h
    rw [set_mid zs i hz] at h2
    conv at h2 => rhs; rw [e]
    exact hx (fnvS_mid _ _ _ _ h2)
  · have hz : zs.length ≤ i := by omega
    rw [List.set_append_right _ _ hz, List.take_left' rfl, List.drop_left' rfl] at h
    rw [List.getElem_append_right hz] at hx
    have h3 : i - zs.length < (sumB zs).length := by simp at hi; omega
    have h4 := List.getElem_of_eq h h3
    rw [List.getElem_set_self] at h4
    exact hx h4.symm
end Go.Proofs.YtphchggabcbfkaaDoor
