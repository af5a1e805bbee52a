/- A dot's bytes read; the order of dots is that of their bytes: no memory here. -/
import Derived.Test.YtmcnfopiilplnaaDoorDread
import Derived.Test.YtmcnfopiilplnaaDoorDhparse
namespace Go.Proofs.YtmcnfopiilplnaaDoor
open Go.RowKit Go.Lib
set_option linter.unusedSimpArgs false
set_option linter.unusedVariables false

theorem u8_lt (a b : Nat) (ha : a < 256) (hb : b < 256) : (UInt8.ofNat a < UInt8.ofNat b) ↔ a < b := by
  rw [UInt8.lt_iff_toNat_lt, UInt8.toNat_ofNat', UInt8.toNat_ofNat', Nat.mod_eq_of_lt ha, Nat.mod_eq_of_lt hb]
theorem u8_eq (a : Nat) : UInt8.ofNat a = UInt8.ofNat (a % 256) := by
  apply UInt8.toNat_inj.1
  rw [UInt8.toNat_ofNat', UInt8.toNat_ofNat', show (2 : Nat) ^ 8 = 256 by rfl, Nat.mod_mod]
theorem less_cons (x y : UInt8) (xs ys : List UInt8) : Op.bytesLess (x :: xs) (y :: ys) = (decide (x < y) || (x == y && Op.bytesLess xs ys)) := by
  simp only [Op.bytesLess]
theorem two_digits (q a r b u : Nat) (hr : r < q) (hu : u < q) : (a < b ∨ a = b ∧ r < u) ↔ q * a + r < q * b + u := by
  rcases Nat.lt_trichotomy a b with h | h | h
  · have h1 := Nat.mul_le_mul_left q (show a + 1 ≤ b from h)
    rw [Nat.mul_succ] at h1
    omega
  · subst h; omega
  · have h1 := Nat.mul_le_mul_left q (show b + 1 ≤ a from h)
    rw [Nat.mul_succ] at h1
    omega
theorem less_be : ∀ (k s t : Nat), Op.bytesLess (be k s) (be k t) = decide (s % 256 ^ k < t % 256 ^ k)
  | 0, s, t => by simp [be, Op.bytesLess, Nat.mod_one]
  | k + 1, s, t => by
    simp only [be]
    rw [less_cons, less_be k s t, u8_eq (s / 256 ^ k), u8_eq (t / 256 ^ k)]
    have hq : 0 < 256 ^ k := Nat.pow_pos (by omega)
    have e1 : s % 256 ^ (k + 1) = 256 ^ k * (s / 256 ^ k % 256) + s % 256 ^ k := by rw [Nat.pow_succ, Nat.mod_mul]; omega
    have e2 : t % 256 ^ (k + 1) = 256 ^ k * (t / 256 ^ k % 256) + t % 256 ^ k := by rw [Nat.pow_succ, Nat.mod_mul]; omega
    rw [e1, e2]
    have h := two_digits (256 ^ k) (s / 256 ^ k % 256) (s % 256 ^ k) (t / 256 ^ k % 256) (t % 256 ^ k) (Nat.mod_lt _ hq) (Nat.mod_lt _ hq)
    have ha : s / 256 ^ k % 256 < 256 := Nat.mod_lt _ (by omega)
    have hb : t / 256 ^ k % 256 < 256 := Nat.mod_lt _ (by omega)
    have e3 : (UInt8.ofNat (s / 256 ^ k % 256) == UInt8.ofNat (t / 256 ^ k % 256)) = decide (s / 256 ^ k % 256 = t / 256 ^ k % 256) := by
      rw [Bool.eq_iff_iff, beq_iff_eq, decide_eq_true_eq]
      constructor
      · intro h
        have := congrArg UInt8.toNat h
        rwa [UInt8.toNat_ofNat', UInt8.toNat_ofNat', Nat.mod_eq_of_lt ha, Nat.mod_eq_of_lt hb] at this
      · intro h; rw [h]
    rw [e3, decide_eq_decide.2 (u8_lt _ _ ha hb), ← Bool.decide_and, ← Bool.decide_or]
    exact decide_eq_decide.2 h
theorem less_dot {a s b t : Int} (h : FineD a s) (k : FineD b t) : Op.bytesLess (dotB a s) (dotB b t) = decide (LtD a s b t) := by
  obtain ⟨h1, h2, h3, h4⟩ := h
  obtain ⟨k1, k2, k3, k4⟩ := k
  unfold dotB
  have hl := less_be 5 (a.toNat * 4294967296 + s.toNat) (b.toNat * 4294967296 + t.toNat)
  have e : ∀ n m : Nat, n < 256 → m < 4294967296 → be 5 (n * 4294967296 + m) = UInt8.ofNat n :: be 4 m := fun n m hn hm => by
    simp only [be]
    have e0 : (n * 4294967296 + m) / 256 ^ 4 = n := by omega
    rw [e0]
    congr 1
    have d3 : UInt8.ofNat ((n * 4294967296 + m) / 256 ^ 3) = UInt8.ofNat (m / 256 ^ 3) := by rw [u8_eq, u8_eq (m / 256 ^ 3)]; congr 1; omega
    have d2 : UInt8.ofNat ((n * 4294967296 + m) / 256 ^ 2) = UInt8.ofNat (m / 256 ^ 2) := by rw [u8_eq, u8_eq (m / 256 ^ 2)]; congr 1; omega
    have d1 : UInt8.ofNat ((n * 4294967296 + m) / 256 ^ 1) = UInt8.ofNat (m / 256 ^ 1) := by rw [u8_eq, u8_eq (m / 256 ^ 1)]; congr 1; omega
    have d0 : UInt8.ofNat ((n * 4294967296 + m) / 256 ^ 0) = UInt8.ofNat (m / 256 ^ 0) := by rw [u8_eq, u8_eq (m / 256 ^ 0)]; congr 1; omega
    rw [d3, d2, d1, d0]
  rw [e _ _ (by omega) (by omega), e _ _ (by omega) (by omega)] at hl
  rw [hl]
  refine decide_eq_decide.2 ?_
  unfold LtD
  rw [Nat.mod_eq_of_lt (by omega), Nat.mod_eq_of_lt (by omega)]
  omega
/-- A dot's bytes are read as it. -/
theorem readD_back {n s : Int} (h : FineD n s) : readD (dotB n s) = ((n, s), (0, 0)) := by
  have hf := h
  obtain ⟨h1, h2, h3, h4⟩ := h
  have e : dotB n s = [UInt8.ofNat n.toNat, UInt8.ofNat (s.toNat / 256 ^ 3), UInt8.ofNat (s.toNat / 256 ^ 2), UInt8.ofNat (s.toNat / 256 ^ 1), UInt8.ofNat (s.toNat / 256 ^ 0)] := rfl
  have er : readD (dotB n s) = if FineD ((UInt8.ofNat n.toNat).toNat) (val4 (UInt8.ofNat (s.toNat / 256 ^ 3)) (UInt8.ofNat (s.toNat / 256 ^ 2)) (UInt8.ofNat (s.toNat / 256 ^ 1)) (UInt8.ofNat (s.toNat / 256 ^ 0))) then ((((UInt8.ofNat n.toNat).toNat : Int), val4 (UInt8.ofNat (s.toNat / 256 ^ 3)) (UInt8.ofNat (s.toNat / 256 ^ 2)) (UInt8.ofNat (s.toNat / 256 ^ 1)) (UInt8.ofNat (s.toNat / 256 ^ 0))), ((0 : Int), (0 : Int))) else ((0, 0), (2, 0)) := by rw [e]; rfl
  have ev : val4 (UInt8.ofNat (s.toNat / 256 ^ 3)) (UInt8.ofNat (s.toNat / 256 ^ 2)) (UInt8.ofNat (s.toNat / 256 ^ 1)) (UInt8.ofNat (s.toNat / 256 ^ 0)) = s := by
    unfold val4
    simp only [UInt8.toNat_ofNat']
    omega
  have en : ((UInt8.ofNat n.toNat).toNat : Int) = n := by rw [UInt8.toNat_ofNat']; omega
  rw [er, ev, en, if_pos hf]
/-- What is read as a dot is its bytes. -/
theorem readD_again {xs : List UInt8} (h : (readD xs).2.1 = 0) : FineD (readD xs).1.1 (readD xs).1.2 ∧ dotB (readD xs).1.1 (readD xs).1.2 = xs := by
  by_cases h5 : xs.length = 5
  · obtain ⟨a, b, c, d, e, rfl⟩ : ∃ a b c d e, xs = [a, b, c, d, e] := by
      match xs, h5 with
      | [a, b, c, d, e], _ => exact ⟨a, b, c, d, e, rfl⟩
    have er : readD [a, b, c, d, e] = if FineD a.toNat (val4 b c d e) then (((a.toNat : Int), val4 b c d e), ((0 : Int), (0 : Int))) else ((0, 0), (2, 0)) := rfl
    by_cases hf : FineD a.toNat (val4 b c d e)
    · rw [er, if_pos hf]
      refine ⟨hf, ?_⟩
      have hb := b.toNat_lt
      have hc := c.toNat_lt
      have hd := d.toNat_lt
      have he := e.toNat_lt
      have u : ∀ (v : Nat) (x : UInt8), v % 256 = x.toNat → UInt8.ofNat v = x := fun v x hx => by
        apply UInt8.toNat_inj.1
        rw [UInt8.toNat_ofNat']; exact hx
      simp only [dotB, be, val4]
      rw [u _ a (by have := a.toNat_lt; omega), u _ b (by omega), u _ c (by omega), u _ d (by omega), u _ e (by omega)]
    · rw [er, if_neg hf] at h
      exact absurd h (by decide)
  · rw [readD_odd h5] at h
    exact absurd (show (4 : Int) = 0 from h) (by decide)
end Go.Proofs.YtmcnfopiilplnaaDoor
