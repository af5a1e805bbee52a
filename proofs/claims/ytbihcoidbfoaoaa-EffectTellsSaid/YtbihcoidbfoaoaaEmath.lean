/- An effect's bytes read as it; what reads as an effect is its bytes; where faults are: no memory here. -/
import Derived.Test.YtbihcoidbfoaoaaErd
import Derived.Test.YtbihcoidbfoaoaaAgain0
namespace Go.Proofs.Ytbihcoidbfoaoaa
open Go.RowKit

theorem rNum_go (pre rest : List UInt8) (n low high : Int) (h0 : 0 ≤ n) (h1 : n ≤ 4611686018427387903) (hl : low ≤ n) (hh : n ≤ high) (fa : Int) : rNum (pre ++ (enc n.toNat ++ rest)) pre.length 0 fa low high = (n, pre.length + (enc n.toNat).length, 0, fa) := by
  unfold rNum
  rw [if_neg (by simp), numAt_enc pre rest n.toNat low high (by omega) (by omega) (by omega)]
  simp only [enc_len, Prod.mk.injEq, and_true]
  omega
theorem rRaw_go (pre ys rest : List UInt8) (most fa : Int) (h : (ys.length : Int) ≤ most) (hy : ys.length ≤ 4611686018427387903) : rRaw (pre ++ ((enc ys.length ++ ys) ++ rest)) pre.length 0 fa most = (ys, pre.length + (enc ys.length ++ ys).length, 0, fa) := by
  unfold rRaw
  rw [if_neg (by simp), List.append_assoc, numAt_enc pre (ys ++ rest) ys.length 0 4611686018427387903 (by omega) (by omega) (by omega)]
  have hl : (pre ++ (enc ys.length ++ (ys ++ rest))).length = pre.length + (1 + nb ys.length) + ys.length + rest.length := by simp [enc_len]; omega
  simp only
  rw [if_neg (by omega), if_neg (by rw [hl]; omega)]
  have hd : (pre ++ (enc ys.length ++ (ys ++ rest))).drop (pre.length + 1 + nb ys.length) = ys ++ rest := by
    rw [← List.append_assoc, List.drop_append_of_le_length (by simp [enc_len]; omega)]
    have : (pre ++ enc ys.length).drop (pre.length + 1 + nb ys.length) = [] := List.drop_eq_nil_of_le (by simp [enc_len]; omega)
    rw [this, List.nil_append]
  rw [hd, List.take_left]
  simp [enc_len]
  omega

/-- An effect's bytes read as it. -/
theorem readE_back {k m : Int} {ys : List UInt8} (h : Fine k m ys.length) : readE (effB k m ys) = ((k, m, ys), 0, 0) := by
  obtain ⟨h1, h2, h3, h4, h5⟩ := fine_len h
  have hk : 1 ≤ k := by unfold Fine at h; omega
  have e : effB k m ys = [] ++ (enc k.toNat ++ (enc m.toNat ++ ((enc ys.length ++ ys) ++ []))) := by unfold effB; simp
  have n1 : eN1 (effB k m ys) = (k, (enc k.toNat).length, 0, 0) := by
    unfold eN1
    have := rNum_go [] (enc m.toNat ++ ((enc ys.length ++ ys) ++ [])) k 1 3 h1 (by omega) hk h2 0
    rw [e]
    simpa using this
  have n2 : eN2 (effB k m ys) = (m, (enc k.toNat ++ enc m.toNat).length, 0, 0) := by
    unfold eN2
    rw [n1]
    have e2 : effB k m ys = enc k.toNat ++ (enc m.toNat ++ ((enc ys.length ++ ys) ++ [])) := by unfold effB; simp
    rw [e2]
    simp only
    rw [rNum_go (enc k.toNat) _ m 0 511 h3 (by omega) h3 h4 0]
    simp
  have n3 : eR3 (effB k m ys) = (ys, (effB k m ys).length, 0, 0) := by
    unfold eR3
    rw [n2]
    have e3 : effB k m ys = (enc k.toNat ++ enc m.toNat) ++ ((enc ys.length ++ ys) ++ []) := by unfold effB; simp
    rw [e3]
    simp only
    rw [rRaw_go (enc k.toNat ++ enc m.toNat) ys [] 1000 0 (by omega) (by omega)]
    simp
    omega
  have nf : eF (effB k m ys) = (0, 0) := by
    unfold eF
    rw [n3]
    unfold endR
    simp
  unfold readE
  rw [nf, n1, n2, n3]
  simp [h]

/-- What reads as an effect without a fault is its bytes. -/
theorem readE_again {xs : List UInt8} (h : (readE xs).2.1 = 0) : Fine (readE xs).1.1 (readE xs).1.2.1 (readE xs).1.2.2.length ∧ effB (readE xs).1.1 (readE xs).1.2.1 (readE xs).1.2.2 = xs := by
  unfold readE at h ⊢
  by_cases hf : (eF xs).1 ≠ 0
  · rw [if_pos hf] at h; exact absurd h hf
  · rw [if_neg hf] at h ⊢
    by_cases hg : Fine (eN1 xs).1 (eN2 xs).1 (eR3 xs).1.length
    · rw [if_pos hg]
      refine ⟨hg, ?_⟩
      have hz : (eF xs).1 = 0 := by simpa using hf
      unfold eF at hz
      obtain ⟨z3, _, hp⟩ := endR_calm hz
      have z3' := z3
      unfold eR3 at z3'
      obtain ⟨z2, _⟩ := rRaw_calm z3'
      have z2' := z2
      unfold eN2 at z2'
      obtain ⟨z1, _⟩ := rNum_calm z2'
      have l1 : (eN1 xs).2.1 ≤ xs.length := by unfold eN1; exact rNum_le (by omega)
      have l2 : (eN2 xs).2.1 ≤ xs.length := by unfold eN2; exact rNum_le l1
      have t1 := (rNum_take (xs := xs) (p := 0) (fe := 0) (fa := 0) (low := 1) (high := 3) (by omega) (by unfold eN1 at z1; exact z1)).1
      have t2 := (rNum_take (xs := xs) l1 z2').1
      have t3 := rRaw_take (xs := xs) l2 z3'
      change xs.take (eN1 xs).2.1 = _ ++ enc (eN1 xs).1.toNat at t1
      change xs.take (eN2 xs).2.1 = _ ++ enc (eN2 xs).1.toNat at t2
      change xs.take (eR3 xs).2.1 = _ ++ (enc (eR3 xs).1.length ++ (eR3 xs).1) at t3
      rw [List.take_of_length_le hp, t2, t1] at t3
      unfold effB
      rw [List.take_zero, List.nil_append] at t3
      conv => rhs; rw [t3]
      simp
    · rw [if_neg hg] at h; simp at h

theorem numAt_place {xs : List UInt8} {p : Nat} {low high : Int} {f q : Nat} (h : numAt xs p low high = .error (f, q)) (hp : p ≤ xs.length) : q ≤ xs.length := by
  unfold numAt at h
  repeat (split at h; · (cases h; omega))
  cases h
theorem rNum_place {xs : List UInt8} {p : Nat} {fe fa low high : Int} (hp : p ≤ xs.length) (h0 : 0 ≤ fa) (h1 : fa ≤ xs.length) : 0 ≤ (rNum xs p fe fa low high).2.2.2 ∧ (rNum xs p fe fa low high).2.2.2 ≤ xs.length := by
  unfold rNum
  split
  · exact ⟨h0, h1⟩
  · cases hn : numAt xs p low high with
    | error x => obtain ⟨f, q⟩ := x; have := numAt_place hn hp; simp only; omega
    | ok x => exact ⟨h0, h1⟩
theorem rRaw_place {xs : List UInt8} {p : Nat} {fe fa most : Int} (hp : p ≤ xs.length) (h0 : 0 ≤ fa) (h1 : fa ≤ xs.length) : 0 ≤ (rRaw xs p fe fa most).2.2.2 ∧ (rRaw xs p fe fa most).2.2.2 ≤ xs.length := by
  unfold rRaw
  split
  · exact ⟨h0, h1⟩
  · cases hn : numAt xs p 0 4611686018427387903 with
    | error x => obtain ⟨f, q⟩ := x; have := numAt_place hn hp; simp only; omega
    | ok x =>
      obtain ⟨n, q⟩ := x
      simp only
      split
      · simp only; omega
      · split
        · simp only; omega
        · exact ⟨h0, h1⟩
theorem endR_place {xs : List UInt8} {p : Nat} {fe fa : Int} (_hp : p ≤ xs.length) (h0 : 0 ≤ fa) (h1 : fa ≤ xs.length) : 0 ≤ (endR xs p fe fa).2 ∧ (endR xs p fe fa).2 ≤ xs.length := by
  unfold endR
  split
  · simp only; omega
  · exact ⟨h0, h1⟩
/-- Behind a fault: nothing is told, and the fault lies in the bytes. -/
theorem readE_fault {xs : List UInt8} (h : (readE xs).2.1 ≠ 0) : (readE xs).1 = (0, 0, []) ∧ 0 ≤ (readE xs).2.2 ∧ (readE xs).2.2 ≤ xs.length := by
  unfold readE at h ⊢
  by_cases hf : (eF xs).1 ≠ 0
  · rw [if_pos hf]
    refine ⟨rfl, ?_⟩
    have l1 : (eN1 xs).2.1 ≤ xs.length := by unfold eN1; exact rNum_le (by omega)
    have l2 : (eN2 xs).2.1 ≤ xs.length := by unfold eN2; exact rNum_le l1
    have l3 : (eR3 xs).2.1 ≤ xs.length := by unfold eR3; exact (rRaw_le l2).2
    have p1 : 0 ≤ (eN1 xs).2.2.2 ∧ (eN1 xs).2.2.2 ≤ xs.length := by unfold eN1; exact rNum_place (by omega) (by omega) (by omega)
    have p2 : 0 ≤ (eN2 xs).2.2.2 ∧ (eN2 xs).2.2.2 ≤ xs.length := by unfold eN2; exact rNum_place l1 p1.1 p1.2
    have p3 : 0 ≤ (eR3 xs).2.2.2 ∧ (eR3 xs).2.2.2 ≤ xs.length := by unfold eR3; exact rRaw_place l2 p2.1 p2.2
    unfold eF
    exact endR_place l3 p3.1 p3.2
  · rw [if_neg hf] at h ⊢
    by_cases hg : Fine (eN1 xs).1 (eN2 xs).1 (eR3 xs).1.length
    · rw [if_pos hg] at h; simp at h
    · rw [if_neg hg]; exact ⟨rfl, by simp⟩
end Go.Proofs.Ytbihcoidbfoaoaa
