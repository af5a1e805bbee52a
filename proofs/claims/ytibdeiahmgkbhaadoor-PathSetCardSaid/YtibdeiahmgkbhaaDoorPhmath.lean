/- Paths, purely: the order of texts by their parts. -/
import Derived.Test.YtibdeiahmgkbhaaDoorPhcmp
namespace Go.Proofs.YtibdeiahmgkbhaaDoor
theorem cb_anti : ∀ x y : List UInt8, Lib.compareBytes y x = - Lib.compareBytes x y
  | [], [] => rfl
  | [], _ :: _ => rfl
  | _ :: _, [] => rfl
  | a :: x, b :: y => by
    unfold Lib.compareBytes
    by_cases h1 : a < b
    · have h2 : ¬ b < a := fun h => UInt8.lt_irrefl _ (UInt8.lt_trans h1 h)
      simp [h1, h2]
    · by_cases h2 : b < a
      · simp [h1, h2]
      · simp [h1, h2, cb_anti x y]
theorem cb_trans : ∀ x y z : List UInt8, Lib.compareBytes x y < 0 → Lib.compareBytes y z < 0 → Lib.compareBytes x z < 0
  | [], [], _, h, _ => by simp [Lib.compareBytes] at h
  | _ :: _, [], _, h, _ => by simp [Lib.compareBytes] at h
  | _, _ :: _, [], _, h => by simp [Lib.compareBytes] at h
  | [], _ :: _, _ :: _, _, _ => by simp [Lib.compareBytes]
  | a :: x, b :: y, c :: z, h, k => by
    unfold Lib.compareBytes at h k ⊢
    by_cases h1 : a < b
    · by_cases k1 : b < c
      · rw [if_pos (UInt8.lt_trans h1 k1)]; decide
      · rw [if_neg k1] at k
        by_cases k2 : c < b
        · rw [if_pos k2] at k; exact absurd k (by decide)
        · have : b = c := UInt8.le_antisymm (UInt8.not_lt.1 k2) (UInt8.not_lt.1 k1)
          subst this
          rw [if_pos h1]; decide
    · rw [if_neg h1] at h
      by_cases h2 : b < a
      · rw [if_pos h2] at h; exact absurd h (by decide)
      · have : a = b := UInt8.le_antisymm (UInt8.not_lt.1 h2) (UInt8.not_lt.1 h1)
        subst this
        rw [if_neg h2] at h
        by_cases k1 : a < c
        · rw [if_pos k1]; decide
        · rw [if_neg k1] at k ⊢
          by_cases k2 : c < a
          · rw [if_pos k2] at k; exact absurd k (by decide)
          · rw [if_neg k2] at k ⊢
            exact cb_trans x y z h k
theorem cmpT_anti : ∀ xs ys : List (List UInt8), cmpT ys xs = - cmpT xs ys
  | [], [] => rfl
  | [], _ :: _ => rfl
  | _ :: _, [] => rfl
  | x :: xs, y :: ys => by
    unfold cmpT
    rw [cb_anti x y, cmpT_anti xs ys]
    by_cases h : Lib.compareBytes x y = 0
    · rw [if_pos h, if_pos (by omega)]
    · rw [if_neg h, if_neg (by omega)]
theorem cmpT_zero : ∀ xs ys : List (List UInt8), cmpT xs ys = 0 → xs = ys
  | [], [], _ => rfl
  | [], _ :: _, h => by simp [cmpT] at h
  | _ :: _, [], h => by simp [cmpT] at h
  | x :: xs, y :: ys, h => by
    unfold cmpT at h
    split at h
    · rename_i h0
      rw [cb_zero x y h0, cmpT_zero xs ys h]
    · exact absurd h ‹_›
theorem cmpT_trans : ∀ xs ys zs : List (List UInt8), cmpT xs ys < 0 → cmpT ys zs < 0 → cmpT xs zs < 0
  | [], [], _, h, _ => by simp [cmpT] at h
  | _ :: _, [], _, h, _ => by simp [cmpT] at h
  | _, _ :: _, [], _, h => by simp [cmpT] at h
  | [], _ :: _, _ :: _, _, _ => by simp [cmpT]
  | x :: xs, y :: ys, z :: zs, h, k => by
    unfold cmpT at h k ⊢
    by_cases h0 : Lib.compareBytes x y = 0
    · have := cb_zero x y h0
      subst this
      rw [if_pos h0] at h
      by_cases k0 : Lib.compareBytes x z = 0
      · rw [if_pos k0] at k ⊢
        exact cmpT_trans xs ys zs h k
      · rw [if_neg k0] at k ⊢
        exact k
    · rw [if_neg h0] at h
      by_cases k0 : Lib.compareBytes y z = 0
      · have := cb_zero y z k0
        subst this
        rw [if_neg h0]
        exact h
      · rw [if_neg k0] at k
        have := cb_trans x y z h k
        rw [if_neg (by omega)]
        exact this
theorem cmpT_pre : ∀ (xs zs : List (List UInt8)), zs ≠ [] → cmpT xs (xs ++ zs) < 0
  | [], z :: zs, _ => by simp [cmpT]
  | x :: xs, zs, h => by
    rw [List.cons_append, cmpT, if_pos (cb_self x)]
    exact cmpT_pre xs zs h
theorem cmpT_mid : ∀ (xs ys zs : List (List UInt8)), cmpT xs ys < 0 → cmpT ys (xs ++ zs) < 0 → ∃ us, us ≠ [] ∧ ys = xs ++ us
  | [], [], _, h, _ => by simp [cmpT] at h
  | [], y :: ys, _, _, _ => ⟨y :: ys, by simp, rfl⟩
  | x :: xs, [], _, h, _ => by simp [cmpT] at h
  | x :: xs, y :: ys, zs, h, k => by
    rw [List.cons_append] at k
    unfold cmpT at h k
    rw [cb_anti x y] at k
    by_cases h0 : Lib.compareBytes x y = 0
    · rw [if_pos h0] at h
      rw [if_pos (by omega)] at k
      obtain ⟨us, hu, e⟩ := cmpT_mid xs ys zs h k
      exact ⟨us, hu, by rw [e, cb_zero x y h0]; rfl⟩
    · rw [if_neg h0] at h
      rw [if_neg (by omega)] at k
      omega
/-- Parts with the byte 47 between. -/
def unc : List (List UInt8) → List UInt8
  | [] => []
  | [x] => x
  | x :: y :: r => x ++ 47 :: unc (y :: r)
theorem unc_cons (x : List UInt8) (r : List (List UInt8)) (h : r ≠ []) : unc (x :: r) = x ++ 47 :: unc r := by
  cases r with
  | nil => exact absurd rfl h
  | cons y r => rfl
theorem unc_cut : ∀ (l acc : List UInt8), unc (cutA acc l) = acc ++ l
  | [], acc => by simp [cutA, unc]
  | b :: l, acc => by
    unfold cutA
    split
    · rename_i h
      rw [unc_cons _ _ (cutA_ne _ _), unc_cut l [], h]
      rfl
    · rw [unc_cut l _, List.append_assoc]
      rfl
theorem unc_app : ∀ (xs zs : List (List UInt8)), xs ≠ [] → zs ≠ [] → unc (xs ++ zs) = unc xs ++ 47 :: unc zs
  | [], _, h, _ => absurd rfl h
  | [x], zs, _, h => by rw [List.singleton_append, unc_cons x zs h]; rfl
  | x :: y :: r, zs, _, h => by
    rw [List.cons_append, unc_cons x _ (by simp), unc_app (y :: r) zs (by simp) h, unc_cons x (y :: r) (by simp), List.append_assoc]
    rfl
theorem cut_inj {a b : List UInt8} (h : cutL a = cutL b) : a = b := by
  have h1 := unc_cut a []
  have h2 := unc_cut b []
  rw [show cutA [] a = cutL a from rfl, h] at h1
  rw [show cutA [] b = cutL b from rfl] at h2
  rw [h2] at h1
  exact h1.symm
theorem cutA_app : ∀ (a acc t : List UInt8), cutA acc (a ++ 47 :: t) = cutA acc a ++ cutA [] t
  | [], acc, t => by simp [cutA]
  | x :: a, acc, t => by
    rw [List.cons_append]
    by_cases h : x = 47
    · have e1 : cutA acc (x :: (a ++ 47 :: t)) = acc :: cutA [] (a ++ 47 :: t) := by rw [cutA, if_pos h]
      have e2 : cutA acc (x :: a) = acc :: cutA [] a := by rw [cutA, if_pos h]
      rw [e1, e2, cutA_app a [] t]
      rfl
    · have e1 : cutA acc (x :: (a ++ 47 :: t)) = cutA (acc ++ [x]) (a ++ 47 :: t) := by rw [cutA, if_neg h]
      have e2 : cutA acc (x :: a) = cutA (acc ++ [x]) a := by rw [cutA, if_neg h]
      rw [e1, e2]
      exact cutA_app a _ t
theorem pre_cut {a b : List UInt8} (h : (a ++ [47]).isPrefixOf b = true) : ∃ zs, zs ≠ [] ∧ cutL b = cutL a ++ zs := by
  rw [List.isPrefixOf_iff_prefix] at h
  obtain ⟨t, rfl⟩ := h
  exact ⟨cutL t, cutA_ne _ _, by rw [List.append_assoc]; exact cutA_app a [] t⟩
theorem cut_pre {a b : List UInt8} {zs : List (List UInt8)} (hz : zs ≠ []) (h : cutL b = cutL a ++ zs) : (a ++ [47]).isPrefixOf b = true := by
  rw [List.isPrefixOf_iff_prefix]
  have h2 := unc_cut b []
  rw [show cutA [] b = cutL b from rfl, h, unc_app (cutL a) zs (cutA_ne [] a) hz, show cutL a = cutA [] a from rfl, unc_cut a [], List.nil_append, List.nil_append] at h2
  exact ⟨unc zs, by rw [← h2]; simp⟩
theorem less_self (a : List UInt8) : lessL a a = false := by simp [lessL, cmpT_self]
theorem less_not (a b : List UInt8) (h : lessL a b = true) : lessL b a = false := by
  simp only [lessL, decide_eq_true_eq, decide_eq_false_iff_not] at h ⊢
  rw [cmpT_anti (cutL a) (cutL b)]
  omega
theorem less_eq (a b : List UInt8) : (a == b) = (!lessL a b && !lessL b a) := by
  rw [Bool.eq_iff_iff]
  simp only [beq_iff_eq, lessL, Bool.and_eq_true, Bool.not_eq_true', decide_eq_false_iff_not]
  rw [cmpT_anti (cutL a) (cutL b)]
  constructor
  · rintro rfl
    rw [cmpT_self]
    omega
  · rintro ⟨h1, h2⟩
    exact cut_inj (cmpT_zero _ _ (by omega))
theorem less_trans (a b c : List UInt8) (h : lessL a b = true) (k : lessL b c = true) : lessL a c = true := by
  simp only [lessL, decide_eq_true_eq] at h k ⊢
  exact cmpT_trans _ _ _ h k
theorem under_less (a b : List UInt8) (h : underL a b = true) : lessL a b = true := by
  unfold underL at h
  simp only [Bool.and_eq_true] at h
  obtain ⟨zs, hz, e⟩ := pre_cut h.2
  simp only [lessL, decide_eq_true_eq, e]
  exact cmpT_pre _ _ hz
theorem under_mid (a b c : List UInt8) (h1 : lessL a b = true) (h2 : lessL b c = true) (h3 : underL a c = true) (h4 : okP b = true) : underL a b = true := by
  unfold underL at h3 ⊢
  simp only [Bool.and_eq_true] at h3 ⊢
  obtain ⟨zs, hz, e⟩ := pre_cut h3.2
  simp only [lessL, decide_eq_true_eq, e] at h1 h2
  obtain ⟨us, hu, e2⟩ := cmpT_mid _ _ zs h1 h2
  exact ⟨⟨h3.1.1, h4⟩, cut_pre hu e2⟩
theorem near_sym (a b : List UInt8) : nearL a b = nearL b a := by
  unfold nearL
  by_cases h : a = b
  · subst h; rfl
  · have h1 : (a == b) = false := by simpa using h
    have h2 : (b == a) = false := by simpa using fun e => h e.symm
    rw [h1, h2, Bool.false_and, Bool.false_and, Bool.false_or, Bool.false_or, Bool.or_comm]
end Go.Proofs.YtibdeiahmgkbhaaDoor
