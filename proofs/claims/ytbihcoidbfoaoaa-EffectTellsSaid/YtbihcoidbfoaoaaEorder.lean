/- The order of effects; the walk of EffectOrder. -/
import Derived.Test.YtbihcoidbfoaoaaElaw
import Derived.Test.YtbihcoidbfoaoaaEmath
import Derived.Test.YtbihcoidbfoaoaaEfv
namespace Go.Proofs.Ytbihcoidbfoaoaa
open Go.RowKit
set_option linter.unusedSimpArgs false

theorem cmpI_swap (a b : Int) : cmpI b a = - cmpI a b := by
  unfold cmpI
  split <;> split <;> (try split) <;> omega
theorem cmpB_swap : ∀ (a b : List UInt8), Lib.compareBytes b a = - Lib.compareBytes a b
  | [], [] => by simp [Lib.compareBytes]
  | [], _ :: _ => by simp [Lib.compareBytes]
  | _ :: _, [] => by simp [Lib.compareBytes]
  | x :: a, y :: b => by
    unfold Lib.compareBytes
    have ih := cmpB_swap a b
    by_cases h : x < y
    · have h' : ¬ y < x := fun h' => UInt8.lt_irrefl _ (UInt8.lt_trans h h')
      simp [h, h']
    · by_cases h' : y < x
      · simp [h, h']
      · simp [h, h', ih]
theorem or3_neg (a b c : Int) : or3 (-a) (-b) (-c) = - or3 a b c := by
  unfold or3
  split <;> split <;> (try split) <;> (try split) <;> omega
theorem cmpE_swap (k m k' m' : Int) (xs ys : List UInt8) : cmpE k' m' ys k m xs = - cmpE k m xs k' m' ys := by
  unfold cmpE
  rw [cmpI_swap k k', cmpI_swap m m', cmpB_swap xs ys, or3_neg]
theorem cmpE_self (k m : Int) (xs : List UInt8) : cmpE k m xs k m xs = 0 := cmpE_zero.2 ⟨rfl, rfl, rfl⟩
theorem cmpB_trans : ∀ (a b c : List UInt8), Lib.compareBytes a b < 0 → Lib.compareBytes b c < 0 → Lib.compareBytes a c < 0
  | [], [], _, h, _ => by simp [Lib.compareBytes] at h
  | _ :: _, [], _, h, _ => by simp [Lib.compareBytes] at h
  | _, _ :: _, [], _, h => by simp [Lib.compareBytes] at h
  | [], _ :: _, _ :: _, _, _ => by simp [Lib.compareBytes]
  | x :: a, y :: b, z :: c, h1, h2 => by
    have ih := cmpB_trans a b c
    unfold Lib.compareBytes at h1 h2 ⊢
    by_cases hxy : x < y
    · by_cases hyz : y < z
      · rw [if_pos (UInt8.lt_trans hxy hyz)]; omega
      · by_cases hzy : z < y
        · rw [if_neg hyz, if_pos hzy] at h2; omega
        · have : y = z := UInt8.le_antisymm (UInt8.not_lt.1 hzy) (UInt8.not_lt.1 hyz)
          subst this
          rw [if_pos hxy]; omega
    · by_cases hyx : y < x
      · rw [if_neg hxy, if_pos hyx] at h1; omega
      · have : x = y := UInt8.le_antisymm (UInt8.not_lt.1 hyx) (UInt8.not_lt.1 hxy)
        subst this
        rw [if_neg hxy, if_neg hxy] at h1
        by_cases hyz : x < z
        · rw [if_pos hyz]; omega
        · by_cases hzy : z < x
          · rw [if_neg hyz, if_pos hzy] at h2; omega
          · rw [if_neg hyz, if_neg hzy] at h2 ⊢
            exact ih h1 h2
theorem cmpE_trans {k m k' m' k'' m'' : Int} {xs ys zs : List UInt8} (h1 : cmpE k m xs k' m' ys < 0) (h2 : cmpE k' m' ys k'' m'' zs < 0) : cmpE k m xs k'' m'' zs < 0 := by
  have hb := cmpB_trans xs ys zs
  have z1 := @cmpB_zero xs ys
  have z2 := @cmpB_zero ys zs
  unfold cmpE or3 cmpI at *
  by_cases e1 : k < k'
  · by_cases e2 : k' < k''
    · have : k < k'' := by omega
      simp [this]
    · by_cases e3 : k'' < k'
      · simp [e2, e3] at h2
      · have : k' = k'' := by omega
        subst this
        simp [e1]
  · by_cases e1' : k' < k
    · simp [e1, e1'] at h1
    · have : k = k' := by omega
      subst this
      simp only [Int.lt_irrefl, if_false, ne_eq, not_true_eq_false] at h1
      by_cases e2 : k < k''
      · simp [e2]
      · by_cases e3 : k'' < k
        · simp [e2, e3] at h2
        · have : k = k'' := by omega
          subst this
          simp only [Int.lt_irrefl, if_false, ne_eq, not_true_eq_false] at h2 ⊢
          by_cases f1 : m < m'
          · by_cases f2 : m' < m''
            · have : m < m'' := by omega
              simp [this]
            · by_cases f3 : m'' < m'
              · simp [f2, f3] at h2
              · have : m' = m'' := by omega
                subst this
                simp [f1]
          · by_cases f1' : m' < m
            · simp [f1, f1'] at h1
            · have : m = m' := by omega
              subst this
              simp only [Int.lt_irrefl, if_false, ne_eq, not_true_eq_false] at h1
              by_cases f2 : m < m''
              · simp [f2]
              · by_cases f3 : m'' < m
                · simp [f2, f3] at h2
                · have : m = m'' := by omega
                  subst this
                  simp only [Int.lt_irrefl, if_false, ne_eq, not_true_eq_false] at h2 ⊢
                  exact hb h1 h2
theorem effB_inj {k m k' m' : Int} {ys zs : List UInt8} (h : Fine k m ys.length) (h' : Fine k' m' zs.length) : effB k m ys = effB k' m' zs ↔ k = k' ∧ m = m' ∧ ys = zs := by
  constructor
  · intro e
    have r1 := readE_back h
    rw [e, readE_back h'] at r1
    simp at r1
    exact ⟨r1.1.symm, r1.2.1.symm, r1.2.2.symm⟩
  · rintro ⟨rfl, rfl, rfl⟩; rfl
end Go.Proofs.Ytbihcoidbfoaoaa
