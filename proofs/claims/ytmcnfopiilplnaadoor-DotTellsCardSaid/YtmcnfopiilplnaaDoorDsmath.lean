/- What is told once, in order: there is one such list. -/
import Derived.Test.YtmcnfopiilplnaaDoorDsorted
namespace Go.Proofs.YtmcnfopiilplnaaDoor
open Go.RowKit Go.Sort Go.Lib
set_option linter.unusedSimpArgs false
set_option linter.unusedVariables false

def LtP (x y : Int × Int) : Prop := LtD x.1 x.2 y.1 y.2
instance (x y : Int × Int) : Decidable (LtP x y) := by unfold LtP; exact inferInstance
theorem LtP.irr (x : Int × Int) : ¬ LtP x x := by unfold LtP LtD; omega
theorem LtP.tr {x y z : Int × Int} (h : LtP x y) (k : LtP y z) : LtP x z := by unfold LtP LtD at *; omega
theorem LtP.conn {x y : Int × Int} (h : ¬ LtP x y) (k : ¬ LtP y x) : x = y := by
  unfold LtP LtD at *
  refine Prod.ext ?_ ?_ <;> omega
/-- Two rising lists of the same elements are one. -/
theorem strict_ext : ∀ {l m : List (Int × Int)}, l.Pairwise LtP → m.Pairwise LtP → (∀ x, x ∈ l ↔ x ∈ m) → l = m
  | [], [], _, _, _ => rfl
  | [], y :: m, _, _, h => absurd ((h y).2 (by simp)) (by simp)
  | x :: l, [], _, _, h => absurd ((h x).1 (by simp)) (by simp)
  | x :: l, y :: m, hl, hm, h => by
    rw [List.pairwise_cons] at hl hm
    have hxy : x = y := by
      have h1 := (h x).1 (by simp)
      have h2 := (h y).2 (by simp)
      rw [List.mem_cons] at h1 h2
      rcases h1 with h1 | h1
      · exact h1
      · rcases h2 with h2 | h2
        · exact h2.symm
        · exact absurd ((hm.1 x h1).tr (hl.1 y h2)) (LtP.irr y)
    subst hxy
    congr 1
    refine strict_ext hl.2 hm.2 fun z => ?_
    have := h z
    rw [List.mem_cons, List.mem_cons] at this
    constructor
    · intro hz
      rcases this.1 (.inr hz) with e | e
      · subst e; exact absurd (hl.1 z hz) (LtP.irr z)
      · exact e
    · intro hz
      rcases this.2 (.inr hz) with e | e
      · subst e; exact absurd (hm.1 z hz) (LtP.irr z)
      · exact e
theorem sortL_sorted (xs : List (Int × Int)) : (sortL xs).Pairwise fun x y => ¬ LtP y x := by
  have h := List.pairwise_mergeSort (le := fun x y => !(ltOf cmpDD) y x) (fun a b c h1 h2 => by
    simp only [ltDD, Bool.not_eq_true', decide_eq_false_iff_not] at *
    unfold LtD at *; omega) (fun a b => by
    simp only [ltDD, Bool.or_eq_true, Bool.not_eq_true', decide_eq_false_iff_not] at *
    unfold LtD; omega) xs
  refine h.imp ?_
  intro a b hab
  simp only [ltDD, Bool.not_eq_true', decide_eq_false_iff_not] at hab
  exact hab
theorem sortL_mem (xs : List (Int × Int)) (x : Int × Int) : x ∈ sortL xs ↔ x ∈ xs := List.mem_mergeSort
theorem range_cmp (xs : List (Int × Int)) (m : Nat) (hm : m ≤ xs.length) (hs : xs.Pairwise fun x y => ¬ LtP y x) :
    (compactUpTo xs.toArray m).Pairwise LtP ∧ (∀ x, x ∈ compactUpTo xs.toArray m ↔ x ∈ xs.take m) := by
  induction m with
  | zero => simp [compactUpTo]
  | succ m ih =>
    obtain ⟨h1, h2⟩ := ih (by omega)
    have hml : m < xs.length := by omega
    have hx : xs.toArray[m]! = xs[m] := by rw [getElem!_pos xs.toArray m (by simpa using hml)]; simp
    have ht : xs.take (m + 1) = xs.take m ++ [xs[m]] := List.take_succ_eq_append_getElem hml
    have hlo : ∀ a ∈ xs.take m, ¬ LtP xs[m] a := by
      intro a ha
      obtain ⟨i, hi, e⟩ := List.getElem_of_mem ha
      rw [List.length_take] at hi
      rw [List.getElem_take] at e
      subst e
      exact List.pairwise_iff_getElem.1 hs i m (by omega) hml (by omega)
    rw [compactUpTo_succ, ht, hx]
    by_cases hk : keeps xs.toArray m = true
    · rw [if_pos hk]
      refine ⟨?_, fun x => by rw [List.mem_append, List.mem_append, h2]⟩
      rw [List.pairwise_append]
      refine ⟨h1, by simp, fun a ha b hb => ?_⟩
      rw [List.mem_singleton] at hb
      subst hb
      have ha2 := (h2 a).1 ha
      refine Decidable.byContradiction fun hc => ?_
      have e : a = xs[m] := LtP.conn hc (hlo a ha2)
      -- a is xs[m] and lies ahead: all between are it, so xs[m-1] is it
      simp only [keeps, decide_eq_true_eq] at hk
      rcases hk with hk | hk
      · subst hk; simp at ha2
      · apply hk
        rw [hx, getElem!_pos xs.toArray (m - 1) (by simp; omega)]
        obtain ⟨i, hi, e2⟩ := List.getElem_of_mem ha2
        rw [List.length_take] at hi
        rw [List.getElem_take] at e2
        have h0 : 0 < m := by omega
        by_cases him : i = m - 1
        · subst him; simp only [List.getElem_toArray]; rw [e2, e]
        · have p1 := List.pairwise_iff_getElem.1 hs i (m - 1) (by omega) (by omega) (by omega)
          have p2 := List.pairwise_iff_getElem.1 hs (m - 1) m (by omega) hml (by omega)
          rw [e2, e] at p1
          simp only [List.getElem_toArray]
          exact (LtP.conn p1 p2).symm
    · rw [if_neg hk, List.append_nil]
      refine ⟨h1, fun x => ?_⟩
      rw [h2, List.mem_append, List.mem_singleton]
      constructor
      · exact .inl
      · rintro (h | rfl)
        · exact h
        · simp only [keeps, decide_eq_true_eq, not_or, Decidable.not_not, ne_eq] at hk
          obtain ⟨h0, he⟩ := hk
          rw [hx, getElem!_pos xs.toArray (m - 1) (by simp; omega)] at he
          simp only [List.getElem_toArray] at he
          rw [he]
          exact List.mem_iff_getElem.2 ⟨m - 1, by rw [List.length_take]; omega, by rw [List.getElem_take]⟩
theorem sortD_strict (xs : List (Int × Int)) : (sortD xs).Pairwise LtP ∧ ∀ x, x ∈ sortD xs ↔ x ∈ xs := by
  obtain ⟨h1, h2⟩ := range_cmp (sortL xs) (sortL xs).length (Nat.le_refl _) (sortL_sorted xs)
  refine ⟨h1, fun x => ?_⟩
  show x ∈ compactUpTo (sortL xs).toArray (sortL xs).length ↔ _
  rw [h2, List.take_length, sortL_mem]
theorem sortD_three : sortD [(2, 1), (1, 9), (2, 1)] = [(1, 9), (2, 1)] := by
  refine strict_ext (sortD_strict _).1 (by decide) fun x => ?_
  rw [(sortD_strict _).2]
  simp only [List.mem_cons, List.not_mem_nil, or_false]
  constructor
  · rintro (h | h | h)
    · exact .inr h
    · exact .inl h
    · exact .inr h
  · rintro (h | h)
    · exact .inr (.inl h)
    · exact .inl h
end Go.Proofs.YtmcnfopiilplnaaDoor
