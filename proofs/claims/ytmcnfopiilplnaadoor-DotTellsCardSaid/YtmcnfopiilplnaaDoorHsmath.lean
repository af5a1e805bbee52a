/- The document's Sort: one by one, each put where it belongs: no memory here. -/
import Derived.Test.YtmcnfopiilplnaaDoorDsmath
namespace Go.Proofs.YtmcnfopiilplnaaDoor
open Go.RowKit Go.Sort Go.Lib
set_option linter.unusedSimpArgs false
set_option linter.unusedVariables false

/-- How many of a rising list come ahead. -/
def cntD (x : Int × Int) : List (Int × Int) → Nat
  | [] => 0
  | y :: l => if LtP y x then cntD x l + 1 else 0
/-- One more, if it is not there. -/
def insD (x : Int × Int) (l : List (Int × Int)) : List (Int × Int) :=
  if l[cntD x l]? = some x then l else l.take (cntD x l) ++ x :: l.drop (cntD x l)
theorem cntD_le (x : Int × Int) : ∀ l, cntD x l ≤ l.length
  | [] => Nat.le_refl _
  | y :: l => by unfold cntD; split <;> have := cntD_le x l <;> simp <;> omega
theorem cntD_lt (x : Int × Int) : ∀ (l : List (Int × Int)) (i : Nat) (y : Int × Int), l[i]? = some y → i < cntD x l → LtP y x
  | [], i, y, h, _ => by simp at h
  | z :: l, 0, y, h, hi => by
    simp at h; subst h
    unfold cntD at hi
    split at hi
    · assumption
    · omega
  | z :: l, i + 1, y, h, hi => by
    unfold cntD at hi
    split at hi
    · exact cntD_lt x l i y (by simpa using h) (by omega)
    · omega
theorem cntD_at (x : Int × Int) : ∀ (l : List (Int × Int)) (y : Int × Int), l[cntD x l]? = some y → ¬ LtP y x
  | [], y, h => by simp at h
  | z :: l, y, h => by
    unfold cntD at h
    split at h
    · exact cntD_at x l y (by simpa using h)
    · simp at h; subst h; assumption
theorem cntD_is (x : Int × Int) (l : List (Int × Int)) (k : Nat) (h1 : ∀ i y, l[i]? = some y → i < k → LtP y x) (hk : k ≤ l.length) (h2 : ∀ y, l[k]? = some y → ¬ LtP y x) : cntD x l = k := by
  rcases Nat.lt_trichotomy (cntD x l) k with h | h | h
  · have hlt : cntD x l < l.length := by omega
    exact absurd (h1 _ _ (List.getElem?_eq_getElem hlt) h) (cntD_at x l _ (List.getElem?_eq_getElem hlt))
  · exact h
  · have hlt : k < l.length := by have := cntD_le x l; omega
    exact absurd (cntD_lt x l k _ (List.getElem?_eq_getElem hlt) h) (h2 _ (List.getElem?_eq_getElem hlt))
theorem insD_len (x : Int × Int) (l : List (Int × Int)) : (insD x l).length ≤ l.length + 1 := by
  unfold insD
  have := cntD_le x l
  split <;> simp <;> omega
theorem insD_mem (x y : Int × Int) (l : List (Int × Int)) : y ∈ insD x l ↔ y = x ∨ y ∈ l := by
  unfold insD
  split
  · rename_i h
    constructor
    · exact .inr
    · rintro (rfl | h2)
      · exact List.mem_of_getElem? h
      · exact h2
  · rw [List.mem_append, List.mem_cons]
    conv => rhs; rw [← List.take_append_drop (cntD x l) l, List.mem_append]
    constructor
    · rintro (h | h | h)
      · exact .inr (.inl h)
      · exact .inl h
      · exact .inr (.inr h)
    · rintro (h | h | h)
      · exact .inr (.inl h)
      · exact .inl h
      · exact .inr (.inr h)
theorem insD_strict (x : Int × Int) (l : List (Int × Int)) (h : l.Pairwise LtP) : (insD x l).Pairwise LtP := by
  unfold insD
  split
  · exact h
  · rename_i hne
    have hs : (l.take (cntD x l) ++ l.drop (cntD x l)).Pairwise LtP := by rw [List.take_append_drop]; exact h
    rw [List.pairwise_append] at hs ⊢
    obtain ⟨a, b, c⟩ := hs
    have hd : ∀ y ∈ l.drop (cntD x l), LtP x y := by
      cases hdr : l.drop (cntD x l) with
      | nil => simp
      | cons z r =>
        have hz : l[cntD x l]? = some z := by
          have := List.getElem?_drop (xs := l) (i := cntD x l) (j := 0)
          rw [hdr] at this
          simpa using this.symm
        have h1 := cntD_at x l z hz
        have hxz : LtP x z := Decidable.byContradiction fun hc => hne (by rw [hz, LtP.conn h1 hc])
        rw [hdr, List.pairwise_cons] at b
        intro y hy
        rcases List.mem_cons.1 hy with rfl | hy
        · exact hxz
        · exact hxz.tr (b.1 y hy)
    have ht : ∀ y ∈ l.take (cntD x l), LtP y x := by
      intro y hy
      obtain ⟨i, hi, e⟩ := List.getElem_of_mem hy
      rw [List.length_take] at hi
      rw [List.getElem_take] at e
      subst e
      exact cntD_lt x l i _ (List.getElem?_eq_getElem (by omega)) (by omega)
    refine ⟨a, ?_, ?_⟩
    · rw [List.pairwise_cons]; exact ⟨hd, b⟩
    · intro y hy z hz
      rcases List.mem_cons.1 hz with rfl | hz
      · exact ht y hy
      · exact c y hy z hz
/-- All of a list, one by one. -/
def insAll (xs : List (Int × Int)) : List (Int × Int) := xs.foldl (fun l x => insD x l) []
theorem insAll_snoc (xs : List (Int × Int)) (x : Int × Int) : insAll (xs ++ [x]) = insD x (insAll xs) := by simp [insAll]
theorem insAll_props (xs : List (Int × Int)) : (insAll xs).Pairwise LtP ∧ (∀ x, x ∈ insAll xs ↔ x ∈ xs) ∧ (insAll xs).length ≤ xs.length := by
  have : ∀ m : List (Int × Int), (insAll m.reverse).Pairwise LtP ∧ (∀ x, x ∈ insAll m.reverse ↔ x ∈ m.reverse) ∧ (insAll m.reverse).length ≤ m.length := by
    intro m
    induction m with
    | nil => simp [insAll]
    | cons y m ih =>
      rw [List.reverse_cons, insAll_snoc]
      refine ⟨insD_strict _ _ ih.1, fun x => ?_, ?_⟩
      · rw [insD_mem, ih.2.1, List.mem_append, List.mem_singleton]
        constructor
        · rintro (h | h); exact .inr h; exact .inl h
        · rintro (h | h); exact .inr h; exact .inl h
      · have := insD_len y (insAll m.reverse)
        simp; omega
  have h := this xs.reverse
  rw [List.reverse_reverse, List.length_reverse] at h
  exact h
theorem insAll_sortD (xs : List (Int × Int)) : insAll xs = sortD xs := by
  refine strict_ext (insAll_props xs).1 (sortD_strict xs).1 fun x => ?_
  rw [(insAll_props xs).2.1, (sortD_strict xs).2]
end Go.Proofs.YtmcnfopiilplnaaDoor
