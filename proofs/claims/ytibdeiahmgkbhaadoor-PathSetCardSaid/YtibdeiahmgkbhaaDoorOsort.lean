/- A strict order of any elements: what is told once, in order, is one list; one more put where it belongs; what follows its equal left out. No memory here, no function of the program. -/
import Derived.Test.YtibdeiahmgkbhaaDoorBase
import Derived.Lib.SlicesCompact
namespace Go.Proofs.YtibdeiahmgkbhaaDoor
open Go.Lib
set_option linter.unusedSimpArgs false
set_option linter.unusedVariables false
structure OrdT {α : Type} (lt : α → α → Bool) : Prop where
  irr : ∀ x, lt x x = false
  tr : ∀ x y z, lt x y = true → lt y z = true → lt x z = true
  conn : ∀ x y, lt x y = false → lt y x = false → x = y
section
variable {α : Type} {lt : α → α → Bool}
/-- Rising. -/
def RiseT (lt : α → α → Bool) (l : List α) : Prop := l.Pairwise fun x y => lt x y = true
theorem rise_ext (O : OrdT lt) : ∀ {l m : List α}, RiseT lt l → RiseT lt m → (∀ x, x ∈ l ↔ x ∈ m) → l = m
  | [], [], _, _, _ => rfl
  | [], y :: m, _, _, h => absurd ((h y).2 (by simp)) (by simp)
  | x :: l, [], _, _, h => absurd ((h x).1 (by simp)) (by simp)
  | x :: l, y :: m, hl, hm, h => by
    unfold RiseT at hl hm
    rw [List.pairwise_cons] at hl hm
    have ir : ∀ {a}, ¬ lt a a = true := fun {a} h => by rw [O.irr] at h; cases h
    have hxy : x = y := by
      have h1 := (h x).1 (by simp)
      have h2 := (h y).2 (by simp)
      rw [List.mem_cons] at h1 h2
      rcases h1 with h1 | h1
      · exact h1
      · rcases h2 with h2 | h2
        · exact h2.symm
        · exact absurd (O.tr _ _ _ (hm.1 x h1) (hl.1 y h2)) ir
    subst hxy
    congr 1
    refine rise_ext O hl.2 hm.2 fun z => ?_
    have := h z
    rw [List.mem_cons, List.mem_cons] at this
    constructor
    · intro hz
      rcases this.1 (.inr hz) with e | e
      · subst e; exact absurd (hl.1 z hz) ir
      · exact e
    · intro hz
      rcases this.2 (.inr hz) with e | e
      · subst e; exact absurd (hm.1 z hz) ir
      · exact e
/-- How many of a list come ahead. -/
def cntT (lt : α → α → Bool) (x : α) : List α → Nat
  | [] => 0
  | y :: l => if lt y x then cntT lt x l + 1 else 0
theorem cntT_le (x : α) : ∀ l, cntT lt x l ≤ l.length
  | [] => Nat.le_refl _
  | y :: l => by unfold cntT; split <;> have := cntT_le x l <;> simp <;> omega
theorem cntT_lt (x : α) : ∀ (l : List α) (i : Nat) (y : α), l[i]? = some y → i < cntT lt x l → lt y x = true
  | [], i, y, h, _ => by simp at h
  | z :: l, 0, y, h, hi => by
    simp at h; subst h
    unfold cntT at hi
    split at hi
    · assumption
    · omega
  | z :: l, i + 1, y, h, hi => by
    unfold cntT at hi
    split at hi
    · exact cntT_lt x l i y (by simpa using h) (by omega)
    · omega
theorem cntT_at (x : α) : ∀ (l : List α) (y : α), l[cntT lt x l]? = some y → lt y x = false
  | [], y, h => by simp at h
  | z :: l, y, h => by
    unfold cntT at h
    split at h
    · exact cntT_at x l y (by simpa using h)
    · rename_i hz
      simp at h; subst h; simpa using hz
theorem cntT_is (x : α) (l : List α) (k : Nat) (h1 : ∀ i y, l[i]? = some y → i < k → lt y x = true) (hk : k ≤ l.length) (h2 : ∀ y, l[k]? = some y → lt y x = false) : cntT lt x l = k := by
  rcases Nat.lt_trichotomy (cntT lt x l) k with h | h | h
  · have hlt : cntT lt x l < l.length := by omega
    have a := h1 _ _ (List.getElem?_eq_getElem hlt) h
    rw [cntT_at x l _ (List.getElem?_eq_getElem hlt)] at a
    cases a
  · exact h
  · have hlt : k < l.length := by have := cntT_le (lt := lt) x l; omega
    have a := cntT_lt x l k _ (List.getElem?_eq_getElem hlt) h
    rw [h2 _ (List.getElem?_eq_getElem hlt)] at a
    cases a
section
variable [DecidableEq α]
/-- One more, if it is not there. -/
def insT (lt : α → α → Bool) (x : α) (l : List α) : List α :=
  if l[cntT lt x l]? = some x then l else l.take (cntT lt x l) ++ x :: l.drop (cntT lt x l)
theorem insT_len (x : α) (l : List α) : (insT lt x l).length ≤ l.length + 1 := by
  unfold insT
  have := cntT_le (lt := lt) x l
  split <;> simp <;> omega
theorem insT_mem (x y : α) (l : List α) : y ∈ insT lt x l ↔ y = x ∨ y ∈ l := by
  unfold insT
  split
  · rename_i h
    constructor
    · exact .inr
    · rintro (rfl | h2)
      · exact List.mem_of_getElem? h
      · exact h2
  · rw [List.mem_append, List.mem_cons]
    conv => rhs; rw [← List.take_append_drop (cntT lt x l) l, List.mem_append]
    constructor
    · rintro (h | h | h)
      · exact .inr (.inl h)
      · exact .inl h
      · exact .inr (.inr h)
    · rintro (h | h | h)
      · exact .inr (.inl h)
      · exact .inl h
      · exact .inr (.inr h)
theorem insT_rise (O : OrdT lt) (x : α) (l : List α) (h : RiseT lt l) : RiseT lt (insT lt x l) := by
  unfold insT
  split
  · exact h
  · rename_i hne
    have hs : RiseT lt (l.take (cntT lt x l) ++ l.drop (cntT lt x l)) := by rw [List.take_append_drop]; exact h
    unfold RiseT at *
    rw [List.pairwise_append] at hs ⊢
    obtain ⟨a, b, c⟩ := hs
    have hd : ∀ y ∈ l.drop (cntT lt x l), lt x y = true := by
      cases hdr : l.drop (cntT lt x l) with
      | nil => simp
      | cons z r =>
        have hz : l[cntT lt x l]? = some z := by
          have := List.getElem?_drop (xs := l) (i := cntT lt x l) (j := 0)
          rw [hdr] at this
          simpa using this.symm
        have h1 := cntT_at x l z hz
        have hxz : lt x z = true := by
          cases hc : lt x z with
          | true => rfl
          | false => exact absurd (by rw [hz, O.conn _ _ h1 hc]) hne
        rw [hdr, List.pairwise_cons] at b
        intro y hy
        rcases List.mem_cons.1 hy with rfl | hy
        · exact hxz
        · exact O.tr _ _ _ hxz (b.1 y hy)
    have ht : ∀ y ∈ l.take (cntT lt x l), lt y x = true := by
      intro y hy
      obtain ⟨i, hi, e⟩ := List.getElem_of_mem hy
      rw [List.length_take] at hi
      rw [List.getElem_take] at e
      subst e
      exact cntT_lt x l i _ (List.getElem?_eq_getElem (by omega)) (by omega)
    refine ⟨a, ?_, ?_⟩
    · rw [List.pairwise_cons]; exact ⟨hd, b⟩
    · intro y hy z hz
      rcases List.mem_cons.1 hz with rfl | hz
      · exact ht y hy
      · exact c y hy z hz
/-- All of a list, one by one. -/
def insAllT (lt : α → α → Bool) (xs : List α) : List α := xs.foldl (fun l x => insT lt x l) []
theorem insAllT_snoc (xs : List α) (x : α) : insAllT lt (xs ++ [x]) = insT lt x (insAllT lt xs) := by simp [insAllT]
theorem insAllT_props (O : OrdT lt) (xs : List α) : RiseT lt (insAllT lt xs) ∧ (∀ x, x ∈ insAllT lt xs ↔ x ∈ xs) ∧ (insAllT lt xs).length ≤ xs.length := by
  have : ∀ m : List α, RiseT lt (insAllT lt m.reverse) ∧ (∀ x, x ∈ insAllT lt m.reverse ↔ x ∈ m.reverse) ∧ (insAllT lt m.reverse).length ≤ m.length := by
    intro m
    induction m with
    | nil => simp [insAllT, RiseT]
    | cons y m ih =>
      rw [List.reverse_cons, insAllT_snoc]
      refine ⟨insT_rise O _ _ ih.1, fun x => ?_, ?_⟩
      · rw [insT_mem, ih.2.1, List.mem_append, List.mem_singleton]
        constructor
        · rintro (h | h); exact .inr h; exact .inl h
        · rintro (h | h); exact .inr h; exact .inl h
      · have := insT_len (lt := lt) y (insAllT lt m.reverse)
        simp; omega
  have h := this xs.reverse
  rw [List.reverse_reverse, List.length_reverse] at h
  exact h
theorem compact_rise [Inhabited α] (O : OrdT lt) (xs : List α) (m : Nat) (hm : m ≤ xs.length) (hs : xs.Pairwise fun x y => lt y x = false) :
    RiseT lt (compactUpTo xs.toArray m) ∧ (∀ x, x ∈ compactUpTo xs.toArray m ↔ x ∈ xs.take m) := by
  induction m with
  | zero => simp [compactUpTo, RiseT]
  | succ m ih =>
    obtain ⟨h1, h2⟩ := ih (by omega)
    have hml : m < xs.length := by omega
    have hx : xs.toArray[m]! = xs[m] := by rw [getElem!_pos xs.toArray m (by simpa using hml)]; simp
    have ht : xs.take (m + 1) = xs.take m ++ [xs[m]] := List.take_succ_eq_append_getElem hml
    have hlo : ∀ a ∈ xs.take m, lt xs[m] a = false := by
      intro a ha
      obtain ⟨i, hi, e⟩ := List.getElem_of_mem ha
      rw [List.length_take] at hi
      rw [List.getElem_take] at e
      subst e
      exact List.pairwise_iff_getElem.1 hs i m (by omega) hml (by omega)
    rw [compactUpTo_succ, ht, hx]
    by_cases hk : keeps xs.toArray m = true
    · rw [if_pos hk]
      refine ⟨?_, fun x => by rw [List.mem_append, List.mem_append, h2]⟩
      unfold RiseT at *
      rw [List.pairwise_append]
      refine ⟨h1, by simp, fun a ha b hb => ?_⟩
      rw [List.mem_singleton] at hb
      subst hb
      have ha2 := (h2 a).1 ha
      cases hc : lt a xs[m] with
      | true => rfl
      | false =>
      exfalso
      have e : a = xs[m] := O.conn _ _ hc (hlo a ha2)
      simp only [keeps, decide_eq_true_eq] at hk
      rcases hk with hk | hk
      · subst hk; simp at ha2
      · apply hk
        rw [hx, getElem!_pos xs.toArray (m - 1) (by simp; omega)]
        obtain ⟨i, hi, e2⟩ := List.getElem_of_mem ha2
        rw [List.length_take] at hi
        rw [List.getElem_take] at e2
        have h0 : 0 < m := by omega
        by_cases him : i = m - 1
        · subst him; simp only [List.getElem_toArray]; rw [e2, e]
        · have p1 := List.pairwise_iff_getElem.1 hs i (m - 1) (by omega) (by omega) (by omega)
          have p2 := List.pairwise_iff_getElem.1 hs (m - 1) m (by omega) hml (by omega)
          rw [e2, e] at p1
          simp only [List.getElem_toArray]
          exact O.conn _ _ p2 p1
    · rw [if_neg hk, List.append_nil]
      refine ⟨h1, fun x => ?_⟩
      rw [h2, List.mem_append, List.mem_singleton]
      constructor
      · exact .inl
      · rintro (h | rfl)
        · exact h
        · simp only [keeps, decide_eq_true_eq, not_or, Decidable.not_not, ne_eq] at hk
          obtain ⟨h0, he⟩ := hk
          rw [hx, getElem!_pos xs.toArray (m - 1) (by simp; omega)] at he
          simp only [List.getElem_toArray] at he
          rw [he]
          exact List.mem_iff_getElem.2 ⟨m - 1, by rw [List.length_take]; omega, by rw [List.getElem_take]⟩
theorem compact_ins [Inhabited α] (O : OrdT lt) (xs ys : List α) (hs : ys.Pairwise fun x y => lt y x = false) (hm : ∀ x, x ∈ ys ↔ x ∈ xs) : compactUpTo ys.toArray ys.length = insAllT lt xs := by
  obtain ⟨h1, h2⟩ := compact_rise O ys ys.length (Nat.le_refl _) hs
  refine rise_ext O h1 (insAllT_props O xs).1 fun x => ?_
  rw [h2, List.take_length, hm, (insAllT_props O xs).2.1]
end
end
end Go.Proofs.YtibdeiahmgkbhaaDoor
