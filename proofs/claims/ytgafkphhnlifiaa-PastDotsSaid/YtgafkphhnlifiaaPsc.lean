/- past: a sweep's step, whatever is left. -/
import Derived.Test.YtgafkphhnlifiaaPsa
import Derived.Test.YtgafkphhnlifiaaPsb
namespace Go.Proofs.Ytgafkphhnlifiaa
section
open Go.RowKit Go.Lib
set_option linter.unusedSimpArgs false
set_option linter.unusedVariables false

theorem step_any (w : World) (g : Nat) (X : List Nat) (la lb : List Sp) (kf : Nat) (h : SwP w g X la lb kf) (hX : ∀ z ∈ X, z < w.heap.size) (ha : WfC la) (hb : WfC lb) (hne : la ≠ [] ∨ lb ≠ []) :
    Calls Try.prog 73 #[.pointer (some ⟨g, 0, none⟩)] w fun e w' => e = .returned (.tuple #[.agg #[.int .i64 (pieceP (hdP la) (hdP lb)).1, .int .i64 (pieceP (hdP la) (hdP lb)).2.1, .int .i64 (pieceP (hdP la) (hdP lb)).2.2], .bool (inP (hdP la) (hdP lb)), .bool (inP (hdP lb) (hdP la))]) ∧ SwP w' g X (leftP la (inP (hdP la) (hdP lb)) (pieceP (hdP la) (hdP lb)).2.2) (leftP lb (inP (hdP lb) (hdP la)) (pieceP (hdP la) (hdP lb)).2.2) kf ∧ Chg [g] w w' := by
  obtain ⟨A, c, B, d, h⟩ := h
  have so := step_ok ha hb hne
  have ok := so.ok
  unfold SpOk at ok
  have hto : Hid (0 ≤ (pieceP (hdP la) (hdP lb)).2.2 ∧ (pieceP (hdP la) (hdP lb)).2.2 ≤ 2147483647) := Lib.hid (by omega)
  have fine : ∀ l : List Sp, WfC l → -2147483648 ≤ (hdP l).2.2 ∧ (hdP l).2.2 ≤ 2147483647 ∧ -2147483648 ≤ (hdP l).2.1 ∧ (hdP l).2.1 ≤ 2147483647 := fun l hl => by
    cases l with
    | nil => rw [hd_nil]; decide
    | cons x r =>
      rw [hd_cons]
      have := hl.2 x (by simp)
      have o := hl.1.head.1
      unfold SpOk at o
      omega
  have fa := fine la ha
  have fb := fine lb hb
  have tri : inP (hdP la) (hdP lb) = true ∨ inP (hdP lb) (hdP la) = true := by
    simp only [inP, decide_eq_true_eq]; omega
  have none1 : ∀ (l m : List Sp), WfC m → (l ≠ [] ∨ m ≠ []) → inP (hdP l) (hdP m) = true → l ≠ [] := by
    intro l m hm hn hi e
    subst e
    cases m with
    | nil => exact hn.elim (fun z => z rfl) (fun z => z rfl)
    | cons y r =>
      have := hm.2 y (by simp)
      unfold inP at hi
      rw [hd_nil, hd_cons] at hi
      simp only [decide_eq_true_eq] at hi
      omega
  clear so ok fine
  cases h1 : inP (hdP la) (hdP lb) with
  | true =>
    cases la with
    | nil => exact absurd rfl (none1 _ _ hb hne h1)
    | cons x r =>
      rw [hd_cons] at *
      cases h2 : inP (hdP lb) x with
      | true =>
        cases lb with
        | nil => exact absurd rfl (none1 _ _ ha hne.symm h2)
        | cons y r2 =>
          rw [hd_cons] at *
          have e : pieceP x y = (x.1, x.2.1, min x.2.2 y.2.2) := by unfold pieceP; rw [if_pos ⟨h1, h2⟩]
          rw [e] at hto ⊢
          have q1 := h1
          have q2 := h2
          simp only [inP, decide_eq_true_eq] at q1 q2
          simp only [leftP, if_true]
          by_cases hm : x.2.2 ≤ y.2.2
          · have em : min x.2.2 y.2.2 = x.2.2 := by omega
            rw [em] at hto ⊢
            exact step_both_lt w g X kf A c B d x y r r2 (by omega) (by omega) hm h hX hto
          · have em : min x.2.2 y.2.2 = y.2.2 := by omega
            rw [em] at hto ⊢
            exact step_both_ge w g X kf A c B d x y r r2 (by omega) (by omega) hm h hX hto
      | false =>
        have e : pieceP x (hdP lb) = untilP x (hdP lb) := by unfold pieceP; rw [if_neg (by simp [h2]), if_pos h1]
        rw [e] at hto ⊢
        have q1 := h1
        have q2 := h2
        simp only [inP, decide_eq_true_eq, decide_eq_false_iff_not] at q1 q2
        simp only [leftP, if_true, Bool.false_eq_true, if_false]
        by_cases hlt : x.1 < (hdP lb).1
        · exact step_a_lt w g X kf A c B d x (hdP lb) r lb rfl hlt ⟨fa.1, fa.2.1⟩ ⟨fb.2.2.1, fb.2.2.2⟩ h hX hto
        · exact step_a_eq w g X kf A c B d x (hdP lb) r lb rfl (by omega) (by omega) ⟨fa.1, fa.2.1⟩ ⟨fb.2.2.1, fb.2.2.2⟩ h hX hto
  | false =>
    have h2 := tri.resolve_left (by simp [h1])
    rw [h2]
    cases lb with
    | nil => exact absurd rfl (none1 _ _ ha hne.symm h2)
    | cons y r2 =>
      rw [hd_cons] at *
      have e : pieceP (hdP la) y = untilP y (hdP la) := by unfold pieceP; rw [if_neg (by simp [h1]), if_neg (by simp [h1])]
      rw [e] at hto ⊢
      have q1 := h1
      have q2 := h2
      simp only [inP, decide_eq_true_eq, decide_eq_false_iff_not] at q1 q2
      simp only [leftP, if_true, Bool.false_eq_true, if_false]
      by_cases hlt : y.1 < (hdP la).1
      · exact step_b_lt w g X kf A c B d (hdP la) y r2 la rfl hlt ⟨fb.1, fb.2.1⟩ ⟨fa.2.2.1, fa.2.2.2⟩ h hX hto
      · exact step_b_eq w g X kf A c B d (hdP la) y r2 la rfl (by omega) (by omega) ⟨fb.1, fb.2.1⟩ ⟨fa.2.2.1, fa.2.2.2⟩ h hX hto
end
end Go.Proofs.Ytgafkphhnlifiaa
