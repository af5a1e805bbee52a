/- The writer's exported calls: Num, Text, Raw, Out. -/
import Derived.Test.YtelbahfmkpncaaaWr
namespace Go.Proofs.Ytelbahfmkpncaaa
open Go.RowKit

/-- What a writer has behind a number that is written. -/
def wNum (xs : List UInt8) (e : Int) (x : Int) : List UInt8 × Int :=
  if e ≠ 0 then (xs, e) else if x < 0 ∨ 4611686018427387903 < x then (xs, 5) else if 1048576 < 1 + nb x.toNat + xs.length then (xs, 3) else (xs ++ enc x.toNat, 0)
/-- What a writer has behind bytes that are written. -/
def wRaw (xs : List UInt8) (e : Int) (ys : List UInt8) : List UInt8 × Int :=
  if e ≠ 0 then (xs, e) else if 1048576 < 1 + nb ys.length + ys.length + xs.length then (xs, 3) else (xs ++ enc ys.length ++ ys, 0)

theorem Between.refl {w : World} {b g : Nat} {xs : List UInt8} {e : Int} (h : Wrt w b g xs e) : Between w w b g xs e := ⟨g, h, Chg.refl _ _, .inl rfl⟩
theorem Between.trans {a b c : World} {p g g' : Nat} {xs ys : List UInt8} {e e' : Int} (_h : Wrt b p g' xs e) (hc : Chg [p, g] a b) (hg : g' = g ∨ a.heap.size ≤ g') (k : Between b c p g' ys e') : Between a c p g ys e' := by
  obtain ⟨g2, h1, h2, h3⟩ := k
  have := hc.size
  refine ⟨g2, h1, hc.trans' h2 ?_, ?_⟩
  · intro i hi
    simp at hi ⊢
    rcases hi with rfl | rfl
    · exact .inl (.inl rfl)
    · rcases hg with rfl | hg
      · exact .inl (.inr rfl)
      · exact .inr hg
  · rcases h3 with rfl | h3
    · exact hg
    · right; omega

set_option maxHeartbeats 400000 in
theorem wnum_err (w : World) (b g : Nat) (xs : List UInt8) (e : Int) (x : Int) (h : Wrt w b g xs e) (he : (e != 0) = true) :
    Calls Try.prog 33 #[.pointer (some ⟨b, 0, none⟩), .int .i64 x] w fun r w' => r = .returned (.tuple #[]) ∧ w = w' := by
  obtain ⟨A, c, h1, _, _⟩ := id h
  have h0 := cell_of h1 2
  simp only [List.getElem?_toArray, List.getElem?_cons_zero, List.getElem?_cons_succ] at h0
  have H := Lib.hid h1
  clear h1
  go_enter Try.func33, Try.ntmps33
  go_wp2_with (go_at_call 53; refine (made_yes _ b g xs e h).mono ?_; rintro r w' ⟨rfl, rfl⟩)
  refine bodyPost_ret (results_none rfl _ _ _) rfl ?_
  exact ⟨rfl, rfl⟩

/-- What the range's error leaves. -/
def r_fin (w : World) (b g : Nat) (xs : List UInt8) : Prop := Between w (w.setCell ⟨b, 2, none⟩ (.int .i64 5)) b g xs 5

set_option maxHeartbeats 400000 in
theorem wnum_range (w : World) (b g : Nat) (xs : List UInt8) (x : Int) (h : Wrt w b g xs 0) (hx : x < 0 ∨ 4611686018427387903 < x) :
    Calls Try.prog 33 #[.pointer (some ⟨b, 0, none⟩), .int .i64 x] w fun r w' => r = .returned (.tuple #[]) ∧ Between w w' b g xs 5 := by
  obtain ⟨A, c, h1, h2, h3⟩ := id h
  have h0 := cell_of h1 2
  have k3 := free_of h1 2
  simp only [List.getElem?_toArray, List.getElem?_cons_zero, List.getElem?_cons_succ] at h0
  have H := Lib.hid h1
  have H3 := Lib.hid h3
  clear h1 h3
  have fin : r_fin w b g xs := by
    have q := heap_setCell_same w b 2 _ _ (.int .i64 5) H.out
    have hne := h2.ne H.out (by decide)
    refine ⟨g, ⟨A, c, by simpa using q, h2.keep fun g o eA ho => ?_, H3.out⟩, (Chg.refl _ _).setCell (by simp) _, .inl rfl⟩
    rw [Below.heap_setCell _ _ _ _ (by have := hne _ eA; exact this)]; exact ho
  have Fin := Lib.hid fin
  clear fin
  rcases hx with hx | hx
  all_goals
    go_enter Try.func33, Try.ntmps33
    go_wp2_with (go_at_call 53; refine (made_yes _ b g xs 0 h).mono ?_; rintro r w' ⟨rfl, rfl⟩)
    refine bodyPost_ret (results_none rfl _ _ _) rfl ?_
    exact ⟨rfl, Fin.out⟩

set_option maxHeartbeats 400000 in
theorem wnum_long (w : World) (b g : Nat) (xs : List UInt8) (x : Int) (h : Wrt w b g xs 0) (hlen : xs.length ≤ 1048576) (hx : 0 ≤ x) (hx2 : x ≤ 4611686018427387903) (hl : 1048576 < 1 + nb x.toNat + xs.length) :
    Calls Try.prog 33 #[.pointer (some ⟨b, 0, none⟩), .int .i64 x] w fun r w' => r = .returned (.tuple #[]) ∧ Between w w' b g xs 3 := by
  obtain ⟨A, c, h1, h2, h3⟩ := id h
  have h0 := cell_of h1 2
  simp only [List.getElem?_toArray, List.getElem?_cons_zero, List.getElem?_cons_succ] at h0
  have H := Lib.hid h1
  have H3 := Lib.hid h3
  clear h1 h3
  go_enter Try.func33, Try.ntmps33
  go_wp2_with (first
    | (go_at_call 53; refine (made_yes _ b g xs 0 h).mono ?_; rintro r w' ⟨rfl, rfl⟩)
    | (go_at_call 55; refine (width_any _ _ (by omega) (by omega)).mono ?_; rintro r w' ⟨rfl, rfl⟩)
    | (go_at_call 54; refine (fits_no _ b g xs _ h (by omega) (by omega)).mono ?_; rintro r w' ⟨rfl, hB⟩))
  go_end0
  exact ⟨rfl, hB⟩

set_option maxHeartbeats 400000 in
theorem wnum_fine (w : World) (b g : Nat) (xs : List UInt8) (x : Int) (h : Wrt w b g xs 0) (hlen : xs.length ≤ 1048576) (hx : 0 ≤ x) (hx2 : x ≤ 4611686018427387903) (hl : 1 + nb x.toNat + xs.length ≤ 1048576) :
    Calls Try.prog 33 #[.pointer (some ⟨b, 0, none⟩), .int .i64 x] w fun r w' => r = .returned (.tuple #[]) ∧ Between w w' b g (xs ++ enc x.toNat) 0 := by
  obtain ⟨A, c, h1, h2, h3⟩ := id h
  have h0 := cell_of h1 2
  simp only [List.getElem?_toArray, List.getElem?_cons_zero, List.getElem?_cons_succ] at h0
  have H := Lib.hid h1
  have H3 := Lib.hid h3
  clear h1 h3
  go_enter Try.func33, Try.ntmps33
  go_wp2_with (first
    | (go_at_call 53; refine (made_yes _ b g xs 0 h).mono ?_; rintro r w' ⟨rfl, rfl⟩)
    | (go_at_call 55; refine (width_any _ _ (by omega) (by omega)).mono ?_; rintro r w' ⟨rfl, rfl⟩)
    | (go_at_call 54; refine (fits_yes _ b g xs _ h (by omega) (by omega)).mono ?_; rintro r w' ⟨rfl, rfl⟩)
    | (go_at_call 57; refine (number_any _ b g xs 0 _ (by omega) (by omega) h (by omega)).mono ?_; rintro r w' ⟨rfl, hB⟩))
  go_end0
  exact ⟨rfl, hB⟩

/-- Num, whatever came ahead. -/
theorem wnum_any (w : World) (b g : Nat) (xs : List UInt8) (e x : Int) (h : Wrt w b g xs e) (hlen : xs.length ≤ 1048576) :
    Calls Try.prog 33 #[.pointer (some ⟨b, 0, none⟩), .int .i64 x] w fun r w' => r = .returned (.tuple #[]) ∧ Between w w' b g (wNum xs e x).1 (wNum xs e x).2 := by
  unfold wNum
  by_cases he : e = 0
  · subst he
    by_cases h1 : x < 0 ∨ 4611686018427387903 < x
    · simp only [ne_eq, not_true_eq_false, if_false, if_pos h1]; exact wnum_range w b g xs x h h1
    · by_cases h2 : 1048576 < 1 + nb x.toNat + xs.length
      · simp only [ne_eq, not_true_eq_false, if_false, if_neg h1, if_pos h2]; exact wnum_long w b g xs x h hlen (by omega) (by omega) h2
      · simp only [ne_eq, not_true_eq_false, if_false, if_neg h1, if_neg h2]; exact wnum_fine w b g xs x h hlen (by omega) (by omega) (by omega)
  · simp only [ne_eq, he, not_false_eq_true, if_true]
    exact (wnum_err w b g xs e x h (by simpa using he)).mono fun r w' ⟨h1, h2⟩ => ⟨h1, h2 ▸ Between.refl h⟩
end Go.Proofs.Ytelbahfmkpncaaa
