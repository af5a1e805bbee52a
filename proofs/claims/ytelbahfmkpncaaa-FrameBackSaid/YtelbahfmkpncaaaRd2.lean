/- The reader's number, whatever stands there; Num, Text and Raw. -/
import Derived.Test.YtelbahfmkpncaaaNm3
namespace Go.Proofs.Ytelbahfmkpncaaa
open Go.RowKit

/-- What is read at a place: a fault and where, or a number and where it ends. -/
def numAt (xs : List UInt8) (p : Nat) (low high : Int) : Except (Nat × Nat) (Nat × Nat) :=
  if p = xs.length then .error (4, xs.length)
  else if 8 < bt xs p then .error (2, p)
  else if xs.length - (p + 1) < bt xs p then .error (4, xs.length)
  else if 0 < bt xs p ∧ bt xs (p + 1) = 0 then .error (2, p)
  else if 4611686018427387903 < dv xs p (bt xs p) ∨ (dv xs p (bt xs p) : Int) < low ∨ high < (dv xs p (bt xs p) : Int) then .error (5, p)
  else .ok (dv xs p (bt xs p), p + 1 + bt xs p)

/-- What the inner number leaves. -/
def NumPost (w : World) (b g : Nat) (xs : List UInt8) (p : Nat) (low high : Int) (e : Ending) (w' : World) : Prop :=
  (∀ f q, numAt xs p low high = .error (f, q) → e = .returned (.tuple #[.int .i64 0, .int .i64 p]) ∧ Failed w w' b g xs p f q) ∧
  (∀ v q, numAt xs p low high = .ok (v, q) → e = .returned (.tuple #[.int .i64 v, .int .i64 q]) ∧ Chg [] w w')

theorem post_err {w w' : World} {b g : Nat} {xs : List UInt8} {p : Nat} {low high : Int} {e : Ending} {f q : Nat} (h : numAt xs p low high = .error (f, q)) (he : e = .returned (.tuple #[.int .i64 0, .int .i64 p]) ∧ Failed w w' b g xs p f q) : NumPost w b g xs p low high e w' :=
  ⟨fun f' q' h' => (by rw [h] at h'; cases h'; exact he), fun v q' h' => (by rw [h] at h'; cases h')⟩
theorem post_ok {w w' : World} {b g : Nat} {xs : List UInt8} {p : Nat} {low high : Int} {e : Ending} {v q : Nat} (h : numAt xs p low high = .ok (v, q)) (he : e = .returned (.tuple #[.int .i64 v, .int .i64 q]) ∧ Chg [] w w') : NumPost w b g xs p low high e w' :=
  ⟨fun f' q' h' => (by rw [h] at h'; cases h'), fun v' q' h' => (by rw [h] at h'; cases h'; exact he)⟩

theorem rnumber_any (w : World) (b g : Nat) (xs : List UInt8) (p : Nat) (fa low high : Int) (h : Rdr w b g xs p 0 fa) (hp : p ≤ xs.length) (hl : xs.length ≤ 140737488351232) :
    Calls Try.prog 64 #[.pointer (some ⟨b, 0, none⟩), .int .i64 low, .int .i64 high] w (NumPost w b g xs p low high) := by
  by_cases h1 : p = xs.length
  · subst h1
    refine (num_end w b g xs fa low high h).mono fun e w' he => post_err (f := 4) (q := xs.length) ?_ he
    simp only [numAt, if_pos]
  obtain ⟨x, hx⟩ : ∃ x, xs[p]? = some x := ⟨xs[p]'(by omega), List.getElem?_eq_getElem (by omega)⟩
  have hb : bt xs p = x.toNat := by simp [bt, List.getD, hx]
  by_cases h2 : 8 < bt xs p
  · refine (num_arg w b g xs p fa low high h x hx (by omega)).mono fun e w' he => post_err (f := 2) (q := p) ?_ he
    simp only [numAt, if_neg h1, if_pos h2]
  by_cases h3 : xs.length - (p + 1) < bt xs p
  · refine (num_short w b g xs p fa low high h hl x hx (by omega) (by omega)).mono fun e w' he => post_err (f := 4) (q := xs.length) ?_ he
    simp only [numAt, if_neg h1, if_neg h2, if_pos h3]
  by_cases h4 : 0 < bt xs p ∧ bt xs (p + 1) = 0
  · have hz : xs[p + 1]? = some 0 := by
      have hlt : p + 1 < xs.length := by omega
      rw [List.getElem?_eq_getElem hlt]
      have := h4.2
      simp only [bt, List.getD, List.getElem?_eq_getElem hlt, Option.getD_some] at this
      congr 1
      exact UInt8.toNat_inj.1 this
    refine (num_zero w b g xs p fa low high h hl x hx (by omega) (by omega) (by omega) hz).mono fun e w' he => post_err (f := 2) (q := p) ?_ he
    simp only [numAt, if_neg h1, if_neg h2, if_neg h3, if_pos h4]
  by_cases h5 : 4611686018427387903 < dv xs p (bt xs p) ∨ (dv xs p (bt xs p) : Int) < low ∨ high < (dv xs p (bt xs p) : Int)
  · have hn : numAt xs p low high = .error (5, p) := by simp only [numAt, if_neg h1, if_neg h2, if_neg h3, if_neg h4, if_pos h5]
    by_cases h6 : bt xs p = 0
    · rw [h6, dv_zero] at h5
      exact (num_none_out w b g xs p fa low high h x hx (by omega) (by omega)).mono fun e w' he => post_err hn he
    · rw [hb] at h5
      exact (num_digits_out w b g xs p fa low high h hl x hx (by omega) (by omega) (by omega) (by omega) (by omega)).mono fun e w' he => post_err hn he
  · have hn : numAt xs p low high = .ok (dv xs p (bt xs p), p + 1 + bt xs p) := by simp only [numAt, if_neg h1, if_neg h2, if_neg h3, if_neg h4, if_neg h5]
    by_cases h6 : bt xs p = 0
    · rw [h6, dv_zero] at h5 hn
      exact (num_none w b g xs p fa low high h hl x hx (by omega) (by omega) (by omega)).mono fun e w' he => post_ok hn (by simpa using he)
    · rw [hb] at h5 hn
      exact (num_digits w b g xs p fa low high h hl x hx (by omega) (by omega) (by omega) (by omega) (by omega) (by omega) (by omega)).mono fun e w' he => post_ok hn (by simpa using he)

theorem numAt_ok {xs : List UInt8} {p : Nat} {low high : Int} {v q : Nat} (h : numAt xs p low high = .ok (v, q)) (hp : p ≤ xs.length) : q ≤ xs.length ∧ p < q ∧ v ≤ 4611686018427387903 ∧ low ≤ v ∧ v ≤ high := by
  unfold numAt at h
  repeat (split at h; · cases h)
  cases h
  omega

theorem numAt_err {xs : List UInt8} {p : Nat} {low high : Int} {f q : Nat} (h : numAt xs p low high = .error (f, q)) : f ≠ 0 := by
  unfold numAt at h
  repeat (split at h; · (cases h; decide))
  cases h

/-- What a reader is behind a number that is asked for: its place, its fault. -/
def rNum (xs : List UInt8) (p : Nat) (fe fa : Int) (low high : Int) : Int × Nat × Int × Int :=
  if fe ≠ 0 then (0, p, fe, fa) else match numAt xs p low high with
    | .error (f, q) => (0, p, (f : Int), (q : Int))
    | .ok (v, q) => ((v : Int), q, 0, fa)

theorem Rdr.place {w : World} {b g : Nat} {xs : List UInt8} {p q : Nat} {fe fa : Int} (h : Rdr w b g xs p fe fa) : Rdr (w.setCell ⟨b, 2, none⟩ (.int .i64 q)) b g xs q fe fa ∧ Chg [b] w (w.setCell ⟨b, 2, none⟩ (.int .i64 q)) := by
  obtain ⟨A, c, h1, h2, h3⟩ := h
  have hne := h2.ne h1 (by decide)
  have q1 := heap_setCell_same w b 2 _ _ (.int .i64 q) h1
  refine ⟨⟨A, c, by simpa using q1, h2.keep fun g o eA ho => ?_, h3⟩, (Chg.refl _ _).setCell (by simp) _⟩
  rw [Below.heap_setCell _ _ _ _ (hne _ eA)]; exact ho

theorem rreads_yes (w : World) (b g : Nat) (xs : List UInt8) (p : Nat) (fa : Int) (h : Rdr w b g xs p 0 fa) :
    Calls Try.prog 63 #[.pointer (some ⟨b, 0, none⟩)] w fun e w' => e = .returned (.bool true) ∧ w = w' := rreads_any w b g xs p 0 fa h
theorem rreads_no (w : World) (b g : Nat) (xs : List UInt8) (p : Nat) (fe fa : Int) (h : Rdr w b g xs p fe fa) (he : fe ≠ 0) :
    Calls Try.prog 63 #[.pointer (some ⟨b, 0, none⟩)] w fun e w' => e = .returned (.bool false) ∧ w = w' := by
  have := rreads_any w b g xs p fe fa h
  rwa [show (fe == 0) = false by simpa using he] at this

set_option maxHeartbeats 400000 in
theorem rnum_no (w : World) (b g : Nat) (xs : List UInt8) (p : Nat) (fe fa low high : Int) (h : Rdr w b g xs p fe fa) (he : fe ≠ 0) :
    Calls Try.prog 43 #[.pointer (some ⟨b, 0, none⟩), .int .i64 low, .int .i64 high] w fun e w' => e = .returned (.int .i64 0) ∧ w = w' := by
  have H := Lib.hid he
  clear he
  go_enter Try.func43, Try.ntmps43
  go_wp2_with (go_at_call 63; refine (rreads_no _ b g xs p fe fa h H.out).mono ?_; rintro r w' ⟨rfl, rfl⟩)
  go_ret
  exact ⟨rfl, rfl⟩

set_option maxHeartbeats 400000 in
theorem rnum_err (w : World) (b g : Nat) (xs : List UInt8) (p : Nat) (fa low high : Int) (h : Rdr w b g xs p 0 fa) (hp : p ≤ xs.length) (hl : xs.length ≤ 140737488351232) (f q : Nat) (hn : numAt xs p low high = .error (f, q)) :
    Calls Try.prog 43 #[.pointer (some ⟨b, 0, none⟩), .int .i64 low, .int .i64 high] w fun e w' => e = .returned (.int .i64 0) ∧ Failed w w' b g xs p f q := by
  have H := Lib.hid hn
  clear hn
  go_enter Try.func43, Try.ntmps43
  go_wp2_with (first
    | (go_at_call 63; refine (rreads_yes _ b g xs p fa h).mono ?_; rintro r w' ⟨rfl, rfl⟩)
    | (go_at_call 64; refine (rnumber_any _ b g xs p fa low high h hp hl).mono ?_; rintro r w1 hpost; obtain ⟨rfl, hf⟩ := hpost.1 _ _ H.out; clear hpost; obtain ⟨A1, c1, i1, i2, i3⟩ := id hf.1; have k2 := cell_of i1 2; have k3 := free_of i1 2; simp only [List.getElem?_toArray, List.getElem?_cons_zero, List.getElem?_cons_succ] at k2; have HF := Lib.hid hf; have I3 := Lib.hid i3; have I1 := Lib.hid i1; clear hf i1 i3))
  go_ret
  have hp2 := (HF.out.1.place (q := p))
  exact ⟨rfl, hp2.1, HF.out.2.trans hp2.2⟩

set_option maxHeartbeats 400000 in
theorem rnum_ok (w : World) (b g : Nat) (xs : List UInt8) (p : Nat) (fa low high : Int) (h : Rdr w b g xs p 0 fa) (hp : p ≤ xs.length) (hl : xs.length ≤ 140737488351232) (v q : Nat) (hn : numAt xs p low high = .ok (v, q)) :
    Calls Try.prog 43 #[.pointer (some ⟨b, 0, none⟩), .int .i64 low, .int .i64 high] w fun e w' => e = .returned (.int .i64 v) ∧ Rdr w' b g xs q 0 fa ∧ Chg [b] w w' := by
  have H := Lib.hid hn
  clear hn
  go_enter Try.func43, Try.ntmps43
  go_wp2_with (first
    | (go_at_call 63; refine (rreads_yes _ b g xs p fa h).mono ?_; rintro r w' ⟨rfl, rfl⟩)
    | (go_at_call 64; refine (rnumber_any _ b g xs p fa low high h hp hl).mono ?_; rintro r w1 hpost; obtain ⟨rfl, hf⟩ := hpost.2 _ _ H.out; clear hpost; have hr1 := h.chg hf (by simp) (by simp); obtain ⟨A1, c1, i1, i2, i3⟩ := id hr1; have k2 := cell_of i1 2; have k3 := free_of i1 2; simp only [List.getElem?_toArray, List.getElem?_cons_zero, List.getElem?_cons_succ] at k2; have HF := Lib.hid hf; have I3 := Lib.hid i3; have I1 := Lib.hid i1; clear hf i1 i3))
  go_ret
  have hp2 := hr1.place (q := q)
  exact ⟨rfl, hp2.1, (HF.out.mono (by simp)).trans hp2.2⟩

/-- Num, whatever came ahead. -/
theorem rnum_any (w : World) (b g : Nat) (xs : List UInt8) (p : Nat) (fe fa low high : Int) (h : Rdr w b g xs p fe fa) (hp : p ≤ xs.length) (hl : xs.length ≤ 140737488351232) :
    Calls Try.prog 43 #[.pointer (some ⟨b, 0, none⟩), .int .i64 low, .int .i64 high] w fun e w' => e = .returned (.int .i64 (rNum xs p fe fa low high).1) ∧ Rdr w' b g xs (rNum xs p fe fa low high).2.1 (rNum xs p fe fa low high).2.2.1 (rNum xs p fe fa low high).2.2.2 ∧ Chg [b] w w' := by
  unfold rNum
  by_cases he : fe = 0
  · subst he
    simp only [ne_eq, not_true_eq_false, if_false]
    cases hn : numAt xs p low high with
    | error x => obtain ⟨f, q⟩ := x; exact (rnum_err w b g xs p fa low high h hp hl f q hn).mono fun e w' he => ⟨he.1, he.2.1, he.2.2⟩
    | ok x => obtain ⟨v, q⟩ := x; exact rnum_ok w b g xs p fa low high h hp hl v q hn
  · simp only [ne_eq, he, not_false_eq_true, if_true]
    exact (rnum_no w b g xs p fe fa low high h he).mono fun e w' ⟨h1, h2⟩ => ⟨h1, h2 ▸ h, h2 ▸ Chg.refl _ _⟩
end Go.Proofs.Ytelbahfmkpncaaa
