/- The reader's number, whatever stands there; Num, Text and Raw. The reader's piece; Raw and Text. The reader's Raw and Text, whatever stands there. Package effect: kinds, Check. A writer, a reader that were made since a world w, and all that was there is as it was: the calls in this form. Package effect: compare, Same, Less, Size, Bytes. Package effect: Read. What is written is read as it was: no memory here. What is read is written as it was read: no memory here. An effect's bytes read as it; what reads as an effect is its bytes; where faults are: no memory here. Archives, purely. past.Has: how a span lies to a dot. -/
import Derived.Test.YtgafkaigkaghcaaGreatDoorZeac
import Derived.Test.YtgafkaigkaghcaaGreatDoorZeab
import Derived.Deep.RegionHeld3
import Derived.Deep.Cut
import Derived.Deep.CutRange
namespace Go.Proofs.YtgafkaigkaghcaaGreatDoor
section
open Go.RowKit

/-- What is read at a place: a fault and where, or a number and where it ends. -/
def numAt (xs : List UInt8) (p : Nat) (low high : Int) : Except (Nat × Nat) (Nat × Nat) :=
  if p = xs.length then .error (4, xs.length)
  else if 8 < bt xs p then .error (2, p)
  else if xs.length - (p + 1) < bt xs p then .error (4, xs.length)
  else if 0 < bt xs p ∧ bt xs (p + 1) = 0 then .error (2, p)
  else if 4611686018427387903 < dv xs p (bt xs p) ∨ (dv xs p (bt xs p) : Int) < low ∨ high < (dv xs p (bt xs p) : Int) then .error (5, p)
  else .ok (dv xs p (bt xs p), p + 1 + bt xs p)

/-- What the inner number leaves. -/
def NumPost (w : World) (b g : Nat) (xs : List UInt8) (p : Nat) (low high : Int) (e : Ending) (w' : World) : Prop :=
  (∀ f q, numAt xs p low high = .error (f, q) → e = .returned (.tuple #[.int .i64 0, .int .i64 p]) ∧ Failed w w' b g xs p f q) ∧
  (∀ v q, numAt xs p low high = .ok (v, q) → e = .returned (.tuple #[.int .i64 v, .int .i64 q]) ∧ Chg [] w w')

theorem post_err {w w' : World} {b g : Nat} {xs : List UInt8} {p : Nat} {low high : Int} {e : Ending} {f q : Nat} (h : numAt xs p low high = .error (f, q)) (he : e = .returned (.tuple #[.int .i64 0, .int .i64 p]) ∧ Failed w w' b g xs p f q) : NumPost w b g xs p low high e w' :=
  ⟨fun f' q' h' => (by rw [h] at h'; cases h'; exact he), fun v q' h' => (by rw [h] at h'; cases h')⟩
theorem post_ok {w w' : World} {b g : Nat} {xs : List UInt8} {p : Nat} {low high : Int} {e : Ending} {v q : Nat} (h : numAt xs p low high = .ok (v, q)) (he : e = .returned (.tuple #[.int .i64 v, .int .i64 q]) ∧ Chg [] w w') : NumPost w b g xs p low high e w' :=
  ⟨fun f' q' h' => (by rw [h] at h'; cases h'), fun v' q' h' => (by rw [h] at h'; cases h'; exact he)⟩

theorem rnumber_any (w : World) (b g : Nat) (xs : List UInt8) (p : Nat) (fa low high : Int) (h : Rdr w b g xs p 0 fa) (hp : p ≤ xs.length) (hl : xs.length ≤ 140737488351232) :
    Calls Tryz.prog 79 #[.pointer (some ⟨b, 0, none⟩), .int .i64 low, .int .i64 high] w (NumPost w b g xs p low high) := by
  by_cases h1 : p = xs.length
  · subst h1
    refine (num_end w b g xs fa low high h).mono fun e w' he => post_err (f := 4) (q := xs.length) ?_ he
    simp only [numAt, if_pos]
  obtain ⟨x, hx⟩ : ∃ x, xs[p]? = some x := ⟨xs[p]'(by omega), List.getElem?_eq_getElem (by omega)⟩
  have hb : bt xs p = x.toNat := by simp [bt, List.getD, hx]
  by_cases h2 : 8 < bt xs p
  · refine (num_arg w b g xs p fa low high h x hx (by omega)).mono fun e w' he => post_err (f := 2) (q := p) ?_ he
    simp only [numAt, if_neg h1, if_pos h2]
  by_cases h3 : xs.length - (p + 1) < bt xs p
  · refine (num_short w b g xs p fa low high h hl x hx (by omega) (by omega)).mono fun e w' he => post_err (f := 4) (q := xs.length) ?_ he
    simp only [numAt, if_neg h1, if_neg h2, if_pos h3]
  by_cases h4 : 0 < bt xs p ∧ bt xs (p + 1) = 0
  · have hz : xs[p + 1]? = some 0 := by
      have hlt : p + 1 < xs.length := by omega
      rw [List.getElem?_eq_getElem hlt]
      have := h4.2
      simp only [bt, List.getD, List.getElem?_eq_getElem hlt, Option.getD_some] at this
      congr 1
      exact UInt8.toNat_inj.1 this
    refine (num_zero w b g xs p fa low high h hl x hx (by omega) (by omega) (by omega) hz).mono fun e w' he => post_err (f := 2) (q := p) ?_ he
    simp only [numAt, if_neg h1, if_neg h2, if_neg h3, if_pos h4]
  by_cases h5 : 4611686018427387903 < dv xs p (bt xs p) ∨ (dv xs p (bt xs p) : Int) < low ∨ high < (dv xs p (bt xs p) : Int)
  · have hn : numAt xs p low high = .error (5, p) := by simp only [numAt, if_neg h1, if_neg h2, if_neg h3, if_neg h4, if_pos h5]
    by_cases h6 : bt xs p = 0
    · rw [h6, dv_zero] at h5
      exact (num_none_out w b g xs p fa low high h x hx (by omega) (by omega)).mono fun e w' he => post_err hn he
    · rw [hb] at h5
      exact (num_digits_out w b g xs p fa low high h hl x hx (by omega) (by omega) (by omega) (by omega) (by omega)).mono fun e w' he => post_err hn he
  · have hn : numAt xs p low high = .ok (dv xs p (bt xs p), p + 1 + bt xs p) := by simp only [numAt, if_neg h1, if_neg h2, if_neg h3, if_neg h4, if_neg h5]
    by_cases h6 : bt xs p = 0
    · rw [h6, dv_zero] at h5 hn
      exact (num_none w b g xs p fa low high h hl x hx (by omega) (by omega) (by omega)).mono fun e w' he => post_ok hn (by simpa using he)
    · rw [hb] at h5 hn
      exact (num_digits w b g xs p fa low high h hl x hx (by omega) (by omega) (by omega) (by omega) (by omega) (by omega) (by omega)).mono fun e w' he => post_ok hn (by simpa using he)

theorem numAt_ok {xs : List UInt8} {p : Nat} {low high : Int} {v q : Nat} (h : numAt xs p low high = .ok (v, q)) (hp : p ≤ xs.length) : q ≤ xs.length ∧ p < q ∧ v ≤ 4611686018427387903 ∧ low ≤ v ∧ v ≤ high := by
  unfold numAt at h
  repeat (split at h; · cases h)
  cases h
  omega

theorem numAt_err {xs : List UInt8} {p : Nat} {low high : Int} {f q : Nat} (h : numAt xs p low high = .error (f, q)) : f ≠ 0 := by
  unfold numAt at h
  repeat (split at h; · (cases h; decide))
  cases h

/-- What a reader is behind a number that is asked for: its place, its fault. -/
def rNum (xs : List UInt8) (p : Nat) (fe fa : Int) (low high : Int) : Int × Nat × Int × Int :=
  if fe ≠ 0 then (0, p, fe, fa) else match numAt xs p low high with
    | .error (f, q) => (0, p, (f : Int), (q : Int))
    | .ok (v, q) => ((v : Int), q, 0, fa)

theorem Rdr.place {w : World} {b g : Nat} {xs : List UInt8} {p q : Nat} {fe fa : Int} (h : Rdr w b g xs p fe fa) : Rdr (w.setCell ⟨b, 2, none⟩ (.int .i64 q)) b g xs q fe fa ∧ Chg [b] w (w.setCell ⟨b, 2, none⟩ (.int .i64 q)) := by
  obtain ⟨A, c, h1, h2, h3⟩ := h
  have hne := h2.ne h1 (by decide)
  have q1 := heap_setCell_same w b 2 _ _ (.int .i64 q) h1
  refine ⟨⟨A, c, by simpa using q1, h2.keep fun g o eA ho => ?_, h3⟩, (Chg.refl _ _).setCell (by simp) _⟩
  rw [Below.heap_setCell _ _ _ _ (hne _ eA)]; exact ho

theorem rreads_yes (w : World) (b g : Nat) (xs : List UInt8) (p : Nat) (fa : Int) (h : Rdr w b g xs p 0 fa) :
    Calls Tryz.prog 78 #[.pointer (some ⟨b, 0, none⟩)] w fun e w' => e = .returned (.bool true) ∧ w = w' := rreads_any w b g xs p 0 fa h
theorem rreads_no (w : World) (b g : Nat) (xs : List UInt8) (p : Nat) (fe fa : Int) (h : Rdr w b g xs p fe fa) (he : fe ≠ 0) :
    Calls Tryz.prog 78 #[.pointer (some ⟨b, 0, none⟩)] w fun e w' => e = .returned (.bool false) ∧ w = w' := by
  have := rreads_any w b g xs p fe fa h
  rwa [show (fe == 0) = false by simpa using he] at this

set_option maxHeartbeats 400000 in
theorem rnum_no (w : World) (b g : Nat) (xs : List UInt8) (p : Nat) (fe fa low high : Int) (h : Rdr w b g xs p fe fa) (he : fe ≠ 0) :
    Calls Tryz.prog 49 #[.pointer (some ⟨b, 0, none⟩), .int .i64 low, .int .i64 high] w fun e w' => e = .returned (.int .i64 0) ∧ w = w' := by
  have H := Lib.hid he
  clear he
  go_enter Tryz.func49, Tryz.ntmps49
  go_wp2_with (go_at_call 78; refine (rreads_no _ b g xs p fe fa h H.out).mono ?_; rintro r w' ⟨rfl, rfl⟩)
  go_ret
  exact ⟨rfl, rfl⟩

set_option maxHeartbeats 400000 in
theorem rnum_err (w : World) (b g : Nat) (xs : List UInt8) (p : Nat) (fa low high : Int) (h : Rdr w b g xs p 0 fa) (hp : p ≤ xs.length) (hl : xs.length ≤ 140737488351232) (f q : Nat) (hn : numAt xs p low high = .error (f, q)) :
    Calls Tryz.prog 49 #[.pointer (some ⟨b, 0, none⟩), .int .i64 low, .int .i64 high] w fun e w' => e = .returned (.int .i64 0) ∧ Failed w w' b g xs p f q := by
  have H := Lib.hid hn
  clear hn
  go_enter Tryz.func49, Tryz.ntmps49
  go_wp2_with (first
    | (go_at_call 78; refine (rreads_yes _ b g xs p fa h).mono ?_; rintro r w' ⟨rfl, rfl⟩)
    | (go_at_call 79; refine (rnumber_any _ b g xs p fa low high h hp hl).mono ?_; rintro r w1 hpost; obtain ⟨rfl, hf⟩ := hpost.1 _ _ H.out; clear hpost; obtain ⟨A1, c1, i1, i2, i3⟩ := id hf.1; have k2 := cell_of i1 2; have k3 := free_of i1 2; simp only [List.getElem?_toArray, List.getElem?_cons_zero, List.getElem?_cons_succ] at k2; have HF := Lib.hid hf; have I3 := Lib.hid i3; have I1 := Lib.hid i1; clear hf i1 i3))
  go_ret
  have hp2 := (HF.out.1.place (q := p))
  exact ⟨rfl, hp2.1, HF.out.2.trans hp2.2⟩

set_option maxHeartbeats 400000 in
theorem rnum_ok (w : World) (b g : Nat) (xs : List UInt8) (p : Nat) (fa low high : Int) (h : Rdr w b g xs p 0 fa) (hp : p ≤ xs.length) (hl : xs.length ≤ 140737488351232) (v q : Nat) (hn : numAt xs p low high = .ok (v, q)) :
    Calls Tryz.prog 49 #[.pointer (some ⟨b, 0, none⟩), .int .i64 low, .int .i64 high] w fun e w' => e = .returned (.int .i64 v) ∧ Rdr w' b g xs q 0 fa ∧ Chg [b] w w' := by
  have H := Lib.hid hn
  clear hn
  go_enter Tryz.func49, Tryz.ntmps49
  go_wp2_with (first
    | (go_at_call 78; refine (rreads_yes _ b g xs p fa h).mono ?_; rintro r w' ⟨rfl, rfl⟩)
    | (go_at_call 79; refine (rnumber_any _ b g xs p fa low high h hp hl).mono ?_; rintro r w1 hpost; obtain ⟨rfl, hf⟩ := hpost.2 _ _ H.out; clear hpost; have hr1 := h.chg hf (by simp) (by simp); obtain ⟨A1, c1, i1, i2, i3⟩ := id hr1; have k2 := cell_of i1 2; have k3 := free_of i1 2; simp only [List.getElem?_toArray, List.getElem?_cons_zero, List.getElem?_cons_succ] at k2; have HF := Lib.hid hf; have I3 := Lib.hid i3; have I1 := Lib.hid i1; clear hf i1 i3))
  go_ret
  have hp2 := hr1.place (q := q)
  exact ⟨rfl, hp2.1, (HF.out.mono (by simp)).trans hp2.2⟩

/-- Num, whatever came ahead. -/
theorem rnum_any (w : World) (b g : Nat) (xs : List UInt8) (p : Nat) (fe fa low high : Int) (h : Rdr w b g xs p fe fa) (hp : p ≤ xs.length) (hl : xs.length ≤ 140737488351232) :
    Calls Tryz.prog 49 #[.pointer (some ⟨b, 0, none⟩), .int .i64 low, .int .i64 high] w fun e w' => e = .returned (.int .i64 (rNum xs p fe fa low high).1) ∧ Rdr w' b g xs (rNum xs p fe fa low high).2.1 (rNum xs p fe fa low high).2.2.1 (rNum xs p fe fa low high).2.2.2 ∧ Chg [b] w w' := by
  unfold rNum
  by_cases he : fe = 0
  · subst he
    simp only [ne_eq, not_true_eq_false, if_false]
    cases hn : numAt xs p low high with
    | error x => obtain ⟨f, q⟩ := x; exact (rnum_err w b g xs p fa low high h hp hl f q hn).mono fun e w' he => ⟨he.1, he.2.1, he.2.2⟩
    | ok x => obtain ⟨v, q⟩ := x; exact rnum_ok w b g xs p fa low high h hp hl v q hn
  · simp only [ne_eq, he, not_false_eq_true, if_true]
    exact (rnum_no w b g xs p fe fa low high h he).mono fun e w' ⟨h1, h2⟩ => ⟨h1, h2 ▸ h, h2 ▸ Chg.refl _ _⟩
end
section
open Go.RowKit

set_option maxHeartbeats 400000 in
theorem piece_no (w : World) (b g : Nat) (xs : List UInt8) (p : Nat) (fe fa most : Int) (h : Rdr w b g xs p fe fa) (he : fe ≠ 0) :
    Calls Tryz.prog 80 #[.pointer (some ⟨b, 0, none⟩), .int .i64 most] w fun e w' => e = .returned (.slice none 0 0) ∧ w = w' := by
  have H := Lib.hid he
  clear he
  go_enter Tryz.func80, Tryz.ntmps80
  go_wp2
  refine wp_scope_fwd 0 rfl ?_
  go_wp2_with (go_at_call 78; refine (rreads_no _ b g xs p fe fa h H.out).mono ?_; rintro r w' ⟨rfl, rfl⟩)
  simp only [Exit.jump]
  go_ret
  exact ⟨rfl, rfl⟩

set_option maxHeartbeats 400000 in
theorem piece_err (w : World) (b g : Nat) (xs : List UInt8) (p : Nat) (fa most : Int) (h : Rdr w b g xs p 0 fa) (hp : p ≤ xs.length) (hl : xs.length ≤ 140737488351232) (f q : Nat) (hn : numAt xs p 0 4611686018427387903 = .error (f, q)) :
    Calls Tryz.prog 80 #[.pointer (some ⟨b, 0, none⟩), .int .i64 most] w fun e w' => e = .returned (.slice none 0 0) ∧ Failed w w' b g xs p f q := by
  have H := Lib.hid hn
  have hf0 : ((f : Int) != 0) = true := by have := numAt_err hn; simp; omega
  clear hn
  go_enter Tryz.func80, Tryz.ntmps80
  go_wp2
  refine wp_scope_fwd 0 rfl ?_
  go_wp2_with (first
    | (go_at_call 78; refine (rreads_yes _ b g xs p fa h).mono ?_; rintro r w' ⟨rfl, rfl⟩)
    | (go_at_call 79; refine (rnumber_any _ b g xs p fa _ _ h hp hl).mono ?_; rintro r w1 hpost; obtain ⟨rfl, hf⟩ := hpost.1 _ _ H.out; clear hpost; obtain ⟨A1, c1, i1, i2, i3⟩ := id hf.1; have k2 := cell_of i1 3; simp only [List.getElem?_toArray, List.getElem?_cons_zero, List.getElem?_cons_succ] at k2; have HF := Lib.hid hf; have I3 := Lib.hid i3; have I1 := Lib.hid i1; clear hf i1 i3))
  simp only [Exit.jump]
  go_ret
  exact ⟨rfl, HF.out⟩

theorem failed_after {w w1 : World} {b g : Nat} {xs : List UInt8} {p : Nat} {A : Option Addr} {c : Nat} {fe0 fa0 : Int} (hc : Chg [] w w1) (h1 : w1.heap[b]? = some (.cells #[.pointer (some ⟨b, 0, none⟩), .slice A xs.length c, .int .i64 p, .int .i64 fe0, .int .i64 fa0] 108 (0, 0)))
    (h2 : OwnB w1 A c xs) (h3 : A = none ∧ g = b ∨ A = some ⟨g, 0, none⟩) (n m : Nat) (fe fa : Int) :
    Failed w ((((w1.drewN n).setCell ⟨b, 3, none⟩ (.int .i64 fe)).setCell ⟨b, 4, none⟩ (.int .i64 fa)).drewN m) b g xs p fe fa := by
  have := failed_of h1 h2 h3 n m fe fa
  exact ⟨this.1, (hc.mono (by simp)).trans this.2⟩

set_option maxHeartbeats 400000 in
theorem piece_long (w : World) (b g : Nat) (xs : List UInt8) (p : Nat) (fa most : Int) (h : Rdr w b g xs p 0 fa) (hp : p ≤ xs.length) (hl : xs.length ≤ 140737488351232) (n q : Nat) (hn : numAt xs p 0 4611686018427387903 = .ok (n, q)) (hm : most < n) :
    Calls Tryz.prog 80 #[.pointer (some ⟨b, 0, none⟩), .int .i64 most] w fun e w' => e = .returned (.slice none 0 0) ∧ Failed w w' b g xs p 3 p := by
  have hb := numAt_ok hn hp
  have H := Lib.hid hn
  clear hn
  go_enter Tryz.func80, Tryz.ntmps80
  go_wp2
  refine wp_scope_fwd 0 rfl ?_
  go_wp2_with (first
    | (go_at_call 78; refine (rreads_yes _ b g xs p fa h).mono ?_; rintro r w' ⟨rfl, rfl⟩)
    | (go_at_call 79; refine (rnumber_any _ b g xs p fa _ _ h hp hl).mono ?_; rintro r w1 hpost; obtain ⟨rfl, hf⟩ := hpost.2 _ _ H.out; clear hpost; have hr1 := h.chg hf (by simp) (by simp); obtain ⟨A1, c1, i1, i2, i3⟩ := id hr1; have k1 := cell_of i1 1; have k2 := cell_of i1 2; have k3 := cell_of i1 3; have k4 := cell_of i1 4; have f3 := free_of i1 3; have f4 := free_of i1 4; simp only [List.getElem?_toArray, List.getElem?_cons_zero, List.getElem?_cons_succ] at k1 k2 k3 k4; have HF := Lib.hid hf; have I3 := Lib.hid i3; have I1 := Lib.hid i1; clear hf i1 i3))
  go_step3
  refine And.intro rfl ?_
  show Code.wp _ _ _ _ _
  go_wp2
  simp only [Exit.jump]
  go_ret
  exact ⟨rfl, failed_after HF.out I1.out i2 I3.out 0 0 _ _⟩
set_option maxHeartbeats 400000 in
theorem piece_end (w : World) (b g : Nat) (xs : List UInt8) (p : Nat) (fa most : Int) (h : Rdr w b g xs p 0 fa) (hp : p ≤ xs.length) (hl : xs.length ≤ 140737488351232) (n q : Nat) (hn : numAt xs p 0 4611686018427387903 = .ok (n, q)) (hm : (n : Int) ≤ most) (hm2 : (xs.length : Int) - q < n) :
    Calls Tryz.prog 80 #[.pointer (some ⟨b, 0, none⟩), .int .i64 most] w fun e w' => e = .returned (.slice none 0 0) ∧ Failed w w' b g xs p 4 xs.length := by
  have hb := numAt_ok hn hp
  have H := Lib.hid hn
  clear hn
  go_enter Tryz.func80, Tryz.ntmps80
  go_wp2
  refine wp_scope_fwd 0 rfl ?_
  go_wp2_with (first
    | (go_at_call 78; refine (rreads_yes _ b g xs p fa h).mono ?_; rintro r w' ⟨rfl, rfl⟩)
    | (go_at_call 79; refine (rnumber_any _ b g xs p fa _ _ h hp hl).mono ?_; rintro r w1 hpost; obtain ⟨rfl, hf⟩ := hpost.2 _ _ H.out; clear hpost; have hr1 := h.chg hf (by simp) (by simp); obtain ⟨A1, c1, i1, i2, i3⟩ := id hr1; have k1 := cell_of i1 1; have k2 := cell_of i1 2; have k3 := cell_of i1 3; have k4 := cell_of i1 4; have f3 := free_of i1 3; have f4 := free_of i1 4; simp only [List.getElem?_toArray, List.getElem?_cons_zero, List.getElem?_cons_succ] at k1 k2 k3 k4; have HF := Lib.hid hf; have I3 := Lib.hid i3; have I1 := Lib.hid i1; clear hf i1 i3))
  go_quiet (fail)
  go_wp2
  go_step3
  refine And.intro rfl ?_
  show Code.wp _ _ _ _ _
  go_wp2
  simp only [Exit.jump]
  go_ret
  exact ⟨rfl, failed_after HF.out I1.out i2 I3.out _ 0 _ _⟩
theorem piece_bs {w : World} {A : Option Addr} {c : Nat} {xs : List UInt8} (own : OwnB w A c xs) (n q : Nat) (h : q + n ≤ xs.length) : Bs w (A.map (fun x => x.add q)) n ((xs.drop q).take n) := by
  refine ⟨by simp; omega, fun j u hj => ?_⟩
  rw [List.getElem?_take] at hj
  split at hj
  · rw [List.getElem?_drop] at hj
    obtain ⟨a, e, hc⟩ := own.reads.cells (q + j) u hj
    rcases own.form with ⟨rfl, _⟩ | ⟨g, cur, rfl, _⟩
    · cases e
    · cases e
      refine ⟨⟨g, q, none⟩, by simp [add_zero_lit], ?_⟩
      rw [add_zero_lit] at hc
      rw [add_lit]; exact hc
  · cases hj

/-- What the piece is, and what the reader is behind it. -/
def Piece (w w' : World) (b g : Nat) (xs : List UInt8) (n q : Nat) (fa : Int) (e : Ending) : Prop :=
  ∃ A c, e = .returned (.slice A n c) ∧ Bs w' A n ((xs.drop q).take n) ∧ (∀ a, A = some a → a.block = g) ∧ Rdr w' b g xs (q + n) 0 fa ∧ Chg [b] w w'

theorem piece_fin {w w1 : World} {b g : Nat} {xs : List UInt8} {p n q : Nat} {fa : Int} {A : Option Addr} {c : Nat} (hc : Chg [] w w1) (h : Rdr w1 b g xs p 0 fa) (h1 : w1.heap[b]? = some (.cells #[.pointer (some ⟨b, 0, none⟩), .slice A xs.length c, .int .i64 p, .int .i64 0, .int .i64 fa] 108 (0, 0)))
    (own : OwnB w1 A c xs) (h3 : A = none ∧ g = b ∨ A = some ⟨g, 0, none⟩) (hq : q + n ≤ xs.length) (m : Nat) (B : Option Addr) (d : Nat) (hB : B = A.map (fun x => x.add q) ∨ n = 0 ∧ B = A) :
    Piece w ((w1.setCell ⟨b, 2, none⟩ (.int .i64 ((q : Int) + n))).drewN m) b g xs n q fa (.returned (.slice B n d)) := by
  have hp := h.place (q := q + n)
  have hne := own.ne h1 (by decide)
  have hg : ∀ a, A = some a → a.block = g := by
    rintro a rfl
    rcases h3 with ⟨h3, _⟩ | h3
    · cases h3
    · cases h3; rfl
  have hs : Chg [b] w1 ((w1.setCell ⟨b, 2, none⟩ (.int .i64 ((q : Int) + n))).drewN m) := hp.2.drewN m
  refine ⟨B, d, rfl, ?_, ?_, hp.1.drewN m, (hc.mono (by simp)).trans hs⟩
  · rcases hB with rfl | ⟨rfl, rfl⟩
    · refine (piece_bs own n q hq).chg hs ?_
      rintro a e
      cases A with
      | none => cases e
      | some a0 =>
        simp at e
        subst e
        rw [block_add]
        simpa using hne _ rfl
    · simpa using Bs.nil _ B
  · rintro a rfl
    rcases hB with hB | ⟨_, hB⟩
    · cases A with
      | none => cases hB
      | some a0 =>
        simp at hB
        subst hB
        rw [block_add]
        exact hg _ rfl
    · exact hg a hB.symm

set_option maxHeartbeats 400000 in
theorem piece_ok (w : World) (b g : Nat) (xs : List UInt8) (p : Nat) (fa most : Int) (h : Rdr w b g xs p 0 fa) (hp : p ≤ xs.length) (hl : xs.length ≤ 140737488351232) (n q : Nat) (hn : numAt xs p 0 4611686018427387903 = .ok (n, q)) (hm : (n : Int) ≤ most) (hm2 : (n : Int) ≤ xs.length - q) :
    Calls Tryz.prog 80 #[.pointer (some ⟨b, 0, none⟩), .int .i64 most] w fun e w' => Piece w w' b g xs n q fa e := by
  have hb := numAt_ok hn hp
  have H := Lib.hid hn
  clear hn
  go_enter Tryz.func80, Tryz.ntmps80
  go_wp2
  refine wp_scope_fwd 0 rfl ?_
  go_wp2_with (first
    | (go_at_call 78; refine (rreads_yes _ b g xs p fa h).mono ?_; rintro r w' ⟨rfl, rfl⟩)
    | (go_at_call 79; refine (rnumber_any _ b g xs p fa _ _ h hp hl).mono ?_; rintro r w1 hpost; obtain ⟨rfl, hf⟩ := hpost.2 _ _ H.out; clear hpost; have hr1 := h.chg hf (by simp) (by simp); obtain ⟨A1, c1, i1, i2, i3⟩ := id hr1; have k1 := cell_of i1 1; have k2 := cell_of i1 2; have k3 := cell_of i1 3; have hcap := i2.cap; unfold maxLen at hcap; have f2 := free_of i1 2; simp only [List.getElem?_toArray, List.getElem?_cons_zero, List.getElem?_cons_succ] at k1 k2 k3; have HF := Lib.hid hf; have I3 := Lib.hid i3; have I1 := Lib.hid i1; clear hf i1 i3))
  go_quiet (fail)
  go_wp2
  · simp only [Exit.jump]
    go_ret
    have e0 : n = 0 := by omega
    exact piece_fin HF.out hr1 I1.out i2 I3.out (by omega) _ _ _ (.inr ⟨e0, rfl⟩)
  · simp only [Exit.jump]
    go_ret
    exact piece_fin HF.out hr1 I1.out i2 I3.out (by omega) _ _ _ (.inl rfl)
end
section
open Go.RowKit

/-- What a reader tells, and what it is behind that, where bytes are asked for. -/
def rRaw (xs : List UInt8) (p : Nat) (fe fa most : Int) : List UInt8 × Nat × Int × Int :=
  if fe ≠ 0 then ([], p, fe, fa) else match numAt xs p 0 4611686018427387903 with
    | .error (f, q) => ([], p, (f : Int), (q : Int))
    | .ok (n, q) => if most < n then ([], p, 3, (p : Int)) else if (xs.length : Int) - q < n then ([], p, 4, (xs.length : Int)) else ((xs.drop q).take n, q + n, 0, fa)

/-- What a piece leaves. -/
def PiecePost (w : World) (b g : Nat) (xs : List UInt8) (r : List UInt8 × Nat × Int × Int) (e : Ending) (w' : World) : Prop :=
  ∃ A c, e = .returned (.slice A r.1.length c) ∧ Bs w' A r.1.length r.1 ∧ (∀ a, A = some a → a.block = g) ∧ Rdr w' b g xs r.2.1 r.2.2.1 r.2.2.2 ∧ Chg [b] w w'

theorem piece_failed {w w' : World} {b g : Nat} {xs : List UInt8} {p : Nat} {fe fa : Int} {e : Ending} (h : e = .returned (.slice none 0 0) ∧ Failed w w' b g xs p fe fa) : PiecePost w b g xs ([], p, fe, fa) e w' :=
  ⟨none, 0, h.1, Bs.nil _ _, by simp, h.2.1, h.2.2⟩

theorem piece_any (w : World) (b g : Nat) (xs : List UInt8) (p : Nat) (fe fa most : Int) (h : Rdr w b g xs p fe fa) (hp : p ≤ xs.length) (hl : xs.length ≤ 140737488351232) :
    Calls Tryz.prog 80 #[.pointer (some ⟨b, 0, none⟩), .int .i64 most] w (PiecePost w b g xs (rRaw xs p fe fa most)) := by
  unfold rRaw
  by_cases he : fe = 0
  · subst he
    simp only [ne_eq, not_true_eq_false, if_false]
    cases hn : numAt xs p 0 4611686018427387903 with
    | error x => obtain ⟨f, q⟩ := x; exact (piece_err w b g xs p fa most h hp hl f q hn).mono fun e w' he => piece_failed he
    | ok x =>
      obtain ⟨n, q⟩ := x
      by_cases h1 : most < n
      · simp only [if_pos h1]; exact (piece_long w b g xs p fa most h hp hl n q hn h1).mono fun e w' he => piece_failed he
      · by_cases h2 : (xs.length : Int) - q < n
        · simp only [if_neg h1, if_pos h2]; exact (piece_end w b g xs p fa most h hp hl n q hn (by omega) h2).mono fun e w' he => piece_failed he
        · simp only [if_neg h1, if_neg h2]
          refine (piece_ok w b g xs p fa most h hp hl n q hn (by omega) (by omega)).mono fun e w' he => ?_
          obtain ⟨A, c, h3, h4, h5, h6, h7⟩ := he
          have hlen := h4.len
          refine ⟨A, c, ?_, ?_, h5, h6, h7⟩
          · show _ = Ending.returned (.slice A ((xs.drop q).take n).length c)
            rw [hlen]; exact h3
          · show Bs w' A ((xs.drop q).take n).length ((xs.drop q).take n)
            rw [hlen]; exact h4
  · simp only [ne_eq, he, not_false_eq_true, if_true]
    exact (piece_no w b g xs p fe fa most h he).mono fun e w' ⟨h1, h2⟩ => ⟨none, 0, h1, Bs.nil _ _, by simp, h2 ▸ h, h2 ▸ Chg.refl _ _⟩

theorem rRaw_le {xs : List UInt8} {p : Nat} {fe fa most : Int} (hp : p ≤ xs.length) : (rRaw xs p fe fa most).1.length ≤ xs.length ∧ (rRaw xs p fe fa most).2.1 ≤ xs.length := by
  unfold rRaw
  split
  · exact ⟨Nat.zero_le _, hp⟩
  · split
    · exact ⟨Nat.zero_le _, hp⟩
    · rename_i n q hn
      have := numAt_ok hn hp
      split
      · exact ⟨Nat.zero_le _, hp⟩
      · split
        · exact ⟨Nat.zero_le _, hp⟩
        · simp; omega
theorem rNum_le {xs : List UInt8} {p : Nat} {fe fa low high : Int} (hp : p ≤ xs.length) : (rNum xs p fe fa low high).2.1 ≤ xs.length := by
  unfold rNum
  split
  · exact hp
  · split
    · exact hp
    · rename_i n q hn
      exact (numAt_ok hn hp).1

/-- What Raw leaves. -/
def RawPost (w : World) (b g : Nat) (xs : List UInt8) (r : List UInt8 × Nat × Int × Int) (e : Ending) (w' : World) : Prop :=
  ∃ A c, e = .returned (.slice A r.1.length c) ∧ OwnB w' A c r.1 ∧ (∀ a, A = some a → w.heap.size ≤ a.block) ∧ Rdr w' b g xs r.2.1 r.2.2.1 r.2.2.2 ∧ Chg [b] w w'

set_option maxHeartbeats 400000 in
theorem rraw_any (w : World) (b g : Nat) (xs : List UInt8) (p : Nat) (fe fa most : Int) (h : Rdr w b g xs p fe fa) (hp : p ≤ xs.length) (hl : xs.length ≤ 140737488351232) :
    Calls Tryz.prog 50 #[.pointer (some ⟨b, 0, none⟩), .int .i64 most] w (RawPost w b g xs (rRaw xs p fe fa most)) := by
  have hle := (rRaw_le (fe := fe) (fa := fa) (most := most) hp).1
  have hpc := piece_any w b g xs p fe fa most h hp hl
  generalize rRaw xs p fe fa most = r at hle hpc
  have HP := Lib.hid hpc
  clear hpc
  go_enter Tryz.func50, Tryz.ntmps50
  go_wp2_with (first
    | (go_at_call 80; refine HP.out.mono ?_; rintro e w1 ⟨A, c, rfl, q1, q2, q3, q4⟩; have Q2 := Lib.hid q2; clear q2)
    | (go_at_call 73; refine (clone_any _ _ _ _ r.1 q1 (by omega)).mono ?_; rintro e w2 ⟨A2, c2, rfl, f1, f2, f3⟩; have F2 := Lib.hid f2; clear f2))
  go_ret
  have hs := q4.size
  refine ⟨A2, c2, rfl, f1, fun a e => ?_, q3.chg f3 (by simp) (by simp), q4.trans (f3.mono (by simp))⟩
  have := F2.out a e
  omega
end
section
open Go.RowKit

/-- Which effects may be. -/
def Fine (k m : Int) (n : Nat) : Prop := k = 1 ∧ 0 ≤ m ∧ m ≤ 511 ∧ n ≤ 1000 ∨ k = 2 ∧ 0 ≤ m ∧ m ≤ 511 ∧ n = 0 ∨ k = 3 ∧ m = 0 ∧ n = 0
instance (k m : Int) (n : Nat) : Decidable (Fine k m n) := by unfold Fine; exact inferInstance
end
section
open Go.RowKit

theorem Chg.both {w w1 w2 : World} {S : List Nat} (h : Chg [] w w1) (k : Chg S w1 w2) (hs : ∀ i ∈ S, w.heap.size ≤ i) : Chg [] w w2 :=
  h.trans' k fun i hi => .inr (hs i hi)

/-- A writer made since w. -/
def Ws (w w' : World) (b : Nat) (xs : List UInt8) (e : Int) : Prop := ∃ g, Wrt w' b g xs e ∧ w.heap.size ≤ b ∧ w.heap.size ≤ g ∧ Chg [] w w'
theorem Ws.chg {w w' : World} {b : Nat} {xs : List UInt8} {e : Int} (h : Ws w w' b xs e) : Chg [] w w' := by obtain ⟨_, _, _, _, h⟩ := h; exact h
theorem Ws.past {w w1 w2 : World} {b : Nat} {xs : List UInt8} {e : Int} (h : Ws w w1 b xs e) (hc : Chg [] w1 w2) : Ws w w2 b xs e := by
  obtain ⟨g, h1, h2, h3, h4⟩ := h
  exact ⟨g, h1.chg hc (by simp) (by simp), h2, h3, h4.trans hc⟩
theorem ws_between {w w1 w2 : World} {b g : Nat} {xs : List UInt8} {e : Int} (h2 : w.heap.size ≤ b) (h3 : w.heap.size ≤ g) (h4 : Chg [] w w1) (h : Between w1 w2 b g xs e) : Ws w w2 b xs e := by
  obtain ⟨g', q1, q2, q3⟩ := h
  have := h4.size
  refine ⟨g', q1, h2, by omega, h4.both q2 ?_⟩
  intro i hi
  simp at hi
  omega
theorem ws_new (w w1 : World) (hc : Chg [] w w1) : Calls Tryz.prog 37 #[] w1 fun r w' => ∃ b, r = .returned (.pointer (some ⟨b, 0, none⟩)) ∧ Ws w w' b [] 0 :=
  (new_any w1).mono fun _ _ ⟨h1, h2, h3⟩ => ⟨_, h1, _, h2, hc.size, hc.size, hc.trans h3⟩
theorem ws_num (w w1 : World) (b : Nat) (xs : List UInt8) (e x : Int) (h : Ws w w1 b xs e) (hlen : xs.length ≤ 1048576) :
    Calls Tryz.prog 38 #[.pointer (some ⟨b, 0, none⟩), .int .i64 x] w1 fun r w' => r = .returned (.tuple #[]) ∧ Ws w w' b (wNum xs e x).1 (wNum xs e x).2 := by
  obtain ⟨g, h1, h2, h3, h4⟩ := h
  exact (wnum_any w1 b g xs e x h1 hlen).mono fun _ _ ⟨q1, q2⟩ => ⟨q1, ws_between h2 h3 h4 q2⟩
theorem ws_raw (w w1 : World) (b : Nat) (xs : List UInt8) (e : Int) (B : Option Addr) (m d : Nat) (ys : List UInt8) (h : Ws w w1 b xs e) (hlen : xs.length ≤ 1048576) (hm : m ≤ 140737488351232) (hr : Bs w B m ys) :
    Calls Tryz.prog 39 #[.pointer (some ⟨b, 0, none⟩), .slice B m d] w1 fun r w' => r = .returned (.tuple #[]) ∧ Ws w w' b (wRaw xs e ys).1 (wRaw xs e ys).2 := by
  obtain ⟨g, h1, h2, h3, h4⟩ := h
  exact (wraw_any w1 b g xs e B m d ys h1 hlen hm (hr.chg h4 (by simp)) (hr.apart h2 h3)).mono fun _ _ ⟨q1, q2⟩ => ⟨q1, ws_between h2 h3 h4 q2⟩
theorem Fresh.since {w w1 w2 : World} {A : Option Addr} {c : Nat} {ys : List UInt8} (hc : Chg [] w w1) (h : Fresh w1 w2 A c ys) : Fresh w w2 A c ys :=
  ⟨h.1, fun a e => by have := h.2.1 a e; have := hc.size; omega, hc.trans h.2.2⟩
theorem Fresh.past {w w1 w2 : World} {A : Option Addr} {c : Nat} {ys : List UInt8} (h : Fresh w w1 A c ys) (hc : Chg [] w1 w2) : Fresh w w2 A c ys :=
  ⟨h.1.chg hc (by simp), h.2.1, h.2.2.trans hc⟩
theorem Fresh.none_ {w w1 : World} (hc : Chg [] w w1) : Fresh w w1 none 0 [] := ⟨OwnB.none_ _, by simp, hc⟩
theorem ws_out (w w1 : World) (b : Nat) (xs : List UInt8) (e : Int) (h : Ws w w1 b xs e) (hlen : xs.length ≤ 1048576) :
    Calls Tryz.prog 40 #[.pointer (some ⟨b, 0, none⟩)] w1 fun r w' => ∃ A c, r = .returned (.tuple #[.slice A (outs xs e).length c, .int .i64 e]) ∧ Fresh w w' A c (outs xs e) := by
  obtain ⟨g, h1, h2, h3, h4⟩ := h
  exact (wout_any w1 b g xs e h1 hlen).mono fun _ _ ⟨A, c, q1, q2⟩ => ⟨A, c, q1, q2.since h4⟩

/-- A reader made since w. -/
def Rs (w w' : World) (b : Nat) (xs : List UInt8) (p : Nat) (fe fa : Int) : Prop := ∃ g, Rdr w' b g xs p fe fa ∧ w.heap.size ≤ b ∧ w.heap.size ≤ g ∧ Chg [] w w' ∧ p ≤ xs.length ∧ xs.length ≤ 140737488351232
theorem Rs.chg {w w' : World} {b : Nat} {xs : List UInt8} {p : Nat} {fe fa : Int} (h : Rs w w' b xs p fe fa) : Chg [] w w' := by obtain ⟨_, _, _, _, h, _⟩ := h; exact h
theorem Rs.past {w w1 w2 : World} {b : Nat} {xs : List UInt8} {p : Nat} {fe fa : Int} (h : Rs w w1 b xs p fe fa) (hc : Chg [] w1 w2) : Rs w w2 b xs p fe fa := by
  obtain ⟨g, h1, h2, h3, h4, h5⟩ := h
  exact ⟨g, h1.chg hc (by simp) (by simp), h2, h3, h4.trans hc, h5⟩
theorem rs_open (w w1 : World) (B : Option Addr) (m d : Nat) (ys : List UInt8) (hc : Chg [] w w1) (hr : Bs w B m ys) (hm : m ≤ 140737488351232) :
    Calls Tryz.prog 48 #[.slice B m d] w1 fun r w' => ∃ b, r = .returned (.pointer (some ⟨b, 0, none⟩)) ∧ Rs w w' b ys 0 0 0 := by
  have hs := hc.size
  have hl := hr.len
  exact (open_any w1 B m d ys (hr.chg hc (by simp)) hm).mono fun _ _ ⟨b, g, h1, h2, h3, h4, h5⟩ => ⟨b, h1, g, h2, by omega, by omega, hc.trans h3, by omega, by omega⟩
theorem rs_num (w w1 : World) (b : Nat) (xs : List UInt8) (p : Nat) (fe fa low high : Int) (h : Rs w w1 b xs p fe fa) :
    Calls Tryz.prog 49 #[.pointer (some ⟨b, 0, none⟩), .int .i64 low, .int .i64 high] w1 fun r w' => r = .returned (.int .i64 (rNum xs p fe fa low high).1) ∧ Rs w w' b xs (rNum xs p fe fa low high).2.1 (rNum xs p fe fa low high).2.2.1 (rNum xs p fe fa low high).2.2.2 ∧ Chg [b] w1 w' := by
  obtain ⟨g, h1, h2, h3, h4, h5, h6⟩ := h
  exact (rnum_any w1 b g xs p fe fa low high h1 h5 h6).mono fun _ _ ⟨q1, q2, q3⟩ => ⟨q1, ⟨g, q2, h2, h3, h4.both q3 (by simpa using h2), rNum_le h5, h6⟩, q3⟩
theorem rs_raw (w w1 : World) (b : Nat) (xs : List UInt8) (p : Nat) (fe fa most : Int) (h : Rs w w1 b xs p fe fa) :
    Calls Tryz.prog 50 #[.pointer (some ⟨b, 0, none⟩), .int .i64 most] w1 fun r w' => ∃ A c, r = .returned (.slice A (rRaw xs p fe fa most).1.length c) ∧ OwnB w' A c (rRaw xs p fe fa most).1 ∧ (∀ a, A = some a → w1.heap.size ≤ a.block) ∧ Rs w w' b xs (rRaw xs p fe fa most).2.1 (rRaw xs p fe fa most).2.2.1 (rRaw xs p fe fa most).2.2.2 ∧ Chg [b] w1 w' := by
  obtain ⟨g, h1, h2, h3, h4, h5, h6⟩ := h
  exact (rraw_any w1 b g xs p fe fa most h1 h5 h6).mono fun _ _ ⟨A, c, q1, q2, q3, q4, q5⟩ => ⟨A, c, q1, q2, q3, ⟨g, q4, h2, h3, h4.both q5 (by simpa using h2), (rRaw_le h5).2, h6⟩, q5⟩
/-- What the end tells. -/
def endR (xs : List UInt8) (p : Nat) (fe fa : Int) : Int × Int := if fe = 0 ∧ p < xs.length then (4, p) else (fe, fa)
theorem rs_end (w w1 : World) (b : Nat) (xs : List UInt8) (p : Nat) (fe fa : Int) (h : Rs w w1 b xs p fe fa) :
    Calls Tryz.prog 51 #[.pointer (some ⟨b, 0, none⟩)] w1 fun r w' => r = .returned (.agg #[.int .i64 (endR xs p fe fa).1, .int .i64 (endR xs p fe fa).2]) ∧ Chg [] w1 w' := by
  obtain ⟨g, h1, h2, h3, h4, h5, h6⟩ := h
  unfold endR
  by_cases he : fe = 0 ∧ p < xs.length
  · rw [if_pos he]
    obtain ⟨rfl, hp⟩ := he
    exact rend_left w1 b g xs p fa h1 hp h6
  · rw [if_neg he]
    exact rend_done w1 b g xs p fe fa h1 (fun e => by omega) h6
end
section
open Go.RowKit
end
section
open Go.RowKit
set_option linter.unusedSimpArgs false

theorem rNum_calm {xs : List UInt8} {p : Nat} {fe fa low high : Int} (he : (rNum xs p fe fa low high).2.2.1 = 0) : fe = 0 ∧ (rNum xs p fe fa low high).2.2.2 = fa := by
  unfold rNum at he ⊢
  split at he
  · rename_i h; exact absurd he h
  · rename_i h
    have hz : fe = 0 := by simpa using h
    rw [if_neg h]
    cases hn : numAt xs p low high with
    | error x => obtain ⟨f, q⟩ := x; simp only [hn] at he; have := numAt_err hn; omega
    | ok x => exact ⟨hz, rfl⟩
theorem rRaw_calm {xs : List UInt8} {p : Nat} {fe fa most : Int} (he : (rRaw xs p fe fa most).2.2.1 = 0) : fe = 0 ∧ (rRaw xs p fe fa most).2.2.2 = fa := by
  unfold rRaw at he ⊢
  split at he
  · rename_i h; exact absurd he h
  · rename_i h
    have hz : fe = 0 := by simpa using h
    rw [if_neg h]
    cases hn : numAt xs p 0 4611686018427387903 with
    | error x => obtain ⟨f, q⟩ := x; simp only [hn] at he; have := numAt_err hn; omega
    | ok x =>
      obtain ⟨n, q⟩ := x
      simp only [hn] at he ⊢
      split at he
      · simp at he
      · rename_i h1
        rw [if_neg h1]
        split at he
        · simp at he
        · rename_i h2; rw [if_neg h2]; exact ⟨hz, rfl⟩
theorem endR_calm {xs : List UInt8} {p : Nat} {fe fa : Int} (he : (endR xs p fe fa).1 = 0) : fe = 0 ∧ (endR xs p fe fa).2 = fa ∧ xs.length ≤ p := by
  unfold endR at he ⊢
  split at he
  · simp at he
  · rename_i h
    rw [if_neg h]
    exact ⟨he, rfl, by omega⟩
end
section
open Go.RowKit

theorem nb_zero : nb 0 = 0 := by decide
theorem nb_small (n : Nat) (h0 : 0 < n) (h : n < 256) : nb n = 1 := by
  have h1 := Lib.bitLen_le n 8 (by omega) (by omega)
  have h2 := Lib.bitLen_half n (by omega) (by omega)
  unfold nb
  omega
theorem nb_step (n : Nat) (h : 256 ≤ n) (hn : n < 18446744073709551616) : nb n = 1 + nb (n / 256) := by
  have := Lib.bitLen_shift8 n h hn
  unfold nb
  omega
theorem nb_range (n : Nat) : n < 18446744073709551616 → n < 256 ^ nb n ∧ (0 < n → 256 ^ (nb n - 1) ≤ n ∧ 0 < nb n) := by
  induction n using Nat.strongRecOn with
  | _ n ih =>
    intro hn
    by_cases h0 : n = 0
    · subst h0; rw [nb_zero]; decide
    by_cases h : n < 256
    · rw [nb_small n (by omega) h]
      exact ⟨by simpa using h, fun _ => ⟨by simp; omega, by omega⟩⟩
    · have := ih (n / 256) (by omega) (by omega)
      rw [nb_step n (by omega) hn]
      obtain ⟨h1, h2⟩ := this
      obtain ⟨h3, h4⟩ := h2 (by omega)
      obtain ⟨k, hk⟩ : ∃ k, nb (n / 256) = k + 1 := ⟨nb (n / 256) - 1, by omega⟩
      rw [hk] at h1 h3 ⊢
      rw [show 1 + (k + 1) - 1 = k + 1 by omega, show 1 + (k + 1) = (k + 1) + 1 by omega]
      rw [show k + 1 - 1 = k by omega] at h3
      rw [Nat.pow_succ] at h1
      rw [Nat.pow_succ 256 (k + 1), Nat.pow_succ]
      omega

theorem val_from (l : List UInt8) : ∀ a : Nat, l.foldl (fun n x => n * 256 + x.toNat) a = a * 256 ^ l.length + val l := by
  induction l with
  | nil => intro a; simp [val]
  | cons c l ih =>
    intro a
    simp only [List.foldl_cons, val, List.length_cons, Nat.pow_succ]
    rw [ih, ih]
    simp only [Nat.zero_mul, Nat.zero_add]
    rw [Nat.add_mul, Nat.mul_assoc, Nat.mul_comm 256 (256 ^ l.length), Nat.add_assoc]
theorem val_cons (c : UInt8) (l : List UInt8) : val (c :: l) = c.toNat * 256 ^ l.length + val l := by
  have := val_from l c.toNat
  simp only [val, List.foldl_cons, Nat.zero_mul, Nat.zero_add] at this ⊢
  exact this
theorem val_be : ∀ (k n : Nat), val (be k n) = n % 256 ^ k
  | 0, n => by simp [be, val]; omega
  | k + 1, n => by
    rw [be, val_cons, val_be k n, be_len]
    have h : (UInt8.ofNat (n / 256 ^ k)).toNat = n / 256 ^ k % 256 := by simp
    rw [h, Nat.pow_succ, Nat.mod_mul]
    rw [Nat.mul_comm]
    omega

/-- A number's form, read where it stands. -/
theorem numAt_enc (pre rest : List UInt8) (n : Nat) (low high : Int) (hn : n ≤ 4611686018427387903) (hl : low ≤ n) (hh : (n : Int) ≤ high) :
    numAt (pre ++ (enc n ++ rest)) pre.length low high = .ok (n, pre.length + 1 + nb n) := by
  have hnb := nb_le n (by omega)
  obtain ⟨h1, h2⟩ := nb_range n (by omega)
  have hb : bt (pre ++ (enc n ++ rest)) pre.length = nb n := by
    simp only [bt, List.getD, List.getElem?_append_right (Nat.le_refl _), Nat.sub_self, enc, List.cons_append, List.getElem?_cons_zero, Option.getD_some]
    simp
    omega
  have hlen : (pre ++ (enc n ++ rest)).length = pre.length + (1 + nb n) + rest.length := by simp [enc_len]; omega
  have hd : dv (pre ++ (enc n ++ rest)) pre.length (nb n) = n := by
    unfold dv
    have : (pre ++ (enc n ++ rest)).drop (pre.length + 1) = be (nb n) n ++ rest := by
      rw [← List.drop_drop, List.drop_left]
      simp [enc]
    rw [this, List.take_append_of_le_length (by rw [be_len]; exact Nat.le_refl _), List.take_of_length_le (by rw [be_len]; exact Nat.le_refl _), val_be, Nat.mod_eq_of_lt h1]
  have hz : ¬ (0 < nb n ∧ bt (pre ++ (enc n ++ rest)) (pre.length + 1) = 0) := by
    rintro ⟨h3, h4⟩
    obtain ⟨k, hk⟩ : ∃ k, nb n = k + 1 := ⟨nb n - 1, by omega⟩
    have h0 : 0 < n := by
      rcases Nat.eq_zero_or_pos n with e | e
      · subst e; rw [nb_zero] at h3; omega
      · exact e
    have h5 := (h2 h0).1
    rw [hk, show k + 1 - 1 = k by omega] at h5
    have h6 : bt (pre ++ (enc n ++ rest)) (pre.length + 1) = n / 256 ^ k % 256 := by
      simp only [bt, List.getD, List.getElem?_append_right (Nat.le_add_right _ _), Nat.add_sub_cancel_left, enc, hk, be, List.cons_append, List.getElem?_cons_succ, List.getElem?_cons_zero, Option.getD_some]
      simp
    rw [hk, Nat.pow_succ] at h1
    have h7 : 1 ≤ n / 256 ^ k := (Nat.one_le_div_iff (Nat.pow_pos (by omega))).2 h5
    have h8 : n / 256 ^ k < 256 := Nat.div_lt_of_lt_mul h1
    omega
  unfold numAt
  rw [if_neg (by omega), hb, if_neg (by omega), if_neg (by omega), if_neg hz, hd, if_neg (by omega)]
end
section
open Go.RowKit

theorem be_mod : ∀ (k a m : Nat), be k (a * 256 ^ k + m) = be k m
  | 0, _, _ => rfl
  | k + 1, a, m => by
    have e : a * 256 ^ (k + 1) + m = (a * 256) * 256 ^ k + m := by rw [Nat.pow_succ, Nat.mul_assoc, Nat.mul_comm 256]
    have hp : 0 < 256 ^ k := Nat.pow_pos (by omega)
    rw [e, be, be, be_mod k (a * 256) m]
    congr 1
    rw [Nat.add_comm, Nat.add_mul_div_right _ _ hp]
    apply UInt8.toNat_inj.1
    simp
theorem be_val : ∀ (ys : List UInt8), be ys.length (val ys) = ys
  | [] => rfl
  | c :: t => by
    have ht := val_lt t.length t rfl
    have hp : 0 < 256 ^ t.length := Nat.pow_pos (by omega)
    rw [List.length_cons, be, val_cons, be_mod, be_val t]
    congr 1
    rw [Nat.add_comm, Nat.add_mul_div_right _ _ hp, Nat.div_eq_of_lt ht, Nat.zero_add]
    simp
theorem dv_ge (xs : List UInt8) (p : Nat) : ∀ k, p + 1 + (k + 1) ≤ xs.length → bt xs (p + 1) * 256 ^ k ≤ dv xs p (k + 1)
  | 0, h => by
    have := dv_succ xs p 0 (by omega)
    rw [dv_zero, Nat.add_zero] at this
    rw [this, Nat.pow_zero]
    simp
  | k + 1, h => by
    have ih := dv_ge xs p k (by omega)
    have e := dv_succ xs p (k + 1) (by omega)
    rw [e, Nat.pow_succ, ← Nat.mul_assoc]
    omega
theorem nb_unique (v n : Nat) (hv : v < 18446744073709551616) (h1 : v < 256 ^ n) (h2 : 0 < n → 256 ^ (n - 1) ≤ v) : nb v = n := by
  obtain ⟨r1, r2⟩ := nb_range v hv
  rcases Nat.lt_trichotomy (nb v) n with h | h | h
  · have h3 := h2 (by omega)
    have h4 : 256 ^ nb v ≤ 256 ^ (n - 1) := Nat.pow_le_pow_right (by omega) (by omega)
    omega
  · exact h
  · have h0 : 0 < v := by
      rcases Nat.eq_zero_or_pos v with e | e
      · subst e; rw [nb_zero] at h; omega
      · exact e
    have h3 := (r2 h0).1
    have h4 : 256 ^ n ≤ 256 ^ (nb v - 1) := Nat.pow_le_pow_right (by omega) (by omega)
    omega

/-- A number that was read has just the bytes that it was read from. -/
theorem numAt_take {xs : List UInt8} {p : Nat} {low high : Int} {v q : Nat} (h : numAt xs p low high = .ok (v, q)) (hp : p ≤ xs.length) : xs.take q = xs.take p ++ enc v := by
  have hok := numAt_ok h hp
  unfold numAt at h
  split at h
  · cases h
  split at h
  · cases h
  split at h
  · cases h
  split at h
  · cases h
  split at h
  · cases h
  rename_i h1 h2 h3 h4 h5
  cases h
  have hn : nb (dv xs p (bt xs p)) = bt xs p := by
    refine nb_unique _ _ (by omega) (dv_lt xs p _ (by omega)) (fun h0 => ?_)
    obtain ⟨k, hk⟩ : ∃ k, bt xs p = k + 1 := ⟨bt xs p - 1, by omega⟩
    have := dv_ge xs p k (by omega)
    rw [hk, show k + 1 - 1 = k by omega]
    have hb : 1 ≤ bt xs (p + 1) := by
      rcases Nat.eq_zero_or_pos (bt xs (p + 1)) with e | e
      · exact absurd ⟨h0, e⟩ h4
      · exact e
    calc 256 ^ k = 1 * 256 ^ k := (Nat.one_mul _).symm
      _ ≤ bt xs (p + 1) * 256 ^ k := Nat.mul_le_mul_right _ hb
      _ ≤ _ := this
  have hlt : p < xs.length := by omega
  have e1 : xs.take (p + 1 + bt xs p) = xs.take p ++ (xs[p] :: ((xs.drop (p + 1)).take (bt xs p))) := by
    rw [Nat.add_assoc, List.take_add, List.drop_eq_getElem_cons hlt, Nat.add_comm 1, List.take_succ_cons]
  rw [e1]
  congr 1
  unfold enc
  rw [hn]
  have hlen : ((xs.drop (p + 1)).take (bt xs p)).length = bt xs p := by simp; omega
  congr 1
  · unfold bt
    simp [List.getD, hlt]
  · have := be_val ((xs.drop (p + 1)).take (bt xs p))
    rw [hlen] at this
    exact this.symm
/-- Bytes that were read have just the bytes that they were read from. -/
theorem rRaw_take {xs : List UInt8} {p : Nat} {fe fa most : Int} (hp : p ≤ xs.length) (he : (rRaw xs p fe fa most).2.2.1 = 0) :
    xs.take (rRaw xs p fe fa most).2.1 = xs.take p ++ (enc (rRaw xs p fe fa most).1.length ++ (rRaw xs p fe fa most).1) := by
  unfold rRaw at he ⊢
  split at he
  · rename_i h; exact absurd he h
  · rename_i h
    rw [if_neg h]
    cases hn : numAt xs p 0 4611686018427387903 with
    | error x =>
      obtain ⟨f, q⟩ := x
      simp only [hn] at he
      have := numAt_err hn
      omega
    | ok x =>
      obtain ⟨n, q⟩ := x
      have hok := numAt_ok hn hp
      simp only [hn] at he ⊢
      split at he
      · simp at he
      split at he
      · simp at he
      rename_i h1 h2
      rw [if_neg h1, if_neg h2]
      simp only
      have hl : ((xs.drop q).take n).length = n := by simp; omega
      rw [hl, ← List.append_assoc, ← numAt_take hn hp, List.take_add]
theorem rNum_take {xs : List UInt8} {p : Nat} {fe fa low high : Int} (hp : p ≤ xs.length) (he : (rNum xs p fe fa low high).2.2.1 = 0) :
    xs.take (rNum xs p fe fa low high).2.1 = xs.take p ++ enc (rNum xs p fe fa low high).1.toNat ∧ 0 ≤ (rNum xs p fe fa low high).1 ∧ (rNum xs p fe fa low high).1 ≤ 4611686018427387903 := by
  unfold rNum at he ⊢
  split at he
  · rename_i h; exact absurd he h
  · rename_i h
    rw [if_neg h]
    cases hn : numAt xs p low high with
    | error x =>
      obtain ⟨f, q⟩ := x
      simp only [hn] at he
      have := numAt_err hn
      omega
    | ok x =>
      obtain ⟨n, q⟩ := x
      have hok := numAt_ok hn hp
      exact ⟨numAt_take hn hp, by simp only; omega, by simp only; omega⟩
end
section
open Go.RowKit

theorem rNum_go (pre rest : List UInt8) (n low high : Int) (h0 : 0 ≤ n) (h1 : n ≤ 4611686018427387903) (hl : low ≤ n) (hh : n ≤ high) (fa : Int) : rNum (pre ++ (enc n.toNat ++ rest)) pre.length 0 fa low high = (n, pre.length + (enc n.toNat).length, 0, fa) := by
  unfold rNum
  rw [if_neg (by simp), numAt_enc pre rest n.toNat low high (by omega) (by omega) (by omega)]
  simp only [enc_len, Prod.mk.injEq, and_true]
  omega
theorem rRaw_go (pre ys rest : List UInt8) (most fa : Int) (h : (ys.length : Int) ≤ most) (hy : ys.length ≤ 4611686018427387903) : rRaw (pre ++ ((enc ys.length ++ ys) ++ rest)) pre.length 0 fa most = (ys, pre.length + (enc ys.length ++ ys).length, 0, fa) := by
  unfold rRaw
  rw [if_neg (by simp), List.append_assoc, numAt_enc pre (ys ++ rest) ys.length 0 4611686018427387903 (by omega) (by omega) (by omega)]
  have hl : (pre ++ (enc ys.length ++ (ys ++ rest))).length = pre.length + (1 + nb ys.length) + ys.length + rest.length := by simp [enc_len]; omega
  simp only
  rw [if_neg (by omega), if_neg (by rw [hl]; omega)]
  have hd : (pre ++ (enc ys.length ++ (ys ++ rest))).drop (pre.length + 1 + nb ys.length) = ys ++ rest := by
    rw [← List.append_assoc, List.drop_append_of_le_length (by simp [enc_len]; omega)]
    have : (pre ++ enc ys.length).drop (pre.length + 1 + nb ys.length) = [] := List.drop_eq_nil_of_le (by simp [enc_len]; omega)
    rw [this, List.nil_append]
  rw [hd, List.take_left]
  simp [enc_len]
  omega
end
section
open Go.RowKit Go.Lib
set_option linter.unusedSimpArgs false
set_option linter.unusedVariables false


/-- May an archive be? -/
def chkA (n : Int) (q : List Sp) : Int := if 1 ≤ n ∧ n ≤ 200 ∧ chkS q = 0 then 0 else 2
theorem chkA_two (n : Int) (q : List Sp) : chkA n q = 0 ∨ chkA n q = 2 := by unfold chkA; split <;> simp
theorem chkA_ok {n : Int} {q : List Sp} (h : chkA n q = 0) : 1 ≤ n ∧ n ≤ 200 ∧ chkS q = 0 := by
  unfold chkA at h
  split at h
  · assumption
  · exact absurd h (by decide)
theorem chkA_lo {n : Int} {q : List Sp} (h : n < 1) : chkA n q = 2 := if_neg (by omega)
theorem chkA_hi {n : Int} {q : List Sp} (h : 200 < n) : chkA n q = 2 := if_neg (by omega)
theorem chkA_in {n : Int} {q : List Sp} (h1 : 1 ≤ n) (h2 : n ≤ 200) : chkA n q = chkS q := by
  unfold chkA
  rcases chk_two q with h | h <;> rw [h]
  · rw [if_pos ⟨h1, h2, rfl⟩]
  · rw [if_neg (by rintro ⟨_, _, h⟩; cases h)]
/-- What comes of one that learns a dot: what is wrong, the node, what is known. -/
def learnA (n : Int) (q : List Sp) (a s : Int) : Int × Int × List Sp := if chkA n q = 0 then (if (joinE q [(a, s, s)]).1 = 0 then (0, n, (joinE q [(a, s, s)]).2) else ((joinE q [(a, s, s)]).1, 0, [])) else (2, 0, [])
def resetA (n : Int) (q : List Sp) (m : Int) (k : List Sp) : Int × Int × List Sp := if chkA n q = 0 ∧ chkA m k = 0 then (0, m, k) else (2, 0, [])
def newA (n : Int) : Int × Int × List Sp := if chkA n [] = 0 then (0, n, []) else (2, 0, [])
theorem joinE_dot {q : List Sp} {a s : Int} (h : chkS [(a, s, s)] ≠ 0) : joinE q [(a, s, s)] = (2, []) := if_neg (fun p => h p.2)
/-- What a writer has behind each part of an archive. -/
def aW0 (n : Int) : List UInt8 × Int := wNum [] 0 n
def aW1 (n : Int) (q : List Sp) : List UInt8 × Int := wRaw (aW0 n).1 (aW0 n).2 (bytesO q)
theorem aW_len (n : Int) (q : List Sp) : (aW0 n).1.length ≤ 1048576 ∧ (aW1 n q).1.length ≤ 1048576 := by
  have h0 : (aW0 n).1.length ≤ 1048576 := wNum_len (by simp)
  exact ⟨h0, wRaw_len h0⟩
/-- An archive's bytes, and what is wrong. -/
def bytesA (n : Int) (q : List Sp) : List UInt8 × Int := if chkA n q = 0 then (outs (aW1 n q).1 (aW1 n q).2, (aW1 n q).2) else ([], 2)
/-- What is read, piece by piece. -/
def rN (xs : List UInt8) : Int × Nat × Int × Int := rNum xs 0 0 0 1 200
def rR (xs : List UInt8) : List UInt8 × Nat × Int × Int := rRaw xs (rN xs).2.1 (rN xs).2.2.1 (rN xs).2.2.2 40000
def rF (xs : List UInt8) : Int × Int := endR xs (rR xs).2.1 (rR xs).2.2.1 (rR xs).2.2.2
/-- What bytes read as: the node, what is known; the fault. -/
def readA (xs : List UInt8) : (Int × List Sp) × Int × Int := if (rF xs).1 ≠ 0 then ((0, []), rF xs) else if (readS (rR xs).1).2.1 ≠ 0 then ((0, []), (2, 0)) else (((rN xs).1, (readS (rR xs).1).1), (0, 0))
theorem rN_calm {xs : List UInt8} (h : (rF xs).1 = 0) : (rN xs).2.2.1 = 0 ∧ (rR xs).2.2.1 = 0 ∧ (rF xs).2 = 0 ∧ xs.length ≤ (rR xs).2.1 := by
  unfold rF at h
  obtain ⟨z2, e2, hp⟩ := endR_calm h
  have z1 := z2
  unfold rR at z1
  obtain ⟨z1, _⟩ := rRaw_calm z1
  refine ⟨z1, z2, ?_, hp⟩
  have q1 : (rN xs).2.2.2 = 0 := by
    have := z1
    unfold rN at this ⊢
    exact (rNum_calm this).2
  have q2 : (rR xs).2.2.2 = (rN xs).2.2.2 := by
    have := z2
    unfold rR at this ⊢
    exact (rRaw_calm this).2
  show (endR xs (rR xs).2.1 (rR xs).2.2.1 (rR xs).2.2.2).2 = 0
  rw [e2, q2, q1]
end
section
open Go.RowKit Go.Lib
set_option linter.unusedSimpArgs false
set_option linter.unusedVariables false
end
end Go.Proofs.YtgafkaigkaghcaaGreatDoor
