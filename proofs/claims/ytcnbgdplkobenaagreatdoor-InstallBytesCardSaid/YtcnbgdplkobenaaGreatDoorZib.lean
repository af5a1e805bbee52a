/- The reader's piece; Raw and Text. The reader's Raw and Text, whatever stands there. Package effect: kinds, Check. A writer, a reader that were made since a world w, and all that was there is as it was: the calls in this form. Package effect: compare, Same, Less, Size, Bytes. New blocks, and the world behind them, under one name. Rows of elements of several cells each (structs): read, owned, appended to. No function of the program is named here. The kit's functions on bytes: same, lent, kept, written over. Package dot: Check, compare, Less, Next; the document's Check, Less, Next. Package dot: compare, Less, Next; the document's Less, Next. Dots in slices: the kit's functions on them. -/
import Derived.Test.YtcnbgdplkobenaaGreatDoorZia
import Derived.Deep.RegionHeld3
import Derived.OrdersHeld
import Derived.Deep.DeepAppendWide
import Derived.Deep.QuietTactic
import Derived.BigQuiet
import Derived.RegionTactic
namespace Go.Proofs.YtcnbgdplkobenaaGreatDoor
section
open Go.RowKit

set_option maxHeartbeats 400000 in
theorem piece_no (w : World) (b g : Nat) (xs : List UInt8) (p : Nat) (fe fa most : Int) (h : Rdr w b g xs p fe fa) (he : fe ≠ 0) :
    Calls Tryz.prog 80 #[.pointer (some ⟨b, 0, none⟩), .int .i64 most] w fun e w' => e = .returned (.slice none 0 0) ∧ w = w' := by
  have H := Lib.hid he
  clear he
  go_enter Tryz.func80, Tryz.ntmps80
  go_wp2
  refine wp_scope_fwd 0 rfl ?_
  go_wp2_with (go_at_call 81; refine (rreads_no _ b g xs p fe fa h H.out).mono ?_; rintro r w' ⟨rfl, rfl⟩)
  simp only [Exit.jump]
  go_ret
  exact ⟨rfl, rfl⟩

set_option maxHeartbeats 400000 in
theorem piece_err (w : World) (b g : Nat) (xs : List UInt8) (p : Nat) (fa most : Int) (h : Rdr w b g xs p 0 fa) (hp : p ≤ xs.length) (hl : xs.length ≤ 140737488351232) (f q : Nat) (hn : numAt xs p 0 4611686018427387903 = .error (f, q)) :
    Calls Tryz.prog 80 #[.pointer (some ⟨b, 0, none⟩), .int .i64 most] w fun e w' => e = .returned (.slice none 0 0) ∧ Failed w w' b g xs p f q := by
  have H := Lib.hid hn
  have hf0 : ((f : Int) != 0) = true := by have := numAt_err hn; simp; omega
  clear hn
  go_enter Tryz.func80, Tryz.ntmps80
  go_wp2
  refine wp_scope_fwd 0 rfl ?_
  go_wp2_with (first
    | (go_at_call 81; refine (rreads_yes _ b g xs p fa h).mono ?_; rintro r w' ⟨rfl, rfl⟩)
    | (go_at_call 82; refine (rnumber_any _ b g xs p fa _ _ h hp hl).mono ?_; rintro r w1 hpost; obtain ⟨rfl, hf⟩ := hpost.1 _ _ H.out; clear hpost; obtain ⟨A1, c1, i1, i2, i3⟩ := id hf.1; have k2 := cell_of i1 3; simp only [List.getElem?_toArray, List.getElem?_cons_zero, List.getElem?_cons_succ] at k2; have HF := Lib.hid hf; have I3 := Lib.hid i3; have I1 := Lib.hid i1; clear hf i1 i3))
  simp only [Exit.jump]
  go_ret
  exact ⟨rfl, HF.out⟩

theorem failed_after {w w1 : World} {b g : Nat} {xs : List UInt8} {p : Nat} {A : Option Addr} {c : Nat} {fe0 fa0 : Int} (hc : Chg [] w w1) (h1 : w1.heap[b]? = some (.cells #[.pointer (some ⟨b, 0, none⟩), .slice A xs.length c, .int .i64 p, .int .i64 fe0, .int .i64 fa0] 120 (0, 0)))
    (h2 : OwnB w1 A c xs) (h3 : A = none ∧ g = b ∨ A = some ⟨g, 0, none⟩) (n m : Nat) (fe fa : Int) :
    Failed w ((((w1.drewN n).setCell ⟨b, 3, none⟩ (.int .i64 fe)).setCell ⟨b, 4, none⟩ (.int .i64 fa)).drewN m) b g xs p fe fa := by
  have := failed_of h1 h2 h3 n m fe fa
  exact ⟨this.1, (hc.mono (by simp)).trans this.2⟩

set_option maxHeartbeats 400000 in
theorem piece_long (w : World) (b g : Nat) (xs : List UInt8) (p : Nat) (fa most : Int) (h : Rdr w b g xs p 0 fa) (hp : p ≤ xs.length) (hl : xs.length ≤ 140737488351232) (n q : Nat) (hn : numAt xs p 0 4611686018427387903 = .ok (n, q)) (hm : most < n) :
    Calls Tryz.prog 80 #[.pointer (some ⟨b, 0, none⟩), .int .i64 most] w fun e w' => e = .returned (.slice none 0 0) ∧ Failed w w' b g xs p 3 p := by
  have hb := numAt_ok hn hp
  have H := Lib.hid hn
  clear hn
  go_enter Tryz.func80, Tryz.ntmps80
  go_wp2
  refine wp_scope_fwd 0 rfl ?_
  go_wp2_with (first
    | (go_at_call 81; refine (rreads_yes _ b g xs p fa h).mono ?_; rintro r w' ⟨rfl, rfl⟩)
    | (go_at_call 82; refine (rnumber_any _ b g xs p fa _ _ h hp hl).mono ?_; rintro r w1 hpost; obtain ⟨rfl, hf⟩ := hpost.2 _ _ H.out; clear hpost; have hr1 := h.chg hf (by simp) (by simp); obtain ⟨A1, c1, i1, i2, i3⟩ := id hr1; have k1 := cell_of i1 1; have k2 := cell_of i1 2; have k3 := cell_of i1 3; have k4 := cell_of i1 4; have f3 := free_of i1 3; have f4 := free_of i1 4; simp only [List.getElem?_toArray, List.getElem?_cons_zero, List.getElem?_cons_succ] at k1 k2 k3 k4; have HF := Lib.hid hf; have I3 := Lib.hid i3; have I1 := Lib.hid i1; clear hf i1 i3))
  go_step3
  refine And.intro rfl ?_
  show Code.wp _ _ _ _ _
  go_wp2
  simp only [Exit.jump]
  go_ret
  exact ⟨rfl, failed_after HF.out I1.out i2 I3.out 0 0 _ _⟩
set_option maxHeartbeats 400000 in
theorem piece_end (w : World) (b g : Nat) (xs : List UInt8) (p : Nat) (fa most : Int) (h : Rdr w b g xs p 0 fa) (hp : p ≤ xs.length) (hl : xs.length ≤ 140737488351232) (n q : Nat) (hn : numAt xs p 0 4611686018427387903 = .ok (n, q)) (hm : (n : Int) ≤ most) (hm2 : (xs.length : Int) - q < n) :
    Calls Tryz.prog 80 #[.pointer (some ⟨b, 0, none⟩), .int .i64 most] w fun e w' => e = .returned (.slice none 0 0) ∧ Failed w w' b g xs p 4 xs.length := by
  have hb := numAt_ok hn hp
  have H := Lib.hid hn
  clear hn
  go_enter Tryz.func80, Tryz.ntmps80
  go_wp2
  refine wp_scope_fwd 0 rfl ?_
  go_wp2_with (first
    | (go_at_call 81; refine (rreads_yes _ b g xs p fa h).mono ?_; rintro r w' ⟨rfl, rfl⟩)
    | (go_at_call 82; refine (rnumber_any _ b g xs p fa _ _ h hp hl).mono ?_; rintro r w1 hpost; obtain ⟨rfl, hf⟩ := hpost.2 _ _ H.out; clear hpost; have hr1 := h.chg hf (by simp) (by simp); obtain ⟨A1, c1, i1, i2, i3⟩ := id hr1; have k1 := cell_of i1 1; have k2 := cell_of i1 2; have k3 := cell_of i1 3; have k4 := cell_of i1 4; have f3 := free_of i1 3; have f4 := free_of i1 4; simp only [List.getElem?_toArray, List.getElem?_cons_zero, List.getElem?_cons_succ] at k1 k2 k3 k4; have HF := Lib.hid hf; have I3 := Lib.hid i3; have I1 := Lib.hid i1; clear hf i1 i3))
  go_quiet (fail)
  go_wp2
  go_step3
  refine And.intro rfl ?_
  show Code.wp _ _ _ _ _
  go_wp2
  simp only [Exit.jump]
  go_ret
  exact ⟨rfl, failed_after HF.out I1.out i2 I3.out _ 0 _ _⟩
theorem piece_bs {w : World} {A : Option Addr} {c : Nat} {xs : List UInt8} (own : OwnB w A c xs) (n q : Nat) (h : q + n ≤ xs.length) : Bs w (A.map (fun x => x.add q)) n ((xs.drop q).take n) := by
  refine ⟨by simp; omega, fun j u hj => ?_⟩
  rw [List.getElem?_take] at hj
  split at hj
  · rw [List.getElem?_drop] at hj
    obtain ⟨a, e, hc⟩ := own.reads.cells (q + j) u hj
    rcases own.form with ⟨rfl, _⟩ | ⟨g, cur, rfl, _⟩
    · cases e
    · cases e
      refine ⟨⟨g, q, none⟩, by simp [add_zero_lit], ?_⟩
      rw [add_zero_lit] at hc
      rw [add_lit]; exact hc
  · cases hj

/-- What the piece is, and what the reader is behind it. -/
def Piece (w w' : World) (b g : Nat) (xs : List UInt8) (n q : Nat) (fa : Int) (e : Ending) : Prop :=
  ∃ A c, e = .returned (.slice A n c) ∧ Bs w' A n ((xs.drop q).take n) ∧ (∀ a, A = some a → a.block = g) ∧ Rdr w' b g xs (q + n) 0 fa ∧ Chg [b] w w'

theorem piece_fin {w w1 : World} {b g : Nat} {xs : List UInt8} {p n q : Nat} {fa : Int} {A : Option Addr} {c : Nat} (hc : Chg [] w w1) (h : Rdr w1 b g xs p 0 fa) (h1 : w1.heap[b]? = some (.cells #[.pointer (some ⟨b, 0, none⟩), .slice A xs.length c, .int .i64 p, .int .i64 0, .int .i64 fa] 120 (0, 0)))
    (own : OwnB w1 A c xs) (h3 : A = none ∧ g = b ∨ A = some ⟨g, 0, none⟩) (hq : q + n ≤ xs.length) (m : Nat) (B : Option Addr) (d : Nat) (hB : B = A.map (fun x => x.add q) ∨ n = 0 ∧ B = A) :
    Piece w ((w1.setCell ⟨b, 2, none⟩ (.int .i64 ((q : Int) + n))).drewN m) b g xs n q fa (.returned (.slice B n d)) := by
  have hp := h.place (q := q + n)
  have hne := own.ne h1 (by decide)
  have hg : ∀ a, A = some a → a.block = g := by
    rintro a rfl
    rcases h3 with ⟨h3, _⟩ | h3
    · cases h3
    · cases h3; rfl
  have hs : Chg [b] w1 ((w1.setCell ⟨b, 2, none⟩ (.int .i64 ((q : Int) + n))).drewN m) := hp.2.drewN m
  refine ⟨B, d, rfl, ?_, ?_, hp.1.drewN m, (hc.mono (by simp)).trans hs⟩
  · rcases hB with rfl | ⟨rfl, rfl⟩
    · refine (piece_bs own n q hq).chg hs ?_
      rintro a e
      cases A with
      | none => cases e
      | some a0 =>
        simp at e
        subst e
        rw [block_add]
        simpa using hne _ rfl
    · simpa using Bs.nil _ B
  · rintro a rfl
    rcases hB with hB | ⟨_, hB⟩
    · cases A with
      | none => cases hB
      | some a0 =>
        simp at hB
        subst hB
        rw [block_add]
        exact hg _ rfl
    · exact hg a hB.symm

set_option maxHeartbeats 400000 in
theorem piece_ok (w : World) (b g : Nat) (xs : List UInt8) (p : Nat) (fa most : Int) (h : Rdr w b g xs p 0 fa) (hp : p ≤ xs.length) (hl : xs.length ≤ 140737488351232) (n q : Nat) (hn : numAt xs p 0 4611686018427387903 = .ok (n, q)) (hm : (n : Int) ≤ most) (hm2 : (n : Int) ≤ xs.length - q) :
    Calls Tryz.prog 80 #[.pointer (some ⟨b, 0, none⟩), .int .i64 most] w fun e w' => Piece w w' b g xs n q fa e := by
  have hb := numAt_ok hn hp
  have H := Lib.hid hn
  clear hn
  go_enter Tryz.func80, Tryz.ntmps80
  go_wp2
  refine wp_scope_fwd 0 rfl ?_
  go_wp2_with (first
    | (go_at_call 81; refine (rreads_yes _ b g xs p fa h).mono ?_; rintro r w' ⟨rfl, rfl⟩)
    | (go_at_call 82; refine (rnumber_any _ b g xs p fa _ _ h hp hl).mono ?_; rintro r w1 hpost; obtain ⟨rfl, hf⟩ := hpost.2 _ _ H.out; clear hpost; have hr1 := h.chg hf (by simp) (by simp); obtain ⟨A1, c1, i1, i2, i3⟩ := id hr1; have k1 := cell_of i1 1; have k2 := cell_of i1 2; have k3 := cell_of i1 3; have hcap := i2.cap; unfold maxLen at hcap; have f2 := free_of i1 2; simp only [List.getElem?_toArray, List.getElem?_cons_zero, List.getElem?_cons_succ] at k1 k2 k3; have HF := Lib.hid hf; have I3 := Lib.hid i3; have I1 := Lib.hid i1; clear hf i1 i3))
  go_quiet (fail)
  go_wp2
  · simp only [Exit.jump]
    go_ret
    have e0 : n = 0 := by omega
    exact piece_fin HF.out hr1 I1.out i2 I3.out (by omega) _ _ _ (.inr ⟨e0, rfl⟩)
  · simp only [Exit.jump]
    go_ret
    exact piece_fin HF.out hr1 I1.out i2 I3.out (by omega) _ _ _ (.inl rfl)
end
section
open Go.RowKit

/-- What a reader tells, and what it is behind that, where bytes are asked for. -/
def rRaw (xs : List UInt8) (p : Nat) (fe fa most : Int) : List UInt8 × Nat × Int × Int :=
  if fe ≠ 0 then ([], p, fe, fa) else match numAt xs p 0 4611686018427387903 with
    | .error (f, q) => ([], p, (f : Int), (q : Int))
    | .ok (n, q) => if most < n then ([], p, 3, (p : Int)) else if (xs.length : Int) - q < n then ([], p, 4, (xs.length : Int)) else ((xs.drop q).take n, q + n, 0, fa)

/-- What a piece leaves. -/
def PiecePost (w : World) (b g : Nat) (xs : List UInt8) (r : List UInt8 × Nat × Int × Int) (e : Ending) (w' : World) : Prop :=
  ∃ A c, e = .returned (.slice A r.1.length c) ∧ Bs w' A r.1.length r.1 ∧ (∀ a, A = some a → a.block = g) ∧ Rdr w' b g xs r.2.1 r.2.2.1 r.2.2.2 ∧ Chg [b] w w'

theorem piece_failed {w w' : World} {b g : Nat} {xs : List UInt8} {p : Nat} {fe fa : Int} {e : Ending} (h : e = .returned (.slice none 0 0) ∧ Failed w w' b g xs p fe fa) : PiecePost w b g xs ([], p, fe, fa) e w' :=
  ⟨none, 0, h.1, Bs.nil _ _, by simp, h.2.1, h.2.2⟩

theorem piece_any (w : World) (b g : Nat) (xs : List UInt8) (p : Nat) (fe fa most : Int) (h : Rdr w b g xs p fe fa) (hp : p ≤ xs.length) (hl : xs.length ≤ 140737488351232) :
    Calls Tryz.prog 80 #[.pointer (some ⟨b, 0, none⟩), .int .i64 most] w (PiecePost w b g xs (rRaw xs p fe fa most)) := by
  unfold rRaw
  by_cases he : fe = 0
  · subst he
    simp only [ne_eq, not_true_eq_false, if_false]
    cases hn : numAt xs p 0 4611686018427387903 with
    | error x => obtain ⟨f, q⟩ := x; exact (piece_err w b g xs p fa most h hp hl f q hn).mono fun e w' he => piece_failed he
    | ok x =>
      obtain ⟨n, q⟩ := x
      by_cases h1 : most < n
      · simp only [if_pos h1]; exact (piece_long w b g xs p fa most h hp hl n q hn h1).mono fun e w' he => piece_failed he
      · by_cases h2 : (xs.length : Int) - q < n
        · simp only [if_neg h1, if_pos h2]; exact (piece_end w b g xs p fa most h hp hl n q hn (by omega) h2).mono fun e w' he => piece_failed he
        · simp only [if_neg h1, if_neg h2]
          refine (piece_ok w b g xs p fa most h hp hl n q hn (by omega) (by omega)).mono fun e w' he => ?_
          obtain ⟨A, c, h3, h4, h5, h6, h7⟩ := he
          have hlen := h4.len
          refine ⟨A, c, ?_, ?_, h5, h6, h7⟩
          · show _ = Ending.returned (.slice A ((xs.drop q).take n).length c)
            rw [hlen]; exact h3
          · show Bs w' A ((xs.drop q).take n).length ((xs.drop q).take n)
            rw [hlen]; exact h4
  · simp only [ne_eq, he, not_false_eq_true, if_true]
    exact (piece_no w b g xs p fe fa most h he).mono fun e w' ⟨h1, h2⟩ => ⟨none, 0, h1, Bs.nil _ _, by simp, h2 ▸ h, h2 ▸ Chg.refl _ _⟩

theorem rRaw_le {xs : List UInt8} {p : Nat} {fe fa most : Int} (hp : p ≤ xs.length) : (rRaw xs p fe fa most).1.length ≤ xs.length ∧ (rRaw xs p fe fa most).2.1 ≤ xs.length := by
  unfold rRaw
  split
  · exact ⟨Nat.zero_le _, hp⟩
  · split
    · exact ⟨Nat.zero_le _, hp⟩
    · rename_i n q hn
      have := numAt_ok hn hp
      split
      · exact ⟨Nat.zero_le _, hp⟩
      · split
        · exact ⟨Nat.zero_le _, hp⟩
        · simp; omega
theorem rNum_le {xs : List UInt8} {p : Nat} {fe fa low high : Int} (hp : p ≤ xs.length) : (rNum xs p fe fa low high).2.1 ≤ xs.length := by
  unfold rNum
  split
  · exact hp
  · split
    · exact hp
    · rename_i n q hn
      exact (numAt_ok hn hp).1

/-- What Raw leaves. -/
def RawPost (w : World) (b g : Nat) (xs : List UInt8) (r : List UInt8 × Nat × Int × Int) (e : Ending) (w' : World) : Prop :=
  ∃ A c, e = .returned (.slice A r.1.length c) ∧ OwnB w' A c r.1 ∧ (∀ a, A = some a → w.heap.size ≤ a.block) ∧ Rdr w' b g xs r.2.1 r.2.2.1 r.2.2.2 ∧ Chg [b] w w'

set_option maxHeartbeats 400000 in
theorem rraw_any (w : World) (b g : Nat) (xs : List UInt8) (p : Nat) (fe fa most : Int) (h : Rdr w b g xs p fe fa) (hp : p ≤ xs.length) (hl : xs.length ≤ 140737488351232) :
    Calls Tryz.prog 44 #[.pointer (some ⟨b, 0, none⟩), .int .i64 most] w (RawPost w b g xs (rRaw xs p fe fa most)) := by
  have hle := (rRaw_le (fe := fe) (fa := fa) (most := most) hp).1
  have hpc := piece_any w b g xs p fe fa most h hp hl
  generalize rRaw xs p fe fa most = r at hle hpc
  have HP := Lib.hid hpc
  clear hpc
  go_enter Tryz.func44, Tryz.ntmps44
  go_wp2_with (first
    | (go_at_call 80; refine HP.out.mono ?_; rintro e w1 ⟨A, c, rfl, q1, q2, q3, q4⟩; have Q2 := Lib.hid q2; clear q2)
    | (go_at_call 77; refine (clone_any _ _ _ _ r.1 q1 (by omega)).mono ?_; rintro e w2 ⟨A2, c2, rfl, f1, f2, f3⟩; have F2 := Lib.hid f2; clear f2))
  go_ret
  have hs := q4.size
  refine ⟨A2, c2, rfl, f1, fun a e => ?_, q3.chg f3 (by simp) (by simp), q4.trans (f3.mono (by simp))⟩
  have := F2.out a e
  omega

/-- What Text leaves. -/
def TextPost (w : World) (b g : Nat) (xs : List UInt8) (r : List UInt8 × Nat × Int × Int) (e : Ending) (w' : World) : Prop :=
  e = .returned (.string (strOf r.1)) ∧ Rdr w' b g xs r.2.1 r.2.2.1 r.2.2.2 ∧ Chg [b] w w'

set_option maxHeartbeats 400000 in
theorem rtext_any (w : World) (b g : Nat) (xs : List UInt8) (p : Nat) (fe fa most : Int) (h : Rdr w b g xs p fe fa) (hp : p ≤ xs.length) (hl : xs.length ≤ 140737488351232) :
    Calls Tryz.prog 43 #[.pointer (some ⟨b, 0, none⟩), .int .i64 most] w (TextPost w b g xs (rRaw xs p fe fa most)) := by
  have hpc := piece_any w b g xs p fe fa most h hp hl
  generalize rRaw xs p fe fa most = r at hpc
  have HP := Lib.hid hpc
  clear hpc
  go_enter Tryz.func43, Tryz.ntmps43
  go_wp2_with (go_at_call 80; refine HP.out.mono ?_; rintro e w1 ⟨A, c, rfl, q1, q2, q3, q4⟩; have Q2 := Lib.hid q2; clear q2; have hs := run_str w1 (c := c) q1)
  go_ret
  exact ⟨rfl, q3, q4⟩
end
section
open Go.RowKit

set_option maxHeartbeats 400000 in
theorem kinds_any (w : World) : Calls Tryz.prog 89 #[] w fun e w' => e = .returned (.agg #[.bool false, .int .i64 0, .int .i64 0, .bool true, .int .i64 511, .int .i64 1000, .bool true, .int .i64 511, .int .i64 0, .bool true, .int .i64 0, .int .i64 0]) ∧ Chg [] w w' := by
  go_enter Tryz.func89, Tryz.ntmps89
  go_wp2
  refine bodyPost_ret (v := .agg #[.bool false, .int .i64 0, .int .i64 0, .bool true, .int .i64 511, .int .i64 1000, .bool true, .int .i64 511, .int .i64 0, .bool true, .int .i64 0, .int .i64 0]) (by simp [results, Tryz.results89, go_sem]) rfl ?_
  exact ⟨rfl, (Chg.refl _ _).alloc _⟩

/-- Which effects may be. -/
def Fine (k m : Int) (n : Nat) : Prop := k = 1 ∧ 0 ≤ m ∧ m ≤ 511 ∧ n ≤ 1000 ∨ k = 2 ∧ 0 ≤ m ∧ m ≤ 511 ∧ n = 0 ∨ k = 3 ∧ m = 0 ∧ n = 0
instance (k m : Int) (n : Nat) : Decidable (Fine k m n) := by unfold Fine; exact inferInstance
/-- Why an effect may not be. -/
def chkE (k m : Int) (n : Nat) : Int := if Fine k m n then 0 else 2
theorem chkE_fine {k m : Int} {n : Nat} (h : Fine k m n) : chkE k m n = 0 := if_pos h
theorem chkE_odd {k m : Int} {n : Nat} (h : ¬ Fine k m n) : chkE k m n = 2 := if_neg h

set_option maxHeartbeats 4000000 in
theorem check_any (w : World) (k m : Int) (A : Option Addr) (n c : Nat) (hn : n ≤ 140737488351232) :
    Calls Tryz.prog 59 #[.agg #[.int .i64 k, .int .i64 m, .slice A n c]] w fun e w' => e = .returned (.int .i64 (chkE k m n)) ∧ Chg [] w w' := by
  have hk : k < 0 ∨ 4 ≤ k ∨ k = 0 ∨ k = 1 ∨ k = 2 ∨ k = 3 := by omega
  have go : ∀ v, chkE k m n = v → Calls Tryz.prog 59 #[.agg #[.int .i64 k, .int .i64 m, .slice A n c]] w (fun e w' => e = .returned (.int .i64 v) ∧ Chg [] w w') → Calls Tryz.prog 59 #[.agg #[.int .i64 k, .int .i64 m, .slice A n c]] w fun e w' => e = .returned (.int .i64 (chkE k m n)) ∧ Chg [] w w' := fun v hv h => hv ▸ h
  rcases hk with h | h | h | h | h | h
  · refine go 2 (chkE_odd (by unfold Fine; omega)) ?_
    clear go
    go_enter Tryz.func59, Tryz.ntmps59
    go_wp2_with fail
    refine (kinds_any _).mono ?_
    rintro e w1 ⟨rfl, hc⟩
    have q := hc.at_ (heap_alloc_new w (.cells #[_, _, _] 24)) (by simp)
    have q0 := cell_of q 0
    have q1 := cell_of q 1
    have q2 := cell_of q 2
    simp only [List.getElem?_toArray, List.getElem?_cons_succ, List.getElem?_cons_zero] at q0 q1 q2
    have hz : w.heap.size < w1.heap.size := lt_of_cell q0
    have C1 := Lib.hid (((Chg.refl [] w).alloc _).trans hc)
    clear hc q
    generalize w.heap.size = s at *
    go_wp2
    go_ret
    exact ⟨rfl, C1.out.alloc _⟩
  · refine go 2 (chkE_odd (by unfold Fine; omega)) ?_
    clear go
    have h' : ¬ k < 0 := by omega
    go_enter Tryz.func59, Tryz.ntmps59
    go_wp2_with fail
    refine (kinds_any _).mono ?_
    rintro e w1 ⟨rfl, hc⟩
    have q := hc.at_ (heap_alloc_new w (.cells #[_, _, _] 24)) (by simp)
    have q0 := cell_of q 0
    have q1 := cell_of q 1
    have q2 := cell_of q 2
    simp only [List.getElem?_toArray, List.getElem?_cons_succ, List.getElem?_cons_zero] at q0 q1 q2
    have hz : w.heap.size < w1.heap.size := lt_of_cell q0
    have C1 := Lib.hid (((Chg.refl [] w).alloc _).trans hc)
    clear hc q
    generalize w.heap.size = s at *
    go_wp2
    go_ret
    exact ⟨rfl, C1.out.alloc _⟩
  · refine go 2 (chkE_odd (by unfold Fine; omega)) ?_
    subst h
    clear go
    go_enter Tryz.func59, Tryz.ntmps59
    go_wp2_with fail
    refine (kinds_any _).mono ?_
    rintro e w1 ⟨rfl, hc⟩
    have q := hc.at_ (heap_alloc_new w (.cells #[_, _, _] 24)) (by simp)
    have q0 := cell_of q 0
    have q1 := cell_of q 1
    have q2 := cell_of q 2
    simp only [List.getElem?_toArray, List.getElem?_cons_succ, List.getElem?_cons_zero] at q0 q1 q2
    have hz : w.heap.size < w1.heap.size := lt_of_cell q0
    have C1 := Lib.hid (((Chg.refl [] w).alloc _).trans hc)
    clear hc q
    generalize w.heap.size = s at *
    go_wp2
    go_ret
    exact ⟨rfl, (C1.out.alloc _).alloc _⟩
  · subst h
    by_cases m0 : m < 0
    · refine go 2 (chkE_odd (by unfold Fine; omega)) ?_
      clear go
      go_enter Tryz.func59, Tryz.ntmps59
      go_wp2_with fail
      refine (kinds_any _).mono ?_
      rintro e w1 ⟨rfl, hc⟩
      have q := hc.at_ (heap_alloc_new w (.cells #[_, _, _] 24)) (by simp)
      have q0 := cell_of q 0
      have q1 := cell_of q 1
      have q2 := cell_of q 2
      simp only [List.getElem?_toArray, List.getElem?_cons_succ, List.getElem?_cons_zero] at q0 q1 q2
      have hz : w.heap.size < w1.heap.size := lt_of_cell q0
      have C1 := Lib.hid (((Chg.refl [] w).alloc _).trans hc)
      clear hc q
      generalize w.heap.size = s at *
      go_wp2
      go_ret
      exact ⟨rfl, (C1.out.alloc _).alloc _⟩
    by_cases m1 : 511 < m
    · refine go 2 (chkE_odd (by unfold Fine; omega)) ?_
      clear go
      go_enter Tryz.func59, Tryz.ntmps59
      go_wp2_with fail
      refine (kinds_any _).mono ?_
      rintro e w1 ⟨rfl, hc⟩
      have q := hc.at_ (heap_alloc_new w (.cells #[_, _, _] 24)) (by simp)
      have q0 := cell_of q 0
      have q1 := cell_of q 1
      have q2 := cell_of q 2
      simp only [List.getElem?_toArray, List.getElem?_cons_succ, List.getElem?_cons_zero] at q0 q1 q2
      have hz : w.heap.size < w1.heap.size := lt_of_cell q0
      have C1 := Lib.hid (((Chg.refl [] w).alloc _).trans hc)
      clear hc q
      generalize w.heap.size = s at *
      go_wp2
      go_ret
      exact ⟨rfl, (C1.out.alloc _).alloc _⟩
    by_cases n1 : 1000 < n
    · refine go 2 (chkE_odd (by unfold Fine; omega)) ?_
      clear go
      go_enter Tryz.func59, Tryz.ntmps59
      go_wp2_with fail
      refine (kinds_any _).mono ?_
      rintro e w1 ⟨rfl, hc⟩
      have q := hc.at_ (heap_alloc_new w (.cells #[_, _, _] 24)) (by simp)
      have q0 := cell_of q 0
      have q1 := cell_of q 1
      have q2 := cell_of q 2
      simp only [List.getElem?_toArray, List.getElem?_cons_succ, List.getElem?_cons_zero] at q0 q1 q2
      have hz : w.heap.size < w1.heap.size := lt_of_cell q0
      have C1 := Lib.hid (((Chg.refl [] w).alloc _).trans hc)
      clear hc q
      generalize w.heap.size = s at *
      go_wp2
      go_ret
      exact ⟨rfl, (C1.out.alloc _).alloc _⟩
    · refine go 0 (chkE_fine (by unfold Fine; omega)) ?_
      clear go
      go_enter Tryz.func59, Tryz.ntmps59
      go_wp2_with fail
      refine (kinds_any _).mono ?_
      rintro e w1 ⟨rfl, hc⟩
      have q := hc.at_ (heap_alloc_new w (.cells #[_, _, _] 24)) (by simp)
      have q0 := cell_of q 0
      have q1 := cell_of q 1
      have q2 := cell_of q 2
      simp only [List.getElem?_toArray, List.getElem?_cons_succ, List.getElem?_cons_zero] at q0 q1 q2
      have hz : w.heap.size < w1.heap.size := lt_of_cell q0
      have C1 := Lib.hid (((Chg.refl [] w).alloc _).trans hc)
      clear hc q
      generalize w.heap.size = s at *
      go_wp2
      go_ret
      exact ⟨rfl, (C1.out.alloc _).alloc _⟩
  · subst h
    by_cases m0 : m < 0
    · refine go 2 (chkE_odd (by unfold Fine; omega)) ?_
      clear go
      go_enter Tryz.func59, Tryz.ntmps59
      go_wp2_with fail
      refine (kinds_any _).mono ?_
      rintro e w1 ⟨rfl, hc⟩
      have q := hc.at_ (heap_alloc_new w (.cells #[_, _, _] 24)) (by simp)
      have q0 := cell_of q 0
      have q1 := cell_of q 1
      have q2 := cell_of q 2
      simp only [List.getElem?_toArray, List.getElem?_cons_succ, List.getElem?_cons_zero] at q0 q1 q2
      have hz : w.heap.size < w1.heap.size := lt_of_cell q0
      have C1 := Lib.hid (((Chg.refl [] w).alloc _).trans hc)
      clear hc q
      generalize w.heap.size = s at *
      go_wp2
      go_ret
      exact ⟨rfl, (C1.out.alloc _).alloc _⟩
    by_cases m1 : 511 < m
    · refine go 2 (chkE_odd (by unfold Fine; omega)) ?_
      clear go
      go_enter Tryz.func59, Tryz.ntmps59
      go_wp2_with fail
      refine (kinds_any _).mono ?_
      rintro e w1 ⟨rfl, hc⟩
      have q := hc.at_ (heap_alloc_new w (.cells #[_, _, _] 24)) (by simp)
      have q0 := cell_of q 0
      have q1 := cell_of q 1
      have q2 := cell_of q 2
      simp only [List.getElem?_toArray, List.getElem?_cons_succ, List.getElem?_cons_zero] at q0 q1 q2
      have hz : w.heap.size < w1.heap.size := lt_of_cell q0
      have C1 := Lib.hid (((Chg.refl [] w).alloc _).trans hc)
      clear hc q
      generalize w.heap.size = s at *
      go_wp2
      go_ret
      exact ⟨rfl, (C1.out.alloc _).alloc _⟩
    by_cases n1 : 0 < n
    · refine go 2 (chkE_odd (by unfold Fine; omega)) ?_
      clear go
      go_enter Tryz.func59, Tryz.ntmps59
      go_wp2_with fail
      refine (kinds_any _).mono ?_
      rintro e w1 ⟨rfl, hc⟩
      have q := hc.at_ (heap_alloc_new w (.cells #[_, _, _] 24)) (by simp)
      have q0 := cell_of q 0
      have q1 := cell_of q 1
      have q2 := cell_of q 2
      simp only [List.getElem?_toArray, List.getElem?_cons_succ, List.getElem?_cons_zero] at q0 q1 q2
      have hz : w.heap.size < w1.heap.size := lt_of_cell q0
      have C1 := Lib.hid (((Chg.refl [] w).alloc _).trans hc)
      clear hc q
      generalize w.heap.size = s at *
      go_wp2
      go_ret
      exact ⟨rfl, (C1.out.alloc _).alloc _⟩
    · obtain rfl : n = 0 := by omega
      refine go 0 (chkE_fine (by unfold Fine; omega)) ?_
      clear go
      go_enter Tryz.func59, Tryz.ntmps59
      go_wp2_with fail
      refine (kinds_any _).mono ?_
      rintro e w1 ⟨rfl, hc⟩
      have q := hc.at_ (heap_alloc_new w (.cells #[_, _, _] 24)) (by simp)
      have q0 := cell_of q 0
      have q1 := cell_of q 1
      have q2 := cell_of q 2
      simp only [List.getElem?_toArray, List.getElem?_cons_succ, List.getElem?_cons_zero] at q0 q1 q2
      have hz : w.heap.size < w1.heap.size := lt_of_cell q0
      have C1 := Lib.hid (((Chg.refl [] w).alloc _).trans hc)
      clear hc q
      generalize w.heap.size = s at *
      go_wp2
      go_ret
      exact ⟨rfl, (C1.out.alloc _).alloc _⟩
  · subst h
    by_cases m0 : m < 0
    · refine go 2 (chkE_odd (by unfold Fine; omega)) ?_
      clear go
      go_enter Tryz.func59, Tryz.ntmps59
      go_wp2_with fail
      refine (kinds_any _).mono ?_
      rintro e w1 ⟨rfl, hc⟩
      have q := hc.at_ (heap_alloc_new w (.cells #[_, _, _] 24)) (by simp)
      have q0 := cell_of q 0
      have q1 := cell_of q 1
      have q2 := cell_of q 2
      simp only [List.getElem?_toArray, List.getElem?_cons_succ, List.getElem?_cons_zero] at q0 q1 q2
      have hz : w.heap.size < w1.heap.size := lt_of_cell q0
      have C1 := Lib.hid (((Chg.refl [] w).alloc _).trans hc)
      clear hc q
      generalize w.heap.size = s at *
      go_wp2
      go_ret
      exact ⟨rfl, (C1.out.alloc _).alloc _⟩
    by_cases m1 : 0 < m
    · refine go 2 (chkE_odd (by unfold Fine; omega)) ?_
      clear go
      go_enter Tryz.func59, Tryz.ntmps59
      go_wp2_with fail
      refine (kinds_any _).mono ?_
      rintro e w1 ⟨rfl, hc⟩
      have q := hc.at_ (heap_alloc_new w (.cells #[_, _, _] 24)) (by simp)
      have q0 := cell_of q 0
      have q1 := cell_of q 1
      have q2 := cell_of q 2
      simp only [List.getElem?_toArray, List.getElem?_cons_succ, List.getElem?_cons_zero] at q0 q1 q2
      have hz : w.heap.size < w1.heap.size := lt_of_cell q0
      have C1 := Lib.hid (((Chg.refl [] w).alloc _).trans hc)
      clear hc q
      generalize w.heap.size = s at *
      go_wp2
      go_ret
      exact ⟨rfl, (C1.out.alloc _).alloc _⟩
    obtain rfl : m = 0 := by omega
    by_cases n1 : 0 < n
    · refine go 2 (chkE_odd (by unfold Fine; omega)) ?_
      clear go
      go_enter Tryz.func59, Tryz.ntmps59
      go_wp2_with fail
      refine (kinds_any _).mono ?_
      rintro e w1 ⟨rfl, hc⟩
      have q := hc.at_ (heap_alloc_new w (.cells #[_, _, _] 24)) (by simp)
      have q0 := cell_of q 0
      have q1 := cell_of q 1
      have q2 := cell_of q 2
      simp only [List.getElem?_toArray, List.getElem?_cons_succ, List.getElem?_cons_zero] at q0 q1 q2
      have hz : w.heap.size < w1.heap.size := lt_of_cell q0
      have C1 := Lib.hid (((Chg.refl [] w).alloc _).trans hc)
      clear hc q
      generalize w.heap.size = s at *
      go_wp2
      go_ret
      exact ⟨rfl, (C1.out.alloc _).alloc _⟩
    · obtain rfl : n = 0 := by omega
      refine go 0 (chkE_fine (by unfold Fine; omega)) ?_
      clear go
      go_enter Tryz.func59, Tryz.ntmps59
      go_wp2_with fail
      refine (kinds_any _).mono ?_
      rintro e w1 ⟨rfl, hc⟩
      have q := hc.at_ (heap_alloc_new w (.cells #[_, _, _] 24)) (by simp)
      have q0 := cell_of q 0
      have q1 := cell_of q 1
      have q2 := cell_of q 2
      simp only [List.getElem?_toArray, List.getElem?_cons_succ, List.getElem?_cons_zero] at q0 q1 q2
      have hz : w.heap.size < w1.heap.size := lt_of_cell q0
      have C1 := Lib.hid (((Chg.refl [] w).alloc _).trans hc)
      clear hc q
      generalize w.heap.size = s at *
      go_wp2
      go_ret
      exact ⟨rfl, (C1.out.alloc _).alloc _⟩
end
section
open Go.RowKit

theorem Chg.both {w w1 w2 : World} {S : List Nat} (h : Chg [] w w1) (k : Chg S w1 w2) (hs : ∀ i ∈ S, w.heap.size ≤ i) : Chg [] w w2 :=
  h.trans' k fun i hi => .inr (hs i hi)

/-- A writer made since w. -/
def Ws (w w' : World) (b : Nat) (xs : List UInt8) (e : Int) : Prop := ∃ g, Wrt w' b g xs e ∧ w.heap.size ≤ b ∧ w.heap.size ≤ g ∧ Chg [] w w'
theorem Ws.chg {w w' : World} {b : Nat} {xs : List UInt8} {e : Int} (h : Ws w w' b xs e) : Chg [] w w' := by obtain ⟨_, _, _, _, h⟩ := h; exact h
theorem Ws.past {w w1 w2 : World} {b : Nat} {xs : List UInt8} {e : Int} (h : Ws w w1 b xs e) (hc : Chg [] w1 w2) : Ws w w2 b xs e := by
  obtain ⟨g, h1, h2, h3, h4⟩ := h
  exact ⟨g, h1.chg hc (by simp) (by simp), h2, h3, h4.trans hc⟩
theorem ws_between {w w1 w2 : World} {b g : Nat} {xs : List UInt8} {e : Int} (h2 : w.heap.size ≤ b) (h3 : w.heap.size ≤ g) (h4 : Chg [] w w1) (h : Between w1 w2 b g xs e) : Ws w w2 b xs e := by
  obtain ⟨g', q1, q2, q3⟩ := h
  have := h4.size
  refine ⟨g', q1, h2, by omega, h4.both q2 ?_⟩
  intro i hi
  simp at hi
  omega
theorem ws_new (w w1 : World) (hc : Chg [] w w1) : Calls Tryz.prog 31 #[] w1 fun r w' => ∃ b, r = .returned (.pointer (some ⟨b, 0, none⟩)) ∧ Ws w w' b [] 0 :=
  (new_any w1).mono fun _ _ ⟨h1, h2, h3⟩ => ⟨_, h1, _, h2, hc.size, hc.size, hc.trans h3⟩
theorem ws_num (w w1 : World) (b : Nat) (xs : List UInt8) (e x : Int) (h : Ws w w1 b xs e) (hlen : xs.length ≤ 1048576) :
    Calls Tryz.prog 34 #[.pointer (some ⟨b, 0, none⟩), .int .i64 x] w1 fun r w' => r = .returned (.tuple #[]) ∧ Ws w w' b (wNum xs e x).1 (wNum xs e x).2 := by
  obtain ⟨g, h1, h2, h3, h4⟩ := h
  exact (wnum_any w1 b g xs e x h1 hlen).mono fun _ _ ⟨q1, q2⟩ => ⟨q1, ws_between h2 h3 h4 q2⟩
theorem ws_raw (w w1 : World) (b : Nat) (xs : List UInt8) (e : Int) (B : Option Addr) (m d : Nat) (ys : List UInt8) (h : Ws w w1 b xs e) (hlen : xs.length ≤ 1048576) (hm : m ≤ 140737488351232) (hr : Bs w B m ys) :
    Calls Tryz.prog 33 #[.pointer (some ⟨b, 0, none⟩), .slice B m d] w1 fun r w' => r = .returned (.tuple #[]) ∧ Ws w w' b (wRaw xs e ys).1 (wRaw xs e ys).2 := by
  obtain ⟨g, h1, h2, h3, h4⟩ := h
  exact (wraw_any w1 b g xs e B m d ys h1 hlen hm (hr.chg h4 (by simp)) (hr.apart h2 h3)).mono fun _ _ ⟨q1, q2⟩ => ⟨q1, ws_between h2 h3 h4 q2⟩
theorem ws_text (w w1 : World) (b : Nat) (xs : List UInt8) (e : Int) (s : ByteArray) (h : Ws w w1 b xs e) (hlen : xs.length ≤ 1048576) (hm : s.size ≤ 140737488351232) :
    Calls Tryz.prog 32 #[.pointer (some ⟨b, 0, none⟩), .string s] w1 fun r w' => r = .returned (.tuple #[]) ∧ Ws w w' b (wRaw xs e s.data.toList).1 (wRaw xs e s.data.toList).2 := by
  obtain ⟨g, h1, h2, h3, h4⟩ := h
  exact (wtext_any w1 b g xs e s h1 hlen hm).mono fun _ _ ⟨q1, q2⟩ => ⟨q1, ws_between h2 h3 h4 q2⟩
theorem Fresh.since {w w1 w2 : World} {A : Option Addr} {c : Nat} {ys : List UInt8} (hc : Chg [] w w1) (h : Fresh w1 w2 A c ys) : Fresh w w2 A c ys :=
  ⟨h.1, fun a e => by have := h.2.1 a e; have := hc.size; omega, hc.trans h.2.2⟩
theorem Fresh.past {w w1 w2 : World} {A : Option Addr} {c : Nat} {ys : List UInt8} (h : Fresh w w1 A c ys) (hc : Chg [] w1 w2) : Fresh w w2 A c ys :=
  ⟨h.1.chg hc (by simp), h.2.1, h.2.2.trans hc⟩
theorem Fresh.none_ {w w1 : World} (hc : Chg [] w w1) : Fresh w w1 none 0 [] := ⟨OwnB.none_ _, by simp, hc⟩
theorem ws_out (w w1 : World) (b : Nat) (xs : List UInt8) (e : Int) (h : Ws w w1 b xs e) (hlen : xs.length ≤ 1048576) :
    Calls Tryz.prog 35 #[.pointer (some ⟨b, 0, none⟩)] w1 fun r w' => ∃ A c, r = .returned (.tuple #[.slice A (outs xs e).length c, .int .i64 e]) ∧ Fresh w w' A c (outs xs e) := by
  obtain ⟨g, h1, h2, h3, h4⟩ := h
  exact (wout_any w1 b g xs e h1 hlen).mono fun _ _ ⟨A, c, q1, q2⟩ => ⟨A, c, q1, q2.since h4⟩

/-- A reader made since w. -/
def Rs (w w' : World) (b : Nat) (xs : List UInt8) (p : Nat) (fe fa : Int) : Prop := ∃ g, Rdr w' b g xs p fe fa ∧ w.heap.size ≤ b ∧ w.heap.size ≤ g ∧ Chg [] w w' ∧ p ≤ xs.length ∧ xs.length ≤ 140737488351232
theorem Rs.chg {w w' : World} {b : Nat} {xs : List UInt8} {p : Nat} {fe fa : Int} (h : Rs w w' b xs p fe fa) : Chg [] w w' := by obtain ⟨_, _, _, _, h, _⟩ := h; exact h
theorem Rs.past {w w1 w2 : World} {b : Nat} {xs : List UInt8} {p : Nat} {fe fa : Int} (h : Rs w w1 b xs p fe fa) (hc : Chg [] w1 w2) : Rs w w2 b xs p fe fa := by
  obtain ⟨g, h1, h2, h3, h4, h5⟩ := h
  exact ⟨g, h1.chg hc (by simp) (by simp), h2, h3, h4.trans hc, h5⟩
theorem rs_open (w w1 : World) (B : Option Addr) (m d : Nat) (ys : List UInt8) (hc : Chg [] w w1) (hr : Bs w B m ys) (hm : m ≤ 140737488351232) :
    Calls Tryz.prog 42 #[.slice B m d] w1 fun r w' => ∃ b, r = .returned (.pointer (some ⟨b, 0, none⟩)) ∧ Rs w w' b ys 0 0 0 := by
  have hs := hc.size
  have hl := hr.len
  exact (open_any w1 B m d ys (hr.chg hc (by simp)) hm).mono fun _ _ ⟨b, g, h1, h2, h3, h4, h5⟩ => ⟨b, h1, g, h2, by omega, by omega, hc.trans h3, by omega, by omega⟩
theorem rs_num (w w1 : World) (b : Nat) (xs : List UInt8) (p : Nat) (fe fa low high : Int) (h : Rs w w1 b xs p fe fa) :
    Calls Tryz.prog 45 #[.pointer (some ⟨b, 0, none⟩), .int .i64 low, .int .i64 high] w1 fun r w' => r = .returned (.int .i64 (rNum xs p fe fa low high).1) ∧ Rs w w' b xs (rNum xs p fe fa low high).2.1 (rNum xs p fe fa low high).2.2.1 (rNum xs p fe fa low high).2.2.2 ∧ Chg [b] w1 w' := by
  obtain ⟨g, h1, h2, h3, h4, h5, h6⟩ := h
  exact (rnum_any w1 b g xs p fe fa low high h1 h5 h6).mono fun _ _ ⟨q1, q2, q3⟩ => ⟨q1, ⟨g, q2, h2, h3, h4.both q3 (by simpa using h2), rNum_le h5, h6⟩, q3⟩
theorem rs_raw (w w1 : World) (b : Nat) (xs : List UInt8) (p : Nat) (fe fa most : Int) (h : Rs w w1 b xs p fe fa) :
    Calls Tryz.prog 44 #[.pointer (some ⟨b, 0, none⟩), .int .i64 most] w1 fun r w' => ∃ A c, r = .returned (.slice A (rRaw xs p fe fa most).1.length c) ∧ OwnB w' A c (rRaw xs p fe fa most).1 ∧ (∀ a, A = some a → w1.heap.size ≤ a.block) ∧ Rs w w' b xs (rRaw xs p fe fa most).2.1 (rRaw xs p fe fa most).2.2.1 (rRaw xs p fe fa most).2.2.2 ∧ Chg [b] w1 w' := by
  obtain ⟨g, h1, h2, h3, h4, h5, h6⟩ := h
  exact (rraw_any w1 b g xs p fe fa most h1 h5 h6).mono fun _ _ ⟨A, c, q1, q2, q3, q4, q5⟩ => ⟨A, c, q1, q2, q3, ⟨g, q4, h2, h3, h4.both q5 (by simpa using h2), (rRaw_le h5).2, h6⟩, q5⟩
theorem rs_text (w w1 : World) (b : Nat) (xs : List UInt8) (p : Nat) (fe fa most : Int) (h : Rs w w1 b xs p fe fa) :
    Calls Tryz.prog 43 #[.pointer (some ⟨b, 0, none⟩), .int .i64 most] w1 fun r w' => r = .returned (.string (strOf (rRaw xs p fe fa most).1)) ∧ Rs w w' b xs (rRaw xs p fe fa most).2.1 (rRaw xs p fe fa most).2.2.1 (rRaw xs p fe fa most).2.2.2 ∧ Chg [b] w1 w' := by
  obtain ⟨g, h1, h2, h3, h4, h5, h6⟩ := h
  exact (rtext_any w1 b g xs p fe fa most h1 h5 h6).mono fun _ _ ⟨q1, q4, q5⟩ => ⟨q1, ⟨g, q4, h2, h3, h4.both q5 (by simpa using h2), (rRaw_le h5).2, h6⟩, q5⟩
/-- What the end tells. -/
def endR (xs : List UInt8) (p : Nat) (fe fa : Int) : Int × Int := if fe = 0 ∧ p < xs.length then (4, p) else (fe, fa)
theorem rs_end (w w1 : World) (b : Nat) (xs : List UInt8) (p : Nat) (fe fa : Int) (h : Rs w w1 b xs p fe fa) :
    Calls Tryz.prog 46 #[.pointer (some ⟨b, 0, none⟩)] w1 fun r w' => r = .returned (.agg #[.int .i64 (endR xs p fe fa).1, .int .i64 (endR xs p fe fa).2]) ∧ Chg [] w1 w' := by
  obtain ⟨g, h1, h2, h3, h4, h5, h6⟩ := h
  unfold endR
  by_cases he : fe = 0 ∧ p < xs.length
  · rw [if_pos he]
    obtain ⟨rfl, hp⟩ := he
    exact rend_left w1 b g xs p fa h1 hp h6
  · rw [if_neg he]
    exact rend_done w1 b g xs p fe fa h1 (fun e => by omega) h6
end
section
open Go.RowKit

/-- An effect's bytes. -/
def effB (k m : Int) (ys : List UInt8) : List UInt8 := enc k.toNat ++ enc m.toNat ++ enc ys.length ++ ys
/-- What Bytes tells. -/
def effO (k m : Int) (ys : List UInt8) : List UInt8 := if Fine k m ys.length then effB k m ys else []
theorem fine_len {k m : Int} {n : Nat} (h : Fine k m n) : 0 ≤ k ∧ k ≤ 3 ∧ 0 ≤ m ∧ m ≤ 511 ∧ n ≤ 1000 := by unfold Fine at h; omega
/-- The three writings of an effect that may be. -/
theorem eff_writes {k m : Int} {ys : List UInt8} (h : Fine k m ys.length) :
    wNum [] 0 k = (enc k.toNat, 0) ∧ wNum (enc k.toNat) 0 m = (enc k.toNat ++ enc m.toNat, 0) ∧ wRaw (enc k.toNat ++ enc m.toNat) 0 ys = (effB k m ys, 0) ∧ (enc k.toNat).length ≤ 9 ∧ (enc k.toNat ++ enc m.toNat).length ≤ 18 ∧ (effB k m ys).length ≤ 1100 := by
  obtain ⟨h1, h2, h3, h4, h5⟩ := fine_len h
  have b1 := nb_le k.toNat (by omega)
  have b2 := nb_le m.toNat (by omega)
  have b3 := nb_le ys.length (by omega)
  have l1 : (enc k.toNat).length = 1 + nb k.toNat := enc_len _
  have l2 : (enc m.toNat).length = 1 + nb m.toNat := enc_len _
  have l3 : (enc ys.length).length = 1 + nb ys.length := enc_len _
  refine ⟨?_, ?_, ?_, by omega, by rw [List.length_append]; omega, by unfold effB; simp only [List.length_append]; omega⟩
  · unfold wNum; rw [if_neg (by simp), if_neg (by omega), if_neg (by simp; omega), List.nil_append]
  · unfold wNum; rw [if_neg (by simp), if_neg (by omega), if_neg (by omega)]
  · unfold wRaw effB; rw [if_neg (by simp), if_neg (by simp only [List.length_append]; omega)]

set_option maxHeartbeats 1000000 in
theorem ebytes_any (w : World) (k m : Int) (A : Option Addr) (n c : Nat) (ys : List UInt8) (h : Bs w A n ys) (hn : n ≤ 140737488351232) :
    Calls Tryz.prog 29 #[.agg #[.int .i64 k, .int .i64 m, .slice A n c]] w fun e w' => ∃ A' c', e = .returned (.tuple #[.slice A' (effO k m ys).length c', .int .i64 (chkE k m n)]) ∧ Fresh w w' A' c' (effO k m ys) := by
  have hl := h.len
  subst hl
  obtain ⟨w0, hw0⟩ : ∃ w0 : World, w0 = w.alloc (.cells #[.int .i64 k, .int .i64 m, .slice A ys.length c] 24) := ⟨_, rfl⟩
  have c0 : Chg [] w w0 := hw0 ▸ (Chg.refl [] w).alloc _
  have b0 : w0.heap[w.heap.size]? = some (.cells #[.int .i64 k, .int .i64 m, .slice A ys.length c] 24 (0, 0)) := hw0 ▸ heap_alloc_new w _
  have k0 := cell_of b0 0
  have k1 := cell_of b0 1
  have k2 := cell_of b0 2
  simp only [List.getElem?_toArray, List.getElem?_cons_succ, List.getElem?_cons_zero] at k0 k1 k2
  have H := Lib.hid (h.chg c0 (by simp))
  have W0 := Lib.hid hw0
  have C0 := Lib.hid c0
  clear hw0 c0 b0 h
  unfold effO
  by_cases hf : Fine k m ys.length
  · rw [if_pos hf, chkE_fine hf]
    obtain ⟨e1, e2, e3, l1, l2, l3⟩ := eff_writes hf
    have E1 := Lib.hid e1
    have E2 := Lib.hid e2
    have E3 := Lib.hid e3
    have hc := check_any w0 k m A ys.length c hn
    rw [chkE_fine hf] at hc
    have HC := Lib.hid hc
    clear e1 e2 e3 hf hc
    go_enter Tryz.func29, Tryz.ntmps29
    go_wp2_with fail
    rw [← W0.out]
    refine HC.out.mono ?_
    rintro e w1 ⟨rfl, c1⟩
    have C1 := Lib.hid c1
    clear c1
    generalize w.heap.size = s at *
    go_wp2_with fail
    refine (ws_new w0 w1 C1.out).mono ?_
    rintro e w2 ⟨b, rfl, h2⟩
    have p0 := h2.chg.cell k0 (by simp)
    have K2 := Lib.hid h2
    clear h2 C1
    go_wp2_with fail
    refine (ws_num w0 w2 b [] 0 k K2.out (by simp)).mono ?_
    rintro e w3 ⟨rfl, h3⟩
    rw [E1.out] at h3
    have p1 := h3.chg.cell k1 (by simp)
    have K3 := Lib.hid h3
    clear h3 p0 K2
    go_wp2_with fail
    refine (ws_num w0 w3 b _ 0 m K3.out (by omega)).mono ?_
    rintro e w4 ⟨rfl, h4⟩
    rw [E2.out] at h4
    have p2 := h4.chg.cell k2 (by simp)
    have K4 := Lib.hid h4
    clear h4 p1 K3
    go_wp2_with fail
    refine (ws_raw w0 w4 b _ 0 A ys.length c ys K4.out (by omega) hn H.out).mono ?_
    rintro e w5 ⟨rfl, h5⟩
    rw [E3.out] at h5
    have K5 := Lib.hid h5
    clear h5 p2 K4
    go_wp2_with fail
    refine (ws_out w0 w5 b _ 0 K5.out (by omega)).mono ?_
    rintro e w6 ⟨A', c', rfl, h6⟩
    have e0 : outs (effB k m ys) 0 = effB k m ys := by simp [outs]
    rw [e0] at h6 ⊢
    have K6 := Lib.hid (h6.since C0.out)
    clear h6 e0 k0 k1 k2 K5
    go_wp2
    go_ret2
    exact ⟨A', c', rfl, K6.out⟩
  · rw [if_neg hf, chkE_odd hf]
    have hc := check_any w0 k m A ys.length c hn
    rw [chkE_odd hf] at hc
    have HC := Lib.hid hc
    clear hf hc
    go_enter Tryz.func29, Tryz.ntmps29
    go_wp2_with fail
    rw [← W0.out]
    refine HC.out.mono ?_
    rintro e w1 ⟨rfl, c1⟩
    have C1 := Lib.hid (C0.out.trans c1)
    clear c1
    go_wp2
    go_ret2
    exact ⟨none, 0, rfl, Fresh.none_ C1.out⟩
end
section
open Go.RowKit

theorem news1 (w : World) (o : Obj) : ∃ w' : World, w' = w.alloc o ∧ Chg [] w w' ∧ w'.heap[w.heap.size]? = some o := ⟨_, rfl, (Chg.refl [] w).alloc _, heap_alloc_new w o⟩
theorem news2 (w : World) (o o' : Obj) : ∃ w' : World, w' = (w.alloc o).alloc o' ∧ Chg [] w w' ∧ w'.heap[w.heap.size]? = some o ∧ w'.heap[w.heap.size + 1]? = some o' :=
  ⟨_, rfl, ((Chg.refl [] w).alloc _).alloc _, ((Chg.refl [] _).alloc o').at_ (heap_alloc_new w o) (by simp), heap_alloc_two w o o'⟩
theorem news3 (w : World) (o o' o'' : Obj) : ∃ w' : World, w' = ((w.alloc o).alloc o').alloc o'' ∧ Chg [] w w' ∧ w'.heap[w.heap.size]? = some o ∧ w'.heap[w.heap.size + 1]? = some o' ∧ w'.heap[w.heap.size + 2]? = some o'' := by
  refine ⟨_, rfl, (((Chg.refl [] w).alloc _).alloc _).alloc _, ?_, ?_, ?_⟩
  · exact ((Chg.refl [] _).alloc o'').at_ (((Chg.refl [] _).alloc o').at_ (heap_alloc_new w o) (by simp)) (by simp)
  · exact ((Chg.refl [] _).alloc o'').at_ (heap_alloc_two w o o') (by simp)
  · have := heap_alloc_two (w.alloc o) o' o''
    rwa [World.size_alloc] at this
/-- A store into a block that is new since w. -/
theorem Chg.put {w w' : World} {s : Nat} (h : Chg [] w w') (hs : w.heap.size ≤ s) (j : Nat) (v : Value) : Chg [] w (w'.setCell ⟨s, j, none⟩ v) := h.setCell (.inr hs) _
theorem Chg.put' {w w' : World} {s : Nat} (h : Chg [s] w w') (j : Nat) (v : Value) : Chg [s] w (w'.setCell ⟨s, j, none⟩ v) := h.setCell (.inl (by simp)) _

theorem OwnB.lt {w : World} {A : Option Addr} {c : Nat} {xs : List UInt8} (h : OwnB w A c xs) : ∀ a, A = some a → a.block < w.heap.size := by
  rintro a rfl
  rcases h with ⟨h, _, _⟩ | ⟨g, full, h, hg, _⟩
  · cases h
  · cases h; exact lt_of_heap hg
section
variable {P : Program} {ops : Array Oper} {Q : Exit → Act → World → Prop} {md : Region.Mode} {S : World → Prop}
/-- A step that yields at once, its slot written out. -/
theorem step_yes (i d : Nat) (v : Value) {oi : Oper} {fuel : Nat} {listed : Array Bool} {a : Act} {w : World} (hS : S w) (hi : ops[i]? = some oi) (hd : oi.dst = some d)
    (hs : Region.noSelect ops = true) (hf : Region.free md ops listed i = true) (hr : (Region.ready md ops listed).contains i = true)
    (hQ : ∀ c a w, Q (.panic c) (a.put (some d) v) w → Q (.panic c) a w) (hw : Region.wanted oi (yielded ops a.tmps) = true) (hy : ∀ w, S w → (execOp a.eval oi).run P w = .ok (.value v) w)
    (h : wpAnyH P md ops Q S fuel (listed.setIfInBounds i true) (a.put (some d) v) w) : wpAnyH P md ops Q S (fuel + 1) listed a w :=
  wpAnyH_take hi hs hf hr (by rw [hd]; exact hQ) (.inl ⟨hw, hy⟩) hS (by rw [hd]; exact h)
/-- A step that is not wanted. -/
theorem step_no (i d : Nat) {oi : Oper} {fuel : Nat} {listed : Array Bool} {a : Act} {w : World} (hS : S w) (hi : ops[i]? = some oi) (hd : oi.dst = some d)
    (hs : Region.noSelect ops = true) (hf : Region.free md ops listed i = true) (hr : (Region.ready md ops listed).contains i = true)
    (hQ : ∀ c a w, Q (.panic c) (a.put (some d) undef) w → Q (.panic c) a w) (hw : Region.wanted oi (yielded ops a.tmps) = false)
    (h : wpAnyH P md ops Q S fuel (listed.setIfInBounds i true) (a.put (some d) undef) w) : wpAnyH P md ops Q S (fuel + 1) listed a w :=
  wpAnyH_take hi hs hf hr (by rw [hd]; exact hQ) (.inr ⟨hw, rfl⟩) hS (by rw [hd]; exact h)
/-- 'step_yes', short: what is closed is proved by itself. -/
theorem sy (i d : Nat) {v : Value} {oi : Oper} {fuel : Nat} {listed : Array Bool} {a : Act} {w : World} (hi : ops[i]? = some oi) (hd : oi.dst = some d)
    (h : wpAnyH P md ops Q S fuel (listed.setIfInBounds i true) (a.put (some d) v) w)
    (hS : S w := by assumption) (hs : Region.noSelect ops = true := by kernel_rfl) (hf : Region.free md ops listed i = true := by kernel_rfl) (hr : (Region.ready md ops listed).contains i = true := by kernel_rfl)
    (hQ : ∀ c a w, Q (.panic c) (a.put (some d) v) w → Q (.panic c) a w := by exact fun _ _ _ h => h) (hw : Region.wanted oi (yielded ops a.tmps) = true := by rfl)
    (hy : ∀ w, S w → (execOp a.eval oi).run P w = .ok (.value v) w := by intro w hSw; (try dsimp only at hSw); go_simp; try with_reducible rfl) : wpAnyH P md ops Q S (fuel + 1) listed a w :=
  step_yes i d v hS hi hd hs hf hr hQ hw hy h
end
theorem sA {α : Type} (l : List α) (i : Nat) (a : α) : l.toArray.setIfInBounds i a = (l.set i a).toArray := List.setIfInBounds_toArray ..
theorem s0 {α : Type} (x y : α) (l : List α) : (x :: l).set 0 y = y :: l := rfl
theorem s1 {α : Type} (x y : α) (l : List α) (n : Nat) : (x :: l).set (n + 1) y = x :: l.set n y := rfl
end
section
open Go.RowKit
set_option linter.unusedSimpArgs false
set_option linter.unusedVariables false

/-- A type of elements: its cells, its slices, its zero. -/
structure RowTy (α : Type) where
  enc : α → List Value
  k : Nat
  T : TypeId
  TS : TypeId
  z : α
  zv : Value
  bytes : Nat
  klen : ∀ x, (enc x).length = k
  one : ∀ x, ∀ v ∈ enc x, v.oneCell' = true
  zc : zv.cells.toList = enc z
  kpos : 0 < k
  bpos : bytes ≤ 200
  under : Tryz.prog.underlying TS = some (.slice T)
  info : (Tryz.prog.info? T).map (fun i => (i.zero, i.size, i.bytes)) = some (some zv, k, bytes)

section
variable {α : Type} (R : RowTy α)
def RowTy.flat (xs : List α) : List Value := xs.flatMap R.enc
theorem RowTy.flat_nil : R.flat [] = [] := rfl
theorem RowTy.flat_app (xs ys : List α) : R.flat (xs ++ ys) = R.flat xs ++ R.flat ys := by simp [RowTy.flat]
theorem RowTy.flat_cons (x : α) (ys : List α) : R.flat (x :: ys) = R.enc x ++ R.flat ys := by simp [RowTy.flat]
theorem RowTy.flat_len (xs : List α) : (R.flat xs).length = xs.length * R.k := by
  induction xs with
  | nil => simp [RowTy.flat]
  | cons x xs ih => rw [R.flat_cons, List.length_append, R.klen, ih, List.length_cons, Nat.succ_mul]; omega
theorem RowTy.flat_one (xs : List α) : ∀ v ∈ R.flat xs, v.oneCell' = true := by
  intro v hv
  simp only [RowTy.flat, List.mem_flatMap] at hv
  obtain ⟨x, _, hx⟩ := hv
  exact R.one x v hx
theorem RowTy.flat_at : ∀ (xs : List α) (j i : Nat) (x : α), xs[j]? = some x → i < R.k → (R.flat xs)[j * R.k + i]? = (R.enc x)[i]?
  | [], j, i, x, h, _ => by simp at h
  | y :: ys, 0, i, x, h, hi => by
    simp at h
    subst h
    rw [R.flat_cons, Nat.zero_mul, Nat.zero_add, List.getElem?_append_left (by rw [R.klen]; exact hi)]
  | y :: ys, j + 1, i, x, h, hi => by
    have h' : ys[j]? = some x := by simpa using h
    rw [R.flat_cons, List.getElem?_append_right (by rw [R.klen, Nat.succ_mul]; omega), R.klen]
    rw [show (j + 1) * R.k + i - R.k = j * R.k + i by rw [Nat.succ_mul]; omega]
    exact RowTy.flat_at ys j i x h' hi
theorem RowTy.flat_take (xs : List α) (j : Nat) : R.flat (xs.take j) = (R.flat xs).take (j * R.k) := by
  by_cases h : j ≤ xs.length
  · have e : (R.flat (xs.take j)).length = j * R.k := by rw [R.flat_len, List.length_take, Nat.min_eq_left h]
    have e2 : R.flat xs = R.flat (xs.take j) ++ R.flat (xs.drop j) := by rw [← R.flat_app, List.take_append_drop]
    rw [e2, ← e, List.take_left]
  · rw [List.take_of_length_le (l := xs) (by omega), List.take_of_length_le]
    rw [R.flat_len]
    exact Nat.mul_le_mul_right _ (by omega)
theorem RowTy.flat_drop (xs : List α) (j : Nat) : R.flat (xs.drop j) = (R.flat xs).drop (j * R.k) := by
  by_cases h : j ≤ xs.length
  · have e : (R.flat (xs.take j)).length = j * R.k := by rw [R.flat_len, List.length_take, Nat.min_eq_left h]
    have e2 : R.flat xs = R.flat (xs.take j) ++ R.flat (xs.drop j) := by rw [← R.flat_app, List.take_append_drop]
    rw [e2, ← e, List.drop_left]
  · rw [List.drop_of_length_le (by omega), R.flat_nil, List.drop_of_length_le]
    rw [R.flat_len]
    exact Nat.mul_le_mul_right _ (by omega)
theorem RowTy.flat_ext (l : List Value) (ys : List α) (hl : l.length = ys.length * R.k) (h : ∀ q i x, ys[q]? = some x → i < R.k → l[q * R.k + i]? = (R.enc x)[i]?) : l = R.flat ys := by
  apply List.ext_getElem?
  intro p
  by_cases hp : p < ys.length * R.k
  · have hq : p / R.k < ys.length := (Nat.div_lt_iff_lt_mul R.kpos).2 hp
    have hm : p % R.k < R.k := Nat.mod_lt _ R.kpos
    have e := h (p / R.k) (p % R.k) _ (List.getElem?_eq_getElem hq) hm
    have e2 := R.flat_at ys (p / R.k) (p % R.k) _ (List.getElem?_eq_getElem hq) hm
    rw [Nat.div_add_mod' p R.k] at e e2
    rw [e, e2]
  · rw [List.getElem?_eq_none (by omega), List.getElem?_eq_none (by rw [R.flat_len]; omega)]
theorem RowTy.zeros (n : Nat) : Builtin.zeroCells R.zv.cells n = (R.flat (List.replicate n R.z)).toArray := by
  have hk : R.zv.cells.size = R.k := by rw [← Array.length_toList, R.zc, R.klen]
  apply Array.toList_inj.1
  apply List.ext_getElem?
  intro i
  by_cases hi : i < n * R.k
  · have hd : i / R.k < n := (Nat.div_lt_iff_lt_mul R.kpos).2 hi
    have hm : i % R.k < R.k := Nat.mod_lt _ R.kpos
    have h2 := R.flat_at (List.replicate n R.z) (i / R.k) (i % R.k) R.z (by simp [hd]) hm
    rw [Nat.div_add_mod' i R.k] at h2
    rw [show (R.flat (List.replicate n R.z)).toArray.toList = R.flat (List.replicate n R.z) by simp, h2, ← R.zc]
    simp [Builtin.zeroCells, hk, hi, getElem!_pos, hm]
  · rw [List.getElem?_eq_none (by simp [Builtin.zeroCells, hk]; omega), List.getElem?_eq_none (by simp [R.flat_len]; omega)]

/-- The slice '.slice A n _' reads as these elements. -/
structure RdK (w : World) (A : Option Addr) (n : Nat) (xs : List α) : Prop where
  len : xs.length = n
  cells : ∀ j v, (R.flat xs)[j]? = some v → ∃ a, A = some a ∧ w.cell? (a.add j) = some v
/-- The slice '.slice A xs.length c' owns a row that begins with these. -/
def OwnK (w : World) (A : Option Addr) (c : Nat) (xs : List α) : Prop :=
  (A = none ∧ xs = [] ∧ c = 0) ∨ ∃ (g : Nat) (full : List α), A = some ⟨g, 0, none⟩ ∧ w.heap[g]? = some (.cells (R.flat full).toArray R.T (0, 0)) ∧ full.length = c ∧ c ≤ maxLen ∧ xs.length ≤ c ∧ full.take xs.length = xs
end
section
variable {α : Type} {R : RowTy α}
theorem RdK.nil (w : World) (A : Option Addr) : RdK R w A 0 [] := ⟨rfl, by simp [RowTy.flat]⟩
theorem RdK.chg {S : List Nat} {w w' : World} {A : Option Addr} {n : Nat} {xs : List α} (h : RdK R w A n xs) (hc : Chg S w w') (hn : ∀ a, A = some a → a.block ∉ S) : RdK R w' A n xs :=
  ⟨h.len, fun j u hj => by
    obtain ⟨a, ha, hcell⟩ := h.cells j u hj
    exact ⟨a, ha, hc.cell hcell (by rw [block_add]; exact hn a ha)⟩⟩
theorem RdK.old {w : World} {A : Option Addr} {n : Nat} {xs : List α} (h : RdK R w A n xs) : xs = [] ∨ ∀ a, A = some a → a.block < w.heap.size := by
  cases xs with
  | nil => exact .inl rfl
  | cons x xs =>
    right
    rintro a rfl
    have h0 : ∃ v, (R.flat (x :: xs))[0]? = some v := by
      have : 0 < (R.flat (x :: xs)).length := by rw [R.flat_len, List.length_cons]; exact Nat.mul_pos (by omega) R.kpos
      exact ⟨_, List.getElem?_eq_getElem this⟩
    obtain ⟨v, hv⟩ := h0
    obtain ⟨a', e, hc⟩ := h.cells 0 v hv
    cases e
    have := lt_of_cell hc
    rwa [block_add] at this
/-- One element's cells. -/
theorem RdK.at_ {w : World} {g o n : Nat} {xs : List α} (h : RdK R w (some ⟨g, o, none⟩) n xs) (j i : Nat) (x : α) (v : Value) (hx : xs[j]? = some x) (hi : (R.enc x)[i]? = some v) : w.cell? ⟨g, o + (j * R.k + i), none⟩ = some v := by
  have hik : i < R.k := by rw [← R.klen x]; exact (List.getElem?_eq_some_iff.1 hi).1
  obtain ⟨a, e, hc⟩ := h.cells _ v ((R.flat_at xs j i x hx hik).trans hi)
  cases e
  rwa [add_lit] at hc
theorem RdK.line {w : World} {A : Option Addr} {n : Nat} {xs : List α} (h : RdK R w A n xs) (h0 : 0 < n) : ∃ g o, A = some ⟨g, o, none⟩ ∧ g < w.heap.size := by
  have hl := h.len
  have hp : 0 < (R.flat xs).length := by rw [R.flat_len]; exact Nat.mul_pos (by omega) R.kpos
  obtain ⟨a, rfl, hc⟩ := h.cells 0 _ (List.getElem?_eq_getElem hp)
  have hsp := World.cell?_spot hc
  have hb := lt_of_cell hc
  obtain ⟨g, o, sp⟩ := a
  have hsp : sp = none := by simpa [Addr.add] using hsp
  subst hsp
  rw [block_add] at hb
  exact ⟨g, o, rfl, hb⟩
theorem OwnK.none_ (w : World) : OwnK R w none 0 [] := .inl ⟨rfl, rfl, rfl⟩
theorem OwnK.of {w : World} {g c : Nat} {full xs : List α} (hg : w.heap[g]? = some (.cells (R.flat full).toArray R.T (0, 0))) (h1 : xs.length ≤ c) (h2 : c ≤ maxLen) (h3 : full.length = c) (h4 : full.take xs.length = xs) :
    OwnK R w (some ⟨g, 0, none⟩) c xs := .inr ⟨g, full, rfl, hg, h3, h2, h1, h4⟩
theorem OwnK.cap {w : World} {A : Option Addr} {c : Nat} {xs : List α} (h : OwnK R w A c xs) : xs.length ≤ c ∧ c ≤ maxLen := by
  rcases h with ⟨_, rfl, rfl⟩ | ⟨_, _, _, _, _, h1, h2, _⟩
  · simp [maxLen]
  · exact ⟨h2, h1⟩
theorem OwnK.reads {w : World} {A : Option Addr} {c : Nat} {xs : List α} (h : OwnK R w A c xs) : RdK R w A xs.length xs := by
  refine ⟨rfl, fun j u hj => ?_⟩
  rcases h with ⟨_, rfl, _⟩ | ⟨g, full, rfl, hg, _, _, _, ht⟩
  · simp [RowTy.flat] at hj
  · refine ⟨_, rfl, ?_⟩
    rw [← ht, R.flat_take, List.getElem?_take] at hj
    split at hj
    · rw [add_zero_lit, cell_of hg]; simpa using hj
    · cases hj
theorem OwnK.chg {S : List Nat} {w w' : World} {A : Option Addr} {c : Nat} {xs : List α} (h : OwnK R w A c xs) (hc : Chg S w w') (hn : ∀ a, A = some a → a.block ∉ S) : OwnK R w' A c xs := by
  rcases h with h | ⟨g, full, h1, h2, r⟩
  · exact .inl h
  · exact .inr ⟨g, full, h1, hc.at_ h2 (hn _ h1), r⟩
theorem OwnK.lt {w : World} {A : Option Addr} {c : Nat} {xs : List α} (h : OwnK R w A c xs) : ∀ a, A = some a → a.block < w.heap.size := by
  rintro a rfl
  rcases h with ⟨h, _, _⟩ | ⟨g, full, h, hg, _⟩
  · cases h
  · cases h; exact lt_of_heap hg
theorem OwnK.shape {w : World} {A : Option Addr} {c : Nat} {xs : List α} (h : OwnK R w A c xs) : A = none ∧ xs = [] ∧ c = 0 ∨ ∃ g, A = some ⟨g, 0, none⟩ ∧ g < w.heap.size := by
  rcases h with h | ⟨g, full, h, hg, _⟩
  · exact .inl h
  · exact .inr ⟨g, h, lt_of_heap hg⟩
/-- A prefix of what is owned is owned. -/
theorem OwnK.take {w : World} {A : Option Addr} {c : Nat} {xs : List α} (h : OwnK R w A c xs) (j : Nat) : OwnK R w A c (xs.take j) := by
  rcases h with ⟨h1, rfl, h3⟩ | ⟨g, full, h1, h2, h3, h4, h5, h6⟩
  · exact .inl ⟨h1, by simp, h3⟩
  · refine .inr ⟨g, full, h1, h2, h3, h4, by rw [List.length_take]; omega, ?_⟩
    rw [List.length_take]
    conv => rhs; rw [← h6, List.take_take]
theorem RdK.part {w : World} {g o n : Nat} {xs : List α} (h : RdK R w (some ⟨g, o, none⟩) n xs) (q m : Nat) (hq : q + m ≤ n) : RdK R w (some ⟨g, o + q * R.k, none⟩) m ((xs.drop q).take m) := by
  have hl := h.len
  refine ⟨by simp; omega, fun j v hj => ⟨_, rfl, ?_⟩⟩
  rw [R.flat_take, R.flat_drop, List.getElem?_take] at hj
  split at hj
  · rw [List.getElem?_drop] at hj
    obtain ⟨a, e, hc⟩ := h.cells _ v hj
    cases e
    rw [add_lit] at hc ⊢
    rwa [Nat.add_assoc]
  · cases hj

set_option maxRecDepth 100000 in
/-- append of elements to a row that is owned. -/
theorem run_appK (w : World) (ty : TypeId) {A : Option Addr} {c : Nat} {xs : List α} (hown : OwnK R w A c xs) {B : Option Addr} {m d : Nat} {ys : List α} (hr : RdK R w B m ys) (hlen : (xs.length + m) * 400 ≤ 140737488355327) :
    ∃ A' c' w', (Builtin.append_ #[R.TS, R.TS] ty #[.slice A xs.length c, .slice B m d]).run Tryz.prog w = .ok (.slice A' (xs.length + m) c') w' ∧ OwnK R w' A' c' (xs ++ ys) ∧
      w.grownBy w' (A.map (·.block)) ∧ (A' = A ∨ A' = some ⟨w.heap.size, 0, none⟩) := by
  obtain ⟨i0, hi, hz0, hz1, hz2⟩ := info_parts R.info
  have hbp := R.bpos
  have hzs : R.zv.cells.size = R.k := by rw [← Array.length_toList, R.zc, R.klen]
  have hm := hr.len
  subst hm
  rcases B with _ | ad
  · have hy : ys = [] := by
      cases ys with
      | nil => rfl
      | cons y ys =>
        have : 0 < (R.flat (y :: ys)).length := by rw [R.flat_len, List.length_cons]; exact Nat.mul_pos (by omega) R.kpos
        obtain ⟨a, h, _⟩ := hr.cells 0 _ (List.getElem?_eq_getElem this); cases h
    subst hy
    have h0 : (Builtin.append_ #[R.TS, R.TS] ty #[.slice A xs.length c, .slice none 0 d]).run Tryz.prog w = .ok (.slice A xs.length c) w := by
      rcases hown with ⟨rfl, rfl, rfl⟩ | ⟨g, full, rfl, _, _, _, hnc, _⟩
      · simp [Builtin.append_, run_underlying R.under, sizeOf, typeInfo, hi, Builtin.lenOf, Builtin.firstCells]
      · simp [Builtin.append_, run_underlying R.under, sizeOf, typeInfo, hi, Builtin.lenOf, Builtin.firstCells, hnc, storeCells]
    exact ⟨A, c, w, h0, by simpa using hown, World.grownBy.refl w _, .inl rfl⟩
  have hnews : ∀ j u, (R.flat ys)[j]? = some u → w.cell? (ad.add j) = some u := by
    intro j u hu
    obtain ⟨a, e, hc⟩ := hr.cells j u hu
    cases e
    exact hc
  have hl : (R.flat ys).length = ys.length * i0.size := by rw [hz1, R.flat_len]
  have h1 := R.flat_one ys
  have hbnd : ∀ q, q * 400 ≤ 140737488355327 → (q * 2) * i0.bytes ≤ 281474976710656 := fun q hq => by
    rw [hz2]
    have := Nat.mul_le_mul_left (q * 2) hbp
    omega
  have grown : ∀ (old : Nat) (row : Option Nat), let cap' := grownCap w (xs.length + ys.length) old R.T
      OwnK R (w.drew.alloc (.cells ((R.flat xs).toArray ++ (R.flat ys).toArray ++ Builtin.zeroCells R.zv.cells (cap' - (xs.length + ys.length))) R.T)) (some ⟨w.heap.size, 0, none⟩) cap' (xs ++ ys) ∧
      w.grownBy (w.drew.alloc (.cells ((R.flat xs).toArray ++ (R.flat ys).toArray ++ Builtin.zeroCells R.zv.cells (cap' - (xs.length + ys.length))) R.T)) row := by
    intro old row cap'
    have hge : xs.length + ys.length ≤ cap' := grownCap_ge w _ old _
    have hcm : cap' ≤ maxLen := grownCap_le_maxLen w _ old _ (by simp only [maxLen]; omega)
    have e : (R.flat (xs ++ ys ++ List.replicate (cap' - (xs.length + ys.length)) R.z)).toArray = (R.flat xs).toArray ++ (R.flat ys).toArray ++ (R.flat (List.replicate (cap' - (xs.length + ys.length)) R.z)).toArray := by
      rw [R.flat_app, R.flat_app, List.append_toArray, List.append_toArray]
    refine ⟨.of (full := xs ++ ys ++ List.replicate (cap' - (xs.length + ys.length)) R.z) ?_ (by simpa using hge) hcm (by simp; omega) List.take_left, ⟨rfl, rfl, rfl, by simp, fun k hk _ => Below.heap_alloc w.drew _ k hk⟩⟩
    rw [R.zeros, e]
    exact heap_alloc_new w.drew _
  rcases hown with ⟨rfl, rfl, rfl⟩ | ⟨g, full, rfl, hg, hfl, hcm, hnc, htake⟩
  · by_cases hy : ys.length = 0
    · have hn : ys = [] := List.eq_nil_of_length_eq_zero hy
      subst hn
      refine ⟨none, 0, w, ?_, OwnK.none_ w, World.grownBy.refl w _, .inl rfl⟩
      simp [Builtin.append_, run_underlying R.under, sizeOf, typeInfo, hi, Builtin.lenOf, Builtin.firstCells, loadCells, loadCellsFrom]
    · have hbn := hbnd ys.length (by simpa using hlen)
      have hr := run_append_nil (P := Tryz.prog) w R.TS ty R.T i0 R.zv R.under hi hz0 ad ys.length d (R.flat ys) hl hnews (by omega) (by simp at hlen; omega) (Nat.le_trans (Nat.mul_le_mul_right _ (by omega)) hbn)
      have hgr := grown 0 none
      simp only [List.length_nil, Nat.zero_add, RowTy.flat_nil, List.nil_append, Array.empty_append] at hgr ⊢
      exact ⟨_, _, _, hr, hgr.1, hgr.2, .inr rfl⟩
  · by_cases hroom : xs.length + ys.length ≤ c
    · have hfit : xs.length * i0.size + (R.flat ys).length ≤ (R.flat full).toArray.size := by
        rw [hz1, R.flat_len, List.size_toArray, R.flat_len, ← Nat.add_mul]; exact Nat.mul_le_mul_right _ (by omega)
      have hr := run_append_room (P := Tryz.prog) w R.TS ty R.T i0 R.under hi g xs.length c _ hg ad ys.length d (R.flat ys) hl hnews h1 hroom hfit
      refine ⟨_, _, _, hr, .of (full := full.take xs.length ++ ys ++ full.drop (xs.length + ys.length)) ?_ (by simpa using hroom) hcm (by simp; omega) (by rw [htake, ← List.length_append]; exact List.take_left), ⟨rfl, rfl, rfl, by simp, fun k hk hne => setRow_other w g k _ (fun e => hne (by simp [e]))⟩, .inl rfl⟩
      have hs := setRow_heap w g _ ((R.flat full).toArray.toList.take (xs.length * i0.size) ++ R.flat ys ++ (R.flat full).toArray.toList.drop (xs.length * i0.size + (R.flat ys).length)).toArray _ _ hg
      rw [hs, R.flat_app, R.flat_app, R.flat_take, R.flat_drop, hz1, R.flat_len, Nat.add_mul]
    · have holds : ∀ j u, (R.flat xs)[j]? = some u → w.cell? ((⟨g, 0, none⟩ : Addr).add j) = some u := by
        intro j u hu
        obtain ⟨a, e, hc⟩ := (OwnK.of hg hnc hcm hfl htake).reads.cells j u hu
        cases e
        exact hc
      have hr := run_append_grow (P := Tryz.prog) w R.TS ty R.T i0 R.zv R.under hi hz0 ⟨g, 0, none⟩ xs.length c (R.flat xs) (by rw [hz1, R.flat_len]) holds ad ys.length d (R.flat ys) hl hnews (by omega) (by omega)
        (growslice_fits (by omega) (by rw [hz2]; have := Nat.mul_le_mul_left (xs.length + ys.length) hbp; omega))
      have hgr := grown c (some g)
      exact ⟨_, _, _, hr, hgr.1, hgr.2, .inr rfl⟩
theorem wpList_appK {ops : Array Oper} {rest : List Oper} {o : Oper} {a : Act} {w : World} {Q : Exit → Act → World → Prop} (hgd : o.guard = none) (s x : Operand)
    (ho : o.op = .call { callee := .builtin .append, args := #[s, x], argTypes := #[R.TS, R.TS] })
    {A : Option Addr} {c n : Nat} {xs : List α} (hs : a.eval s = .slice A n c) (hown : OwnK R w A c xs) (hn : xs.length = n) {B : Option Addr} {m d : Nat} {ys : List α} (hx : a.eval x = .slice B m d) (hr : RdK R w B m ys) (hlen : (n + m) * 400 ≤ 140737488355327)
    (h : ∀ A' c' w', OwnK R w' A' c' (xs ++ ys) → w.grownBy w' (A.map (·.block)) → (A' = A ∨ A' = some ⟨w.heap.size, 0, none⟩) → wpList Tryz.prog ops Q rest (a.put o.dst (.slice A' (n + m) c')) w') : wpList Tryz.prog ops Q (o :: rest) a w :=
  wpList_plain hgd fun _ hK => by
    subst hn
    obtain ⟨A', c', w', hrun, h2, h3, h4⟩ := run_appK w o.type hown (d := d) hr hlen
    unfold Oper.wp execOp
    simp only [ho, resolve, invoke, builtin, Sem.run_bind, Sem.run_pure, Result.andThen_ok, List.map_toArray, List.map_cons, List.map_nil, hs, hx, hrun]
    exact hK _ _ (h A' c' w' h2 h3 h4)
theorem step_appK {ops : Array Oper} {o : Oper} {a : Act} {w : World} {K : Act → World → Prop} {Q : Exit → Act → World → Prop} {E : Prop} (hgd : o.guard = none) (s x : Operand)
    (ho : o.op = .call { callee := .builtin .append, args := #[s, x], argTypes := #[R.TS, R.TS] })
    {A : Option Addr} {c n : Nat} {xs : List α} (hs : a.eval s = .slice A n c) (hown : OwnK R w A c xs) (hn : xs.length = n) {B : Option Addr} {m d : Nat} {ys : List α} (hx : a.eval x = .slice B m d) (hr : RdK R w B m ys) (hlen : (n + m) * 400 ≤ 140737488355327)
    (h : ∀ A' c' w', OwnK R w' A' c' (xs ++ ys) → w.grownBy w' (A.map (·.block)) → (A' = A ∨ A' = some ⟨w.heap.size, 0, none⟩) → K (a.put o.dst (.slice A' (n + m) c')) w') :
    if Region.wanted o (yielded ops a.tmps) = true then Oper.wp Tryz.prog o a w K Q else E := by
  have hw : Region.wanted o (yielded ops a.tmps) = true := by simp [Region.wanted, hgd]
  rw [if_pos hw]
  subst hn
  obtain ⟨A', c', w', hrun, h2, h3, h4⟩ := run_appK w o.type hown (d := d) hr hlen
  unfold Oper.wp execOp
  simp only [ho, resolve, invoke, builtin, Sem.run_bind, Sem.run_pure, Result.andThen_ok, List.map_toArray, List.map_cons, List.map_nil, hs, hx, hrun]
  exact h A' c' w' h2 h3 h4
end
end
section
open Go.RowKit

set_option maxHeartbeats 400000 in
theorem same_any (w : World) (A B : Option Addr) (n m c d : Nat) (xs ys : List UInt8) (h : Bs w A n xs) (k : Bs w B m ys) :
    Calls Tryz.prog 12 #[.slice A n c, .slice B m d] w fun e w' => e = .returned (.bool (xs == ys)) ∧ w = w' := by
  have h1 := run_str w (c := c) h
  have k1 := run_str w (c := d) k
  go_enter Tryz.func12, Tryz.ntmps12
  go_wp2
  go_ret
  exact ⟨rfl, rfl⟩
theorem same_yes (w : World) (A B : Option Addr) (n m c d : Nat) (xs ys : List UInt8) (h : Bs w A n xs) (k : Bs w B m ys) (e : xs = ys) :
    Calls Tryz.prog 12 #[.slice A n c, .slice B m d] w fun e w' => e = .returned (.bool true) ∧ w = w' := by
  have := same_any w A B n m c d xs ys h k
  rwa [show (xs == ys) = true by simpa using e] at this

/-- The marks that stand behind what is lent. -/
def marks : List UInt8 := [201, 17, 99]
/-- What is lent: bytes at the head of row g, marks behind them. -/
def Lent (w : World) (g : Nat) (xs : List UInt8) : Prop := ∃ full : List UInt8, w.heap[g]? = some (.cells (full.map bv).toArray 5 (0, 0)) ∧ full.take (xs.length + 3) = xs ++ marks

theorem Bs.three (w : World) : Bs (w.alloc (.cells #[.int .u8 201, .int .u8 17, .int .u8 99] 5)) (some ⟨w.heap.size, 0, none⟩) 3 marks := by
  refine ⟨rfl, fun j u hj => ⟨_, rfl, ?_⟩⟩
  have hl := (List.getElem?_eq_some_iff.1 hj).1
  rw [add_zero_lit, cell_of (heap_alloc_new w (.cells #[.int .u8 201, .int .u8 17, .int .u8 99] 5)) j]
  match j, hj, hl with
  | 0, hj, _ => cases hj; rfl
  | 1, hj, _ => cases hj; rfl
  | 2, hj, _ => cases hj; rfl

theorem OwnB.lent {w : World} {A : Option Addr} {c : Nat} {xs : List UInt8} (h : OwnB w A c (xs ++ marks)) : ∃ g, A = some ⟨g, 0, none⟩ ∧ Lent w g xs := by
  rcases h with ⟨_, h, _⟩ | ⟨g, full, rfl, h1, _, _, _, h5⟩
  · simp [marks] at h
  · exact ⟨g, rfl, full, h1, by rw [← h5]; simp [marks]⟩

theorem Lent.reads {w : World} {g : Nat} {xs : List UInt8} (h : Lent w g xs) : Bs w (some ⟨g, 0, none⟩) xs.length xs := by
  obtain ⟨full, h1, h2⟩ := h
  refine ⟨rfl, fun j u hj => ⟨_, rfl, ?_⟩⟩
  have hl := (List.getElem?_eq_some_iff.1 hj).1
  rw [add_zero_lit, cell_of h1 j]
  have e : full[j]? = some u := by
    have := congrArg (fun l => l[j]?) h2
    simp only [List.getElem?_take, List.getElem?_append] at this
    rw [if_pos (by omega), if_pos hl, hj] at this
    exact this
  simp [e]
theorem Lent.marks {w : World} {g : Nat} {xs : List UInt8} (h : Lent w g xs) : Bs w (some ⟨g, xs.length, none⟩) 3 marks := by
  obtain ⟨full, h1, h2⟩ := h
  refine ⟨rfl, fun j u hj => ⟨_, rfl, ?_⟩⟩
  have hl : j < 3 := (List.getElem?_eq_some_iff.1 hj).1
  rw [add_lit, cell_of h1]
  have e : full[xs.length + j]? = some u := by
    have := congrArg (fun l => l[xs.length + j]?) h2
    simp only [List.getElem?_take, List.getElem?_append] at this
    rw [if_pos (by omega), if_neg (by omega), show xs.length + j - xs.length = j by omega, hj] at this
    exact this
  simp [e]
theorem Lent.chg {S : List Nat} {w w' : World} {g : Nat} {xs : List UInt8} (h : Lent w g xs) (hc : Chg S w w') (hg : g ∉ S) : Lent w' g xs := by
  obtain ⟨full, h1, h2⟩ := h
  exact ⟨full, hc.at_ h1 hg, h2⟩

set_option maxHeartbeats 400000 in
theorem lent_any (w : World) (B : Option Addr) (m d : Nat) (xs : List UInt8) (hr : Bs w B m xs) (hm : m ≤ 140737488351232) :
    Calls Tryz.prog 7 #[.slice B m d] w fun e w' => ∃ g, e = .returned (.slice (some ⟨g, 0, none⟩) m (m + 3)) ∧ Lent w' g xs ∧ w.heap.size ≤ g ∧ Chg [] w w' := by
  have hl := hr.len
  subst hl
  go_enter Tryz.func7, Tryz.ntmps7
  go_wp2_with (first
    | (go_at_call 28; refine (copy_any _ _ _ _ xs hr hm).mono ?_; rintro e w1 ⟨A1, c1, rfl, f1, f2, f3⟩; have F2 := Lib.hid f2; clear f2)
    | (at_builtin; refine wpList_app rfl _ _ rfl rfl (f1.chg ((Chg.refl [] w1).alloc _) (by simp)) rfl rfl (Bs.three w1) (by omega) ?_; intro A2 c2 w2 own2 hg2 hA2; obtain ⟨g, rfl, hL⟩ := own2.lent; have hcap := own2.cap; simp only [List.length_append, marks, List.length_cons, List.length_nil, maxLen] at hcap))
  go_ret
  have hs := f3.size
  have F3 := f3.alloc (.cells #[.int .u8 201, .int .u8 17, .int .u8 99] 5)
  refine ⟨g, rfl, hL, ?_, F3.grown hg2 (fun k hk => ?_)⟩
  · rcases hA2 with h | h
    · exact F2.out _ h.symm
    · cases h
      simp; omega
  · cases A1 with
    | none => cases hk
    | some a =>
      simp at hk
      subst hk
      exact .inr (F2.out _ rfl)

set_option maxHeartbeats 400000 in
theorem kept_any (w : World) (g : Nat) (B : Option Addr) (m d : Nat) (xs : List UInt8) (hL : Lent w g xs) (hr : Bs w B m xs) (hm : m ≤ 140737488351232) :
    Calls Tryz.prog 18 #[.slice (some ⟨g, 0, none⟩) m (m + 3), .slice B m d] w fun e w' => e = .returned (.bool true) ∧ Chg [] w w' := by
  have hl := hr.len
  subst hl
  go_enter Tryz.func18, Tryz.ntmps18
  go_wp2_with fail
  refine (same_yes _ _ _ _ _ _ _ xs xs hL.reads hr rfl).mono ?_
  rintro e w1 ⟨rfl, rfl⟩
  have h0 : ¬ xs.length + 3 = xs.length := by omega
  have hM := Lent.marks (hL.chg ((Chg.refl [] w).alloc (.cells #[.int .u8 201, .int .u8 17, .int .u8 99] 5)) (by simp))
  go_wp2_with fail
  refine (same_yes _ _ _ _ _ _ _ marks marks hM (Bs.three w) rfl).mono ?_
  rintro e w1 ⟨rfl, rfl⟩
  go_wp2
  go_ret
  exact ⟨rfl, (Chg.refl _ _).alloc _⟩

/-- A row of bytes, whole. -/
def Row (w : World) (g : Nat) (full : List UInt8) : Prop := w.heap[g]? = some (.cells (full.map bv).toArray 5 (0, 0))
theorem Row.cell {w : World} {g : Nat} {full : List UInt8} (h : Row w g full) (j : Nat) (hj : j < full.length) : w.cell? ⟨g, j, none⟩ = some (.int .u8 ((full.getD j 0).toNat : Int)) := by
  rw [cell_of h j]
  simp [List.getD, hj, bv]
theorem Row.set {w : World} {g : Nat} {full : List UInt8} (h : Row w g full) (j : Nat) (x : Int) (c : UInt8) (hx : x = (c.toNat : Int)) : Row (w.setCell ⟨g, j, none⟩ (.int .u8 x)) g (full.set j c) := by
  have := heap_setCell_same w g j _ _ (.int .u8 x) h
  unfold Row
  rw [this]
  subst hx
  congr 2
  simp [bv]
def byteAt (full : List UInt8) (j : Nat) : Nat := (full.getD j 0).toNat
theorem byteAt_lt (full : List UInt8) (j : Nat) : byteAt full j < 256 := (full.getD j 0).toNat_lt

set_option maxHeartbeats 400000 in
theorem over_row (w : World) (g n c : Nat) (full : List UInt8) (hg : Row w g full) (hc : c ≤ full.length) (hm : c ≤ 9223372036854775807) :
    Calls Tryz.prog 16 #[.slice (some ⟨g, 0, none⟩) n c] w fun e w' => e = .returned (.tuple #[]) ∧ Chg [g] w w' := by
  have HG := Lib.hid hg
  clear hg
  go_enter Tryz.func16, Tryz.ntmps16
  go_wp2
  go_loopw [3] (fun i wr => ∃ (j : Nat) (fl : List UInt8), j ≤ c ∧ i = .int .i64 j ∧ Row wr g fl ∧ fl.length = full.length ∧ Chg [g] w wr) (fun i _ => c - (intOf i).toNat)
  case atStart => exact ⟨0, full, by omega, rfl, HG.out, rfl, Chg.refl _ _⟩
  case round =>
    obtain ⟨j, fl, hj, rfl, hr, hl, hch⟩ := hrel
    have HR := Lib.hid hr
    have HL := Lib.hid hl
    by_cases hlt : j < c
    · have hcj := hr.cell j (by omega)
      have hfj := free_of hr j
      have hb := byteAt_lt fl j
      rw [show (fl.getD j 0).toNat = byteAt fl j from rfl] at hcj
      clear hr hl
      go_wp2
      refine ⟨⟨j + 1, fl.set j (UInt8.ofNat ((byteAt fl j + 101) % 256)), by omega, by go_num, HR.out.set j _ _ (u8_of _ _ (by omega) (by omega)), by rw [List.length_set]; exact HL.out, hch.setCell (by simp) _⟩, by simp [intOf]; omega⟩
    · clear hr hl
      go_wp2
      go_end0
      exact ⟨rfl, hch⟩

set_option maxHeartbeats 400000 in
theorem over_nil (w : World) (n : Nat) : Calls Tryz.prog 16 #[.slice none n 0] w fun e w' => e = .returned (.tuple #[]) ∧ w = w' := by
  go_enter Tryz.func16, Tryz.ntmps16
  go_wp2
  refine wp_loop_rounds 1 ?_
  rw [rounds_succ]
  go_wp2
  go_end0
  exact ⟨rfl, rfl⟩

/-- The bytes of an answer, written over. -/
theorem over_own (w : World) (A : Option Addr) (c n : Nat) (xs : List UInt8) (h : OwnB w A c xs) (hn : n = xs.length) :
    Calls Tryz.prog 16 #[.slice A n c] w fun e w' => e = .returned (.tuple #[]) ∧ ∀ S : List Nat, (∀ a, A = some a → a.block ∈ S) → Chg S w w' := by
  subst hn
  rcases h with ⟨rfl, rfl, rfl⟩ | ⟨g, full, rfl, hg, hl, hm, hn, _⟩
  · exact (over_nil w 0).mono fun e w' ⟨h1, h2⟩ => ⟨h1, fun S _ => h2 ▸ Chg.refl _ _⟩
  · refine (over_row w g xs.length c full hg (by omega) (by unfold maxLen at hm; omega)).mono fun e w' ⟨h1, h2⟩ => ⟨h1, fun S hS => h2.mono ?_⟩
    intro i hi
    simp at hi
    subst hi
    exact .inl (hS _ rfl)
end
section
open Go.RowKit
set_option linter.unusedSimpArgs false
set_option linter.unusedVariables false

/-- Which dots may be. -/
def FineD (n s : Int) : Prop := 1 ≤ n ∧ n ≤ 200 ∧ 1 ≤ s ∧ s ≤ 2147483647
instance (n s : Int) : Decidable (FineD n s) := by unfold FineD; exact inferInstance
/-- Why a dot may not be. -/
def chkD (n s : Int) : Int := if FineD n s then 0 else 2
/-- Comes one dot ahead of another one? -/
def LtD (a s b t : Int) : Prop := a < b ∨ a = b ∧ s < t
instance (a s b t : Int) : Decidable (LtD a s b t) := by unfold LtD; exact inferInstance
end
section
open Go.RowKit
set_option linter.unusedSimpArgs false
set_option linter.unusedVariables false
end
section
open Go.RowKit
set_option linter.unusedSimpArgs false
set_option linter.unusedVariables false
end
end Go.Proofs.YtcnbgdplkobenaaGreatDoor
