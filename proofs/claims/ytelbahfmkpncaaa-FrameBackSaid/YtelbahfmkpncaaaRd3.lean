/- The reader's Raw and Text, whatever stands there. -/
import Derived.Test.YtelbahfmkpncaaaPc
namespace Go.Proofs.Ytelbahfmkpncaaa
open Go.RowKit

/-- What a reader tells, and what it is behind that, where bytes are asked for. -/
def rRaw (xs : List UInt8) (p : Nat) (fe fa most : Int) : List UInt8 × Nat × Int × Int :=
  if fe ≠ 0 then ([], p, fe, fa) else match numAt xs p 0 4611686018427387903 with
    | .error (f, q) => ([], p, (f : Int), (q : Int))
    | .ok (n, q) => if most < n then ([], p, 3, (p : Int)) else if (xs.length : Int) - q < n then ([], p, 4, (xs.length : Int)) else ((xs.drop q).take n, q + n, 0, fa)

/-- What a piece leaves. -/
def PiecePost (w : World) (b g : Nat) (xs : List UInt8) (r : List UInt8 × Nat × Int × Int) (e : Ending) (w' : World) : Prop :=
  ∃ A c, e = .returned (.slice A r.1.length c) ∧ Bs w' A r.1.length r.1 ∧ (∀ a, A = some a → a.block = g) ∧ Rdr w' b g xs r.2.1 r.2.2.1 r.2.2.2 ∧ Chg [b] w w'

theorem piece_failed {w w' : World} {b g : Nat} {xs : List UInt8} {p : Nat} {fe fa : Int} {e : Ending} (h : e = .returned (.slice none 0 0) ∧ Failed w w' b g xs p fe fa) : PiecePost w b g xs ([], p, fe, fa) e w' :=
  ⟨none, 0, h.1, Bs.nil _ _, by simp, h.2.1, h.2.2⟩

theorem piece_any (w : World) (b g : Nat) (xs : List UInt8) (p : Nat) (fe fa most : Int) (h : Rdr w b g xs p fe fa) (hp : p ≤ xs.length) (hl : xs.length ≤ 140737488351232) :
    Calls Try.prog 65 #[.pointer (some ⟨b, 0, none⟩), .int .i64 most] w (PiecePost w b g xs (rRaw xs p fe fa most)) := by
  unfold rRaw
  by_cases he : fe = 0
  · subst he
    simp only [ne_eq, not_true_eq_false, if_false]
    cases hn : numAt xs p 0 4611686018427387903 with
    | error x => obtain ⟨f, q⟩ := x; exact (piece_err w b g xs p fa most h hp hl f q hn).mono fun e w' he => piece_failed he
    | ok x =>
      obtain ⟨n, q⟩ := x
      by_cases h1 : most < n
      · simp only [if_pos h1]; exact (piece_long w b g xs p fa most h hp hl n q hn h1).mono fun e w' he => piece_failed he
      · by_cases h2 : (xs.length : Int) - q < n
        · simp only [if_neg h1, if_pos h2]; exact (piece_end w b g xs p fa most h hp hl n q hn (by omega) h2).mono fun e w' he => piece_failed he
        · simp only [if_neg h1, if_neg h2]
          refine (piece_ok w b g xs p fa most h hp hl n q hn (by omega) (by omega)).mono fun e w' he => ?_
          obtain ⟨A, c, h3, h4, h5, h6, h7⟩ := he
          have hlen := h4.len
          refine ⟨A, c, ?_, ?_, h5, h6, h7⟩
          · show _ = Ending.returned (.slice A ((xs.drop q).take n).length c)
            rw [hlen]; exact h3
          · show Bs w' A ((xs.drop q).take n).length ((xs.drop q).take n)
            rw [hlen]; exact h4
  · simp only [ne_eq, he, not_false_eq_true, if_true]
    exact (piece_no w b g xs p fe fa most h he).mono fun e w' ⟨h1, h2⟩ => ⟨none, 0, h1, Bs.nil _ _, by simp, h2 ▸ h, h2 ▸ Chg.refl _ _⟩

theorem rRaw_le {xs : List UInt8} {p : Nat} {fe fa most : Int} (hp : p ≤ xs.length) : (rRaw xs p fe fa most).1.length ≤ xs.length ∧ (rRaw xs p fe fa most).2.1 ≤ xs.length := by
  unfold rRaw
  split
  · exact ⟨Nat.zero_le _, hp⟩
  · split
    · exact ⟨Nat.zero_le _, hp⟩
    · rename_i n q hn
      have := numAt_ok hn hp
      split
      · exact ⟨Nat.zero_le _, hp⟩
      · split
        · exact ⟨Nat.zero_le _, hp⟩
        · simp; omega
theorem rNum_le {xs : List UInt8} {p : Nat} {fe fa low high : Int} (hp : p ≤ xs.length) : (rNum xs p fe fa low high).2.1 ≤ xs.length := by
  unfold rNum
  split
  · exact hp
  · split
    · exact hp
    · rename_i n q hn
      exact (numAt_ok hn hp).1

/-- What Raw leaves. -/
def RawPost (w : World) (b g : Nat) (xs : List UInt8) (r : List UInt8 × Nat × Int × Int) (e : Ending) (w' : World) : Prop :=
  ∃ A c, e = .returned (.slice A r.1.length c) ∧ OwnB w' A c r.1 ∧ (∀ a, A = some a → w.heap.size ≤ a.block) ∧ Rdr w' b g xs r.2.1 r.2.2.1 r.2.2.2 ∧ Chg [b] w w'

set_option maxHeartbeats 400000 in
theorem rraw_any (w : World) (b g : Nat) (xs : List UInt8) (p : Nat) (fe fa most : Int) (h : Rdr w b g xs p fe fa) (hp : p ≤ xs.length) (hl : xs.length ≤ 140737488351232) :
    Calls Try.prog 44 #[.pointer (some ⟨b, 0, none⟩), .int .i64 most] w (RawPost w b g xs (rRaw xs p fe fa most)) := by
  have hle := (rRaw_le (fe := fe) (fa := fa) (most := most) hp).1
  have hpc := piece_any w b g xs p fe fa most h hp hl
  generalize rRaw xs p fe fa most = r at hle hpc
  have HP := Lib.hid hpc
  clear hpc
  go_enter Try.func44, Try.ntmps44
  go_wp2_with (first
    | (go_at_call 65; refine HP.out.mono ?_; rintro e w1 ⟨A, c, rfl, q1, q2, q3, q4⟩; have Q2 := Lib.hid q2; clear q2)
    | (go_at_call 58; refine (clone_any _ _ _ _ r.1 q1 (by omega)).mono ?_; rintro e w2 ⟨A2, c2, rfl, f1, f2, f3⟩; have F2 := Lib.hid f2; clear f2))
  go_ret
  have hs := q4.size
  refine ⟨A2, c2, rfl, f1, fun a e => ?_, q3.chg f3 (by simp) (by simp), q4.trans (f3.mono (by simp))⟩
  have := F2.out a e
  omega

/-- What Text leaves. -/
def TextPost (w : World) (b g : Nat) (xs : List UInt8) (r : List UInt8 × Nat × Int × Int) (e : Ending) (w' : World) : Prop :=
  e = .returned (.string (strOf r.1)) ∧ Rdr w' b g xs r.2.1 r.2.2.1 r.2.2.2 ∧ Chg [b] w w'

end Go.Proofs.Ytelbahfmkpncaaa
