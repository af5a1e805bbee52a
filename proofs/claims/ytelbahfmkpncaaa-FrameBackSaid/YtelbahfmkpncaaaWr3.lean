/- The writer's Raw, Text and Out. -/
import Derived.Test.YtelbahfmkpncaaaWr2
namespace Go.Proofs.Ytelbahfmkpncaaa
open Go.RowKit

theorem enc_room (xs : List UInt8) (m : Nat) (_h : xs.length ≤ 1048576) (hl : 1 + nb m + m + xs.length ≤ 1048576) : (xs ++ enc (m : Int).toNat).length + m ≤ 140737488355327 := by
  rw [List.length_append, enc_len, Int.toNat_natCast]; omega

set_option maxHeartbeats 400000 in
theorem wraw_err (w : World) (b g : Nat) (xs : List UInt8) (e : Int) (B : Option Addr) (m d : Nat) (h : Wrt w b g xs e) (he : (e == 0) = false) :
    Calls Try.prog 34 #[.pointer (some ⟨b, 0, none⟩), .slice B m d] w fun r w' => r = .returned (.tuple #[]) ∧ w = w' := by
  obtain ⟨A, c, h1, _, _⟩ := id h
  have h0 := cell_of h1 2
  simp only [List.getElem?_toArray, List.getElem?_cons_zero, List.getElem?_cons_succ] at h0
  have H := Lib.hid h1
  clear h1
  go_enter Try.func34, Try.ntmps34
  go_wp2_with (go_at_call 53; refine (made_yes _ b g xs e h).mono ?_; rintro r w' ⟨rfl, rfl⟩)
  go_end0
  exact ⟨rfl, rfl⟩
set_option maxHeartbeats 400000 in
theorem wraw_long (w : World) (b g : Nat) (xs : List UInt8) (B : Option Addr) (m d : Nat) (h : Wrt w b g xs 0) (hlen : xs.length ≤ 1048576) (hm : m ≤ 140737488351232) (hl : 1048576 < 1 + nb m + m + xs.length) :
    Calls Try.prog 34 #[.pointer (some ⟨b, 0, none⟩), .slice B m d] w fun r w' => r = .returned (.tuple #[]) ∧ Between w w' b g xs 3 := by
  obtain ⟨A, c, h1, _, _⟩ := id h
  have h0 := cell_of h1 2
  simp only [List.getElem?_toArray, List.getElem?_cons_zero, List.getElem?_cons_succ] at h0
  have H := Lib.hid h1
  clear h1
  have hb := nb_le m (by omega)
  go_enter Try.func34, Try.ntmps34
  go_wp2_with (first
    | (go_at_call 53; refine (made_yes _ b g xs 0 h).mono ?_; rintro r w' ⟨rfl, rfl⟩)
    | (go_at_call 55; refine (width_any _ _ (by omega) (by omega)).mono ?_; rintro r w' ⟨rfl, rfl⟩)
    | (go_at_call 54; refine (fits_no _ b g xs _ h (by omega) (by omega)).mono ?_; rintro r w' ⟨rfl, hB⟩))
  go_end0
  exact ⟨rfl, hB⟩

set_option maxHeartbeats 400000 in
theorem wraw_fine (w : World) (b g : Nat) (xs : List UInt8) (B : Option Addr) (m d : Nat) (ys : List UInt8) (h : Wrt w b g xs 0) (hlen : xs.length ≤ 1048576) (hr : Bs w B m ys) (hB : Apart B ys b g) (hl : 1 + nb m + m + xs.length ≤ 1048576) :
    Calls Try.prog 34 #[.pointer (some ⟨b, 0, none⟩), .slice B m d] w fun r w' => r = .returned (.tuple #[]) ∧ Between w w' b g (xs ++ enc m ++ ys) 0 := by
  obtain ⟨A, c, h1, _, _⟩ := id h
  have h0 := cell_of h1 2
  simp only [List.getElem?_toArray, List.getElem?_cons_zero, List.getElem?_cons_succ] at h0
  have H := Lib.hid h1
  have HB := Lib.hid hB
  clear h1 hB
  have hb := nb_le m (by omega)
  go_enter Try.func34, Try.ntmps34
  go_wp2_with (first
    | (go_at_call 53; refine (made_yes _ b g xs 0 h).mono ?_; rintro r w' ⟨rfl, rfl⟩)
    | (go_at_call 55; refine (width_any _ _ (by omega) (by omega)).mono ?_; rintro r w' ⟨rfl, rfl⟩)
    | (go_at_call 54; refine (fits_yes _ b g xs _ h (by omega) (by omega)).mono ?_; rintro r w' ⟨rfl, rfl⟩)
    | (go_at_call 57; refine (number_any _ b g xs 0 _ (by omega) (by omega) h (by omega)).mono ?_; rintro r w1 ⟨rfl, g1, hw1, hc1, hg1⟩; have Hg1 := Lib.hid hg1; clear hg1; have hr1 := hr.past hc1 HB.out)
    | (go_at_call 56; refine (put_any _ b g1 _ 0 _ _ _ ys hw1 hr1 (enc_room xs m hlen hl)).mono ?_; rintro r w2 ⟨rfl, hp⟩))
  go_end0
  exact ⟨rfl, Between.trans hw1 hc1 Hg1.out hp⟩

end Go.Proofs.Ytelbahfmkpncaaa
