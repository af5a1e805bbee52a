/- bytes.Clone, the kit's copy, and the writer's Out; the writer's calls whatever came ahead. -/
import Derived.Test.YtelbahfmkpncaaaWr3
namespace Go.Proofs.Ytelbahfmkpncaaa
open Go.RowKit

/-- Bytes in memory of their own, which was not there at first. -/
def Fresh (w w' : World) (A : Option Addr) (c : Nat) (ys : List UInt8) : Prop := OwnB w' A c ys ∧ (∀ a, A = some a → w.heap.size ≤ a.block) ∧ Chg [] w w'

theorem OwnB.empty (w : World) : OwnB (w.alloc (.cells #[] 5)) (some ⟨w.heap.size, 0, none⟩) 0 [] := .of (full := []) (heap_alloc_new w _) (by simp) (by simp [maxLen]) rfl (by simp)

theorem fresh_app {w w1 : World} {A' : Option Addr} {c' : Nat} {ys : List UInt8} (own1 : OwnB w1 A' c' ([] ++ ys)) (hg1 : (w.alloc (.cells #[] 5)).grownBy w1 (Option.map (·.block) (some (⟨w.heap.size, 0, none⟩ : Addr))))
    (hA1 : A' = some ⟨w.heap.size, 0, none⟩ ∨ A' = some ⟨(w.alloc (.cells #[] 5)).heap.size, 0, none⟩) : Fresh w w1 A' c' ys := by
  refine ⟨own1, ?_, ((Chg.refl [] w).alloc _).grown hg1 (by simp)⟩
  rintro a rfl
  rcases hA1 with h | h <;> cases h <;> simp

set_option maxHeartbeats 400000 in
theorem clone_any (w : World) (B : Option Addr) (m d : Nat) (ys : List UInt8) (hr : Bs w B m ys) (hm : m ≤ 140737488351232) :
    Calls Try.prog 58 #[.slice B m d] w fun r w' => ∃ A c, r = .returned (.slice A m c) ∧ Fresh w w' A c ys := by
  rcases B with _ | a
  · have hy : ys = [] := by
      cases ys with
      | nil => rfl
      | cons y ys => obtain ⟨a, h, _⟩ := hr.cells 0 y rfl; cases h
    have hm0 := hr.len
    subst hy
    simp at hm0
    subst hm0
    have h0 := fun w => Lib.run_eql_slice_nil (P := Try.prog) w 22 5 none 0 d 0 0 Try.underlying22
    go_enter Try.func58, Try.ntmps58
    go_wp2
    go_ret
    exact ⟨none, 0, rfl, OwnB.none_ _, by simp, Chg.refl _ _⟩
  · have h0 := fun w => Lib.run_eql_slice_nil (P := Try.prog) w 22 5 (some a) m d 0 0 Try.underlying22
    go_enter Try.func58, Try.ntmps58
    go_wp2_with (at_builtin; refine wpList_app rfl _ _ rfl rfl (OwnB.empty w) rfl rfl (hr.chg ((Chg.refl [] w).alloc _) (by simp)) (by simp; omega) ?_; intro A' c' w1 own1 hg1 hA1)
    go_ret
    exact ⟨A', c', by simp, fresh_app own1 hg1 hA1⟩

set_option maxHeartbeats 400000 in
theorem copy_any (w : World) (B : Option Addr) (m d : Nat) (ys : List UInt8) (hr : Bs w B m ys) (hm : m ≤ 140737488351232) :
    Calls Try.prog 31 #[.slice B m d] w fun r w' => ∃ A c, r = .returned (.slice A m c) ∧ Fresh w w' A c ys := by
  go_enter Try.func31, Try.ntmps31
  go_wp2_with (at_builtin; refine wpList_app rfl _ _ rfl rfl (OwnB.empty w) rfl rfl (hr.chg ((Chg.refl [] w).alloc _) (by simp)) (by simp; omega) ?_; intro A' c' w1 own1 hg1 hA1)
  go_ret
  exact ⟨A', c', by simp, fresh_app own1 hg1 hA1⟩

set_option maxHeartbeats 400000 in
theorem wout_ok (w : World) (b g : Nat) (xs : List UInt8) (h : Wrt w b g xs 0) (hlen : xs.length ≤ 1048576) :
    Calls Try.prog 35 #[.pointer (some ⟨b, 0, none⟩)] w fun r w' => ∃ A c, r = .returned (.tuple #[.slice A xs.length c, .int .i64 0]) ∧ Fresh w w' A c xs := by
  obtain ⟨A, c, h1, h2, _⟩ := id h
  have k1 := cell_of h1 1
  have k2 := cell_of h1 2
  simp only [List.getElem?_toArray, List.getElem?_cons_zero, List.getElem?_cons_succ] at k1 k2
  have H := Lib.hid h1
  clear h1
  go_enter Try.func35, Try.ntmps35
  go_wp2_with (first
    | (go_at_call 53; refine (made_yes _ b g xs 0 h).mono ?_; rintro r w' ⟨rfl, rfl⟩)
    | (go_at_call 58; refine (clone_any _ _ _ _ xs h2.reads (by omega)).mono ?_; rintro r w1 ⟨A1, c1, rfl, hF⟩))
  go_ret2
  exact ⟨A1, c1, rfl, hF⟩

set_option maxHeartbeats 400000 in
theorem wout_err (w : World) (b g : Nat) (xs : List UInt8) (e : Int) (h : Wrt w b g xs e) (he : (e != 0) = true) :
    Calls Try.prog 35 #[.pointer (some ⟨b, 0, none⟩)] w fun r w' => r = .returned (.tuple #[.slice none 0 0, .int .i64 e]) ∧ Chg [] w w' := by
  obtain ⟨A, c, h1, h2, _⟩ := id h
  have k2 := cell_of h1 2
  simp only [List.getElem?_toArray, List.getElem?_cons_zero, List.getElem?_cons_succ] at k2
  have H := Lib.hid h1
  clear h1
  go_enter Try.func35, Try.ntmps35
  go_wp2_with (go_at_call 53; refine (made_yes _ b g xs e h).mono ?_; rintro r w' ⟨rfl, rfl⟩)
  go_region
  all_goals (go_wp2; go_ret2; exact ⟨rfl, (Chg.refl _ _).drew⟩)

theorem wNum_len {xs : List UInt8} {e x : Int} (h : xs.length ≤ 1048576) : (wNum xs e x).1.length ≤ 1048576 := by
  unfold wNum
  split
  · exact h
  · split
    · exact h
    · split
      · exact h
      · simp [enc_len]; omega
theorem wRaw_len {xs ys : List UInt8} {e : Int} (h : xs.length ≤ 1048576) : (wRaw xs e ys).1.length ≤ 1048576 := by
  unfold wRaw
  split
  · exact h
  · split
    · exact h
    · simp [enc_len]; omega

/-- Raw, whatever came ahead. -/
theorem wraw_any (w : World) (b g : Nat) (xs : List UInt8) (e : Int) (B : Option Addr) (m d : Nat) (ys : List UInt8) (h : Wrt w b g xs e) (hlen : xs.length ≤ 1048576) (hm : m ≤ 140737488351232) (hr : Bs w B m ys) (hB : Apart B ys b g) :
    Calls Try.prog 34 #[.pointer (some ⟨b, 0, none⟩), .slice B m d] w fun r w' => r = .returned (.tuple #[]) ∧ Between w w' b g (wRaw xs e ys).1 (wRaw xs e ys).2 := by
  have hl := hr.len
  subst hl
  unfold wRaw
  by_cases he : e = 0
  · subst he
    by_cases h1 : 1048576 < 1 + nb ys.length + ys.length + xs.length
    · simp only [ne_eq, not_true_eq_false, if_false, if_pos h1]; exact wraw_long w b g xs B _ d h hlen hm h1
    · simp only [ne_eq, not_true_eq_false, if_false, if_neg h1]; exact wraw_fine w b g xs B _ d ys h hlen hr hB (by omega)
  · simp only [ne_eq, he, not_false_eq_true, if_true]
    exact (wraw_err w b g xs e B _ d h (by simpa using he)).mono fun r w' ⟨h1, h2⟩ => ⟨h1, h2 ▸ Between.refl h⟩
/-- What Out tells: the bytes, or the error alone. -/
def outs (xs : List UInt8) (e : Int) : List UInt8 := if e = 0 then xs else []
theorem wout_any (w : World) (b g : Nat) (xs : List UInt8) (e : Int) (h : Wrt w b g xs e) (hlen : xs.length ≤ 1048576) :
    Calls Try.prog 35 #[.pointer (some ⟨b, 0, none⟩)] w fun r w' => ∃ A c, r = .returned (.tuple #[.slice A (outs xs e).length c, .int .i64 e]) ∧ Fresh w w' A c (outs xs e) := by
  unfold outs
  by_cases he : e = 0
  · subst he
    simp only [if_true]
    exact wout_ok w b g xs h hlen
  · simp only [if_neg he]
    exact (wout_err w b g xs e h (by simpa using he)).mono fun r w' ⟨h1, h2⟩ => ⟨none, 0, h1, OwnB.none_ _, by simp, h2⟩
end Go.Proofs.Ytelbahfmkpncaaa
