/- The document's Split, Parent, Base. -/
import Derived.Test.YtibdeiahmgkbhaaDoorQhjoin
import Derived.Test.YtibdeiahmgkbhaaDoorPhlast
namespace Go.Proofs.YtibdeiahmgkbhaaDoor
open Go.RowKit
set_option linter.unusedSimpArgs false
set_option linter.unusedVariables false
theorem qsplit_no (w : World) (l : List UInt8) (hl : l.length ≤ 10000000) (hp : okP l = false) :
    Calls Tryd.prog 14 #[.string (strOf l)] w fun e w' => e = .returned (.tuple #[.slice none 0 0, .int .i64 2]) ∧ Chg [] w w' := by
  have C1 := Lib.hid (qcheck_p l false hp hl)
  clear hp
  go_enter Tryd.func14, Tryd.ntmps14
  go_wp2_with fail
  refine (C1.out _).mono ?_
  rintro e w1 ⟨rfl, hc⟩
  go_wp2
  go_ret2
  exact ⟨rfl, hc⟩
theorem qsplit_yes (w : World) (l : List UInt8) (hl : l.length ≤ 10000000) (hp : okP l = true) :
    Calls Tryd.prog 14 #[.string (strOf l)] w fun e w' => ∃ A c, e = .returned (.tuple #[.slice A (cutL l).length c, .int .i64 0]) ∧ OwnK textTy w' A c (cutL l) ∧ (∀ a, A = some a → w.heap.size ≤ a.block) ∧ Chg [] w w' := by
  have C1 := Lib.hid (qcheck_p l true hp hl)
  have C2 := Lib.hid (fun w => qcut_any w l hl)
  clear hp
  generalize cutL l = xs at *
  go_enter Tryd.func14, Tryd.ntmps14
  go_wp2_with fail
  refine (C1.out _).mono ?_
  rintro e w1 ⟨rfl, hc⟩
  go_wp2_with fail
  refine (C2.out _).mono ?_
  rintro e w2 ⟨A, c, rfl, h1, h2, h3⟩
  have H1 := Lib.hid h1
  have H2 := Lib.hid h2
  have H3 := Lib.hid h3
  clear h1 h2 h3
  go_wp2
  go_ret2
  exact ⟨A, c, rfl, H1.out, fun a ha => Nat.le_trans hc.size (H2.out a ha), hc.trans H3.out⟩
set_option maxHeartbeats 2000000 in
theorem qparent_any (w : World) (l : List UInt8) (hl : l.length ≤ 900000) :
    Calls Tryd.prog 18 #[.string (strOf l)] w fun e w' => e = .returned (.tuple #[.string (strOf (parentL l)), .bool (hasParent l)]) ∧ Chg [] w w' := by
  cases hp : okP l with
  | false =>
    have hq : parentL l = [] := by unfold parentL; rw [hp]; rfl
    have hh : hasParent l = false := by unfold hasParent; rw [hp]; rfl
    rw [hq, hh]
    have C1 := Lib.hid (fun w => qsplit_no w l (by omega) hp)
    clear hp hq hh
    go_enter Tryd.func18, Tryd.ntmps18
    go_wp2_with fail
    refine (C1.out _).mono ?_
    rintro e w1 ⟨rfl, hc⟩
    go_wp2
    go_ret2
    exact ⟨rfl, hc⟩
  | true =>
    have C1 := Lib.hid (fun w => qsplit_yes w l (by omega) hp)
    have hq : parentL l = if 2 ≤ (cutL l).length then unc (cutL l).dropLast else [] := by unfold parentL; rw [hp]; simp
    have hh : hasParent l = decide (2 ≤ (cutL l).length) := by unfold hasParent; rw [hp]; simp
    rw [hq, hh]
    have hx : ∀ x ∈ cutL l, x.length ≤ 10000000 := fun x hx => by have := cutA_short l [] x hx; simp at this; omega
    have hn : (cutL l).length ≤ 1000000 := by have := cutA_len l []; show (cutA [] l).length ≤ _; omega
    clear hp hq hh
    generalize cutL l = xs at *
    have HX := Lib.hid hx
    clear hx
    by_cases h2 : 2 ≤ xs.length
    · rw [if_pos h2, decide_eq_true h2]
      have i1 : ¬ ((xs.length : Int) < 2) := by omega
      have k1 : IntKind.i64.wrap ((xs.length : Int) - 1) = (xs.length : Int) - 1 := IntWalk.i64_in _ (by omega)
      have i2 : (0 : Int) ≤ (xs.length : Int) - 1 := by omega
      have nt : ((xs.length : Int) - 1).toNat = xs.length - 1 := by omega
      go_enter Tryd.func18, Tryd.ntmps18
      go_wp2_with fail
      refine (C1.out _).mono ?_
      rintro e w1 ⟨A, c, rfl, h1, _, h3⟩
      have hcap := h1.cap.1
      have i3 : (xs.length : Int) - 1 ≤ (c : Int) := by omega
      have i4 : xs.length - 1 ≤ c := by omega
      have QJ := Lib.hid (show Calls Tryd.prog 40 #[.slice A (xs.length - 1) c] w1 fun e w' => e = .returned (.string (strOf (unc xs.dropLast))) ∧ w' = w1 from by
        have ho := (h1.take (xs.length - 1)).reads
        have := qjoin_any w1 A c (xs.take (xs.length - 1)) ho (by rw [List.length_take]; omega) (fun x hx => HX.out x (List.mem_of_mem_take hx))
        rw [List.length_take, Nat.min_eq_left (by omega), ← List.dropLast_eq_take] at this
        exact this)
      have H3 := Lib.hid h3
      obtain ⟨e0, e1, e2⟩ | ⟨g, e0, _⟩ := h1.shape
      · subst e1; simp at h2
      subst e0
      clear h1 h3
      go_wp2_with fail
      refine QJ.out.mono ?_
      rintro e w2 ⟨rfl, rfl⟩
      go_wp2
      go_ret2
      exact ⟨rfl, H3.out⟩
    · rw [if_neg h2, decide_eq_false h2]
      have i1 : ((xs.length : Int) < 2) := by omega
      go_enter Tryd.func18, Tryd.ntmps18
      go_wp2_with fail
      refine (C1.out _).mono ?_
      rintro e w1 ⟨A, c, rfl, _, _, h3⟩
      go_wp2
      go_ret2
      exact ⟨rfl, h3⟩
set_option maxHeartbeats 2000000 in
theorem qbase_any (w : World) (l : List UInt8) (hl : l.length ≤ 900000) :
    Calls Tryd.prog 23 #[.string (strOf l)] w fun e w' => e = .returned (.string (strOf (baseL l))) ∧ Chg [] w w' := by
  cases hp : okP l with
  | false =>
    have hq : baseL l = [] := by unfold baseL; rw [hp]; rfl
    rw [hq]
    have C1 := Lib.hid (fun w => qsplit_no w l (by omega) hp)
    clear hp hq
    go_enter Tryd.func23, Tryd.ntmps23
    go_wp2_with fail
    refine (C1.out _).mono ?_
    rintro e w1 ⟨rfl, hc⟩
    go_wp2
    go_ret
    exact ⟨rfl, hc⟩
  | true =>
    have C1 := Lib.hid (fun w => qsplit_yes w l (by omega) hp)
    have hne : cutL l ≠ [] := cutA_ne [] l
    have hq : baseL l = (cutL l).getLast hne := by unfold baseL; rw [if_pos hp]
    rw [hq]
    have hn : (cutL l).length ≤ 1000000 := by have := cutA_len l []; show (cutA [] l).length ≤ _; omega
    have hpos : 0 < (cutL l).length := List.length_pos_iff.2 hne
    obtain ⟨x, hx⟩ : ∃ x, (cutL l).getLast hne = x := ⟨_, rfl⟩
    have hx2 : (cutL l)[(cutL l).length - 1]? = some x := by
      rw [← hx, List.getLast_eq_getElem, List.getElem?_eq_getElem]
    rw [hx]
    clear hp hq hx hne
    generalize cutL l = xs at *
    have i2 : (0 : Int) ≤ (xs.length : Int) - 1 := by omega
    have k1 : IntKind.i64.wrap ((xs.length : Int) - 1) = (xs.length : Int) - 1 := IntWalk.i64_in _ (by omega)
    have i3 : (xs.length : Int) - 1 < (xs.length : Int) := by omega
    have nt : ((xs.length : Int) - 1).toNat = xs.length - 1 := by omega
    go_enter Tryd.func23, Tryd.ntmps23
    go_wp2_with fail
    refine (C1.out _).mono ?_
    rintro e w1 ⟨A, c, rfl, h1, _, h3⟩
    obtain ⟨g, o, eA, _⟩ := h1.reads.line hpos
    subst eA
    have z := textCells h1.reads hx2
    have H3 := Lib.hid h3
    clear h1 h3
    go_wp2
    go_ret
    exact ⟨rfl, H3.out⟩
end Go.Proofs.YtibdeiahmgkbhaaDoor
