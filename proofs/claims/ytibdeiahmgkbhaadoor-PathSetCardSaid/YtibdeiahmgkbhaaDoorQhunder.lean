/- The document's Under and Near. -/
import Derived.Test.YtibdeiahmgkbhaaDoorPhnear
namespace Go.Proofs.YtibdeiahmgkbhaaDoor
open Go.RowKit
set_option linter.unusedSimpArgs false
set_option linter.unusedVariables false
theorem qcheck_p (l : List UInt8) (p : Bool) (hp : okP l = p) (hl : l.length ≤ 10000000) (w : World) :
    Calls Tryd.prog 21 #[.string (strOf l)] w fun e w' => e = .returned (.int .i64 (if p then 0 else 2)) ∧ Chg [] w w' := by
  have := qcheck_any w l hl
  rw [show checkL 6 12 l = p from hp] at this
  exact this
set_option maxHeartbeats 2000000 in
theorem qhunder_any (w : World) (a b : List UInt8) (ha : a.length ≤ 10000000) (hb : b.length ≤ 10000000) :
    Calls Tryd.prog 27 #[.string (strOf a), .string (strOf b)] w fun e w' => e = .returned (.bool (underL a b)) ∧ Chg [] w w' := by
  have hu : underL a b = (okP a && okP b && (decide (a.length < b.length) && (b.take a.length == a) && (b[a.length]? == some 47))) := by
    unfold underL
    rw [under_eq]
  rw [hu]
  clear hu
  have hsa := strOf_size a
  have hsb := strOf_size b
  obtain ⟨p1, hp1⟩ : ∃ p, okP a = p := ⟨_, rfl⟩
  obtain ⟨p2, hp2⟩ : ∃ p, okP b = p := ⟨_, rfl⟩
  have C1 := Lib.hid (qcheck_p a p1 hp1 ha)
  have C2 := Lib.hid (qcheck_p b p2 hp2 hb)
  rw [hp1, hp2]
  clear hp1 hp2
  cases p1
  · skip
    go_enter Tryd.func27, Tryd.ntmps27
    go_wp2_with fail
    refine (C1.out _).mono ?_
    rintro e w1 ⟨rfl, hc1⟩
    go_wp2
    go_ret
    exact ⟨by simp, hc1⟩
  cases p2
  · skip
    go_enter Tryd.func27, Tryd.ntmps27
    go_wp2_with fail
    refine (C1.out _).mono ?_
    rintro e w1 ⟨rfl, hc1⟩
    go_wp2_with fail
    refine (C2.out _).mono ?_
    rintro e w2 ⟨rfl, hc2⟩
    go_wp2
    go_ret
    exact ⟨by simp, (hc1.trans hc2)⟩
  by_cases d1 : a.length < b.length
  · have i1 : (a.length : Int) < (b.length : Int) := by omega
    have i2 : ((strOf a).size : Int) < ((strOf b).size : Int) := by omega
    have i3 : (0 : Int) ≤ ((strOf a).size : Int) := by omega
    have i4 : ((strOf a).size : Int) ≤ ((strOf b).size : Int) := by omega
    have i5 : (strOf a).size ≤ (strOf b).size := by omega
    have i6 : a.length ≤ b.length := by omega
    have i7 : (a.length : Int) ≤ (b.length : Int) := by omega
    have ee : (strOf b).extract 0 a.length = strOf (b.take a.length) := by rw [strOf_ext]; simp
    have eg : (b[a.length]? == some 47) = (((strOf b)[a.length].toNat : Int) == 47) := by
      rw [strOf_get b a.length (by omega) d1, List.getElem?_eq_getElem d1]
      rw [Bool.eq_iff_iff]
      simp only [beq_iff_eq, Option.some.injEq]
      constructor
      · intro h; rw [h]; rfl
      · intro h
        apply UInt8.toNat_inj.1
        rw [show (47 : UInt8).toNat = 47 from rfl]
        omega
    rw [eg]
    clear eg
    generalize ha2 : b.take a.length = a2 at *
    by_cases d2 : a2 = a
    · have e2 : (a2 == a) = true := by simpa using d2
      rw [e2]
      have d2' : strOf a2 = strOf a := by rw [d2]
      go_enter Tryd.func27, Tryd.ntmps27
      go_wp2_with fail
      refine (C1.out _).mono ?_
      rintro e w1 ⟨rfl, hc1⟩
      go_wp2_with fail
      refine (C2.out _).mono ?_
      rintro e w2 ⟨rfl, hc2⟩
      go_wp2
      all_goals
        go_ret
        exact ⟨by first | (simp [*]; done) | (simp [*]; rfl), hc1.trans hc2⟩
    · have e2 : (a2 == a) = false := by simpa using d2
      rw [e2]
      have d2' := str_ne d2
      go_enter Tryd.func27, Tryd.ntmps27
      go_wp2_with fail
      refine (C1.out _).mono ?_
      rintro e w1 ⟨rfl, hc1⟩
      go_wp2_with fail
      refine (C2.out _).mono ?_
      rintro e w2 ⟨rfl, hc2⟩
      go_wp2
      all_goals
        go_ret
        exact ⟨by first | (simp [*]; done) | (simp [*]; rfl), hc1.trans hc2⟩
  · have i1 : ¬ ((a.length : Int) < (b.length : Int)) := by omega
    have i2 : ¬ (((strOf a).size : Int) < ((strOf b).size : Int)) := by omega
    go_enter Tryd.func27, Tryd.ntmps27
    go_wp2_with fail
    refine (C1.out _).mono ?_
    rintro e w1 ⟨rfl, hc1⟩
    go_wp2_with fail
    refine (C2.out _).mono ?_
    rintro e w2 ⟨rfl, hc2⟩
    go_wp2
    all_goals
      go_ret
      exact ⟨by simp [d1], hc1.trans hc2⟩
set_option maxHeartbeats 2000000 in
theorem qhnear_any (w : World) (a b : List UInt8) (ha : a.length ≤ 10000000) (hb : b.length ≤ 10000000) :
    Calls Tryd.prog 29 #[.string (strOf a), .string (strOf b)] w fun e w' => e = .returned (.bool (nearL a b)) ∧ Chg [] w w' := by
  have C2 := Lib.hid (fun w => qhunder_any w a b ha hb)
  have C3 := Lib.hid (fun w => qhunder_any w b a hb ha)
  obtain ⟨p1, hp1⟩ : ∃ p, okP a = p := ⟨_, rfl⟩
  have C1 := Lib.hid (qcheck_p a p1 hp1 ha)
  unfold nearL
  rw [hp1]
  clear hp1 ha hb
  by_cases hab : a = b
  · subst hab
    have h1 : (a == a) = true := by simp
    generalize underL a a = p2 at *
    cases p1
    · cases p2
      · skip
        go_enter Tryd.func29, Tryd.ntmps29
        go_wp2_with fail
        refine (C1.out _).mono ?_
        rintro e w1 ⟨rfl, hc1⟩
        go_wp2_with fail
        refine (C2.out _).mono ?_
        rintro e w2 ⟨rfl, hc2⟩
        go_wp2_with fail
        refine (C3.out _).mono ?_
        rintro e w3 ⟨rfl, hc3⟩
        go_wp2
        go_ret
        exact ⟨by simp [*], ((hc1.trans hc2).trans hc3)⟩
      · skip
        go_enter Tryd.func29, Tryd.ntmps29
        go_wp2_with fail
        refine (C1.out _).mono ?_
        rintro e w1 ⟨rfl, hc1⟩
        go_wp2_with fail
        refine (C2.out _).mono ?_
        rintro e w2 ⟨rfl, hc2⟩
        go_wp2
        go_ret
        exact ⟨by simp [*], (hc1.trans hc2)⟩
    · skip
      go_enter Tryd.func29, Tryd.ntmps29
      go_wp2_with fail
      refine (C1.out _).mono ?_
      rintro e w1 ⟨rfl, hc1⟩
      go_wp2
      go_ret
      exact ⟨by simp [*], hc1⟩
  · have h1 : (a == b) = false := by simpa using hab
    have h2 := str_ne hab
    generalize underL a b = p2 at *
    generalize underL b a = p3 at *
    cases p1
    · cases p2
      · cases p3
        · skip
          go_enter Tryd.func29, Tryd.ntmps29
          go_wp2_with fail
          refine (C1.out _).mono ?_
          rintro e w1 ⟨rfl, hc1⟩
          go_wp2_with fail
          refine (C2.out _).mono ?_
          rintro e w2 ⟨rfl, hc2⟩
          go_wp2_with fail
          refine (C3.out _).mono ?_
          rintro e w3 ⟨rfl, hc3⟩
          go_wp2
          go_ret
          exact ⟨by simp [*], ((hc1.trans hc2).trans hc3)⟩
        · skip
          go_enter Tryd.func29, Tryd.ntmps29
          go_wp2_with fail
          refine (C1.out _).mono ?_
          rintro e w1 ⟨rfl, hc1⟩
          go_wp2_with fail
          refine (C2.out _).mono ?_
          rintro e w2 ⟨rfl, hc2⟩
          go_wp2_with fail
          refine (C3.out _).mono ?_
          rintro e w3 ⟨rfl, hc3⟩
          go_wp2
          go_ret
          exact ⟨by simp [*], ((hc1.trans hc2).trans hc3)⟩
      · skip
        go_enter Tryd.func29, Tryd.ntmps29
        go_wp2_with fail
        refine (C1.out _).mono ?_
        rintro e w1 ⟨rfl, hc1⟩
        go_wp2_with fail
        refine (C2.out _).mono ?_
        rintro e w2 ⟨rfl, hc2⟩
        go_wp2
        go_ret
        exact ⟨by simp [*], (hc1.trans hc2)⟩
    · cases p2
      · cases p3
        · skip
          go_enter Tryd.func29, Tryd.ntmps29
          go_wp2_with fail
          refine (C1.out _).mono ?_
          rintro e w1 ⟨rfl, hc1⟩
          go_wp2_with fail
          refine (C2.out _).mono ?_
          rintro e w2 ⟨rfl, hc2⟩
          go_wp2_with fail
          refine (C3.out _).mono ?_
          rintro e w3 ⟨rfl, hc3⟩
          go_wp2
          go_ret
          exact ⟨by simp [*], ((hc1.trans hc2).trans hc3)⟩
        · skip
          go_enter Tryd.func29, Tryd.ntmps29
          go_wp2_with fail
          refine (C1.out _).mono ?_
          rintro e w1 ⟨rfl, hc1⟩
          go_wp2_with fail
          refine (C2.out _).mono ?_
          rintro e w2 ⟨rfl, hc2⟩
          go_wp2_with fail
          refine (C3.out _).mono ?_
          rintro e w3 ⟨rfl, hc3⟩
          go_wp2
          go_ret
          exact ⟨by simp [*], ((hc1.trans hc2).trans hc3)⟩
      · skip
        go_enter Tryd.func29, Tryd.ntmps29
        go_wp2_with fail
        refine (C1.out _).mono ?_
        rintro e w1 ⟨rfl, hc1⟩
        go_wp2_with fail
        refine (C2.out _).mono ?_
        rintro e w2 ⟨rfl, hc2⟩
        go_wp2
        go_ret
        exact ⟨by simp [*], (hc1.trans hc2)⟩
end Go.Proofs.YtibdeiahmgkbhaaDoor
