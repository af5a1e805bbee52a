/- path.Near, the document's Under and Near. -/
import Derived.Test.YtibdeiahmgkbhaaDoorPhunder
namespace Go.Proofs.YtibdeiahmgkbhaaDoor
open Go.RowKit
set_option linter.unusedSimpArgs false
set_option linter.unusedVariables false
theorem below_tr {a b c : World} (h : Below a.heap.size a b) (k : Below b.heap.size b c) : Below a.heap.size a c := h.trans ⟨k.os, k.tape, k.output, k.size, fun i hi => k.block i (Nat.lt_of_lt_of_le hi h.size)⟩
def nearL (a b : List UInt8) : Bool := (a == b && okP a) || underL a b || underL b a
theorem str_ne {a b : List UInt8} (h : a ≠ b) : strOf a ≠ strOf b := fun e => h (strOf_inj e)
set_option maxHeartbeats 1000000 in
theorem phnear_any (w : World) (a b : List UInt8) (ha : a.length ≤ 140737488351232) (hb : b.length ≤ 140737488351232) :
    Calls Tryd.prog 28 #[.string (strOf a), .string (strOf b)] w fun e w' => e = .returned (.bool (nearL a b)) ∧ Below w.heap.size w w' := by
  have C1 := Lib.hid (fun w => isPath_any w a ha)
  have C2 := Lib.hid (fun w => phunder_any w a b ha hb)
  have C3 := Lib.hid (fun w => phunder_any w b a hb ha)
  unfold nearL
  clear ha hb
  by_cases hab : a = b
  · subst hab
    have h1 : (a == a) = true := by simp
    generalize okP a = p1 at *
    generalize underL a a = p2 at *
    cases p1
    · cases p2
      · skip
        go_enter Tryd.func28, Tryd.ntmps28
        go_wp2_with fail
        refine (C1.out _).mono ?_
        rintro e w1 ⟨rfl, hb1⟩
        go_wp2_with fail
        refine (C2.out _).mono ?_
        rintro e w2 ⟨rfl, hb2⟩
        go_wp2_with fail
        refine (C3.out _).mono ?_
        rintro e w3 ⟨rfl, hb3⟩
        go_wp2
        go_ret
        exact ⟨by simp [*], (below_tr (below_tr hb1 hb2) hb3)⟩
      · skip
        go_enter Tryd.func28, Tryd.ntmps28
        go_wp2_with fail
        refine (C1.out _).mono ?_
        rintro e w1 ⟨rfl, hb1⟩
        go_wp2_with fail
        refine (C2.out _).mono ?_
        rintro e w2 ⟨rfl, hb2⟩
        go_wp2
        go_ret
        exact ⟨by simp [*], (below_tr hb1 hb2)⟩
    · skip
      go_enter Tryd.func28, Tryd.ntmps28
      go_wp2_with fail
      refine (C1.out _).mono ?_
      rintro e w1 ⟨rfl, hb1⟩
      go_wp2
      go_ret
      exact ⟨by simp [*], hb1⟩
  · have h1 : (a == b) = false := by simpa using hab
    have h2 := str_ne hab
    generalize okP a = p1 at *
    generalize underL a b = p2 at *
    generalize underL b a = p3 at *
    cases p2
    · cases p3
      · skip
        go_enter Tryd.func28, Tryd.ntmps28
        go_wp2_with fail
        refine (C2.out _).mono ?_
        rintro e w1 ⟨rfl, hb1⟩
        go_wp2_with fail
        refine (C3.out _).mono ?_
        rintro e w2 ⟨rfl, hb2⟩
        go_wp2
        go_ret
        exact ⟨by simp [*], (below_tr hb1 hb2)⟩
      · skip
        go_enter Tryd.func28, Tryd.ntmps28
        go_wp2_with fail
        refine (C2.out _).mono ?_
        rintro e w1 ⟨rfl, hb1⟩
        go_wp2_with fail
        refine (C3.out _).mono ?_
        rintro e w2 ⟨rfl, hb2⟩
        go_wp2
        go_ret
        exact ⟨by simp [*], (below_tr hb1 hb2)⟩
    · skip
      go_enter Tryd.func28, Tryd.ntmps28
      go_wp2_with fail
      refine (C2.out _).mono ?_
      rintro e w1 ⟨rfl, hb1⟩
      go_wp2
      go_ret
      exact ⟨by simp [*], hb1⟩
theorem under_eq (a b : List UInt8) : (a ++ [47]).isPrefixOf b = (decide (a.length < b.length) && (b.take a.length == a) && (b[a.length]? == some 47)) := by
  rw [Bool.eq_iff_iff]
  simp only [List.isPrefixOf_iff_prefix, Bool.and_eq_true, decide_eq_true_eq, beq_iff_eq]
  constructor
  · rintro ⟨t, rfl⟩
    simp
  · rintro ⟨⟨h1, h2⟩, h3⟩
    refine ⟨b.drop (a.length + 1), ?_⟩
    have h4 := (List.getElem?_eq_some_iff.1 h3).2
    have h5 := List.take_append_drop a.length b
    rw [List.drop_eq_getElem_cons h1, h4, h2] at h5
    rw [← h5]
    simp
end Go.Proofs.YtibdeiahmgkbhaaDoor
