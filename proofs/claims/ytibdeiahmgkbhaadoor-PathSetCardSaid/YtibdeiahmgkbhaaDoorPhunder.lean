/- path.Under and the document's. -/
import Derived.Test.YtibdeiahmgkbhaaDoorPhcheck
import Derived.Test.YtibdeiahmgkbhaaDoorQhcheck
import Derived.Shelf.Small.Wraps
import Derived.Shelf.Strings.Prefix
namespace Go.Proofs.YtibdeiahmgkbhaaDoor
open Go.RowKit
set_option linter.unusedSimpArgs false
set_option linter.unusedVariables false
def okP (l : List UInt8) : Bool := checkL 6 12 l
def underL (a b : List UInt8) : Bool := okP a && okP b && (a ++ [47]).isPrefixOf b
theorem isPath_any (w : World) (l : List UInt8) (hlen : l.length ≤ 140737488351232) :
    Calls Tryd.prog 42 #[.string (strOf l)] w fun e w' => e = .returned (.bool (okP l)) ∧ Below w.heap.size w w' := by
  obtain ⟨p, hp⟩ : ∃ p, okP l = p := ⟨_, rfl⟩
  have HC := Lib.hid (fun w => phcheck_any w l hlen)
  rw [show checkL 6 12 l = p from hp] at HC
  rw [hp]
  go_enter Tryd.func42, Tryd.ntmps42
  go_wp2_with fail
  refine (HC.out _).mono ?_
  rintro e w1 ⟨rfl, hb⟩
  cases p
  · go_wp2
    go_ret
    exact ⟨rfl, hb⟩
  · go_wp2
    go_ret
    exact ⟨rfl, hb⟩
theorem cutPrefix_any (w : World) (a b : List UInt8) : Calls Tryd.prog 44 #[.string (strOf b), .string (strOf a)] w fun e w' => e = .returned (.tuple #[.string (strOf (Lib.trimPrefix b a)), .bool (a.isPrefixOf b)]) ∧ w' = w := by
  refine (Any.strings_CutPrefix Tryd.lays103 (strOf b) (strOf a) w).mono ?_
  rintro e w' ⟨rfl, rfl⟩
  rw [strOf_data, strOf_data]
  exact ⟨rfl, rfl⟩
theorem hasSlash_any (w : World) (b : List UInt8) : Calls Tryd.prog 45 #[.string (strOf b), .string ⟨#[47]⟩] w fun e w' => e = .returned (.bool ([47].isPrefixOf b)) ∧ w' = w := by
  refine (Any.strings_HasPrefix Tryd.lays99 (strOf b) ⟨#[47]⟩ w).mono ?_
  rintro e w' ⟨rfl, rfl⟩
  rw [strOf_data]
  exact ⟨rfl, rfl⟩
theorem prefix_slash (a b : List UInt8) : (a ++ [47]).isPrefixOf b = (a.isPrefixOf b && [47].isPrefixOf (Lib.trimPrefix b a)) := by
  unfold Lib.trimPrefix Lib.hasPrefix
  rw [Bool.eq_iff_iff]
  simp only [List.isPrefixOf_iff_prefix, Bool.and_eq_true]
  constructor
  · rintro ⟨t, rfl⟩
    have : a <+: a ++ [47] ++ t := ⟨[47] ++ t, by simp⟩
    refine ⟨this, ?_⟩
    rw [if_pos this]
    exact ⟨t, by simp⟩
  · rintro ⟨h, h2⟩
    rw [if_pos h] at h2
    obtain ⟨t, rfl⟩ := h
    obtain ⟨u, hu⟩ := h2
    rw [List.drop_left] at hu
    exact ⟨u, by rw [← hu]; simp⟩
set_option maxHeartbeats 1000000 in
theorem phunder_any (w : World) (a b : List UInt8) (ha : a.length ≤ 140737488351232) (hb : b.length ≤ 140737488351232) :
    Calls Tryd.prog 26 #[.string (strOf a), .string (strOf b)] w fun e w' => e = .returned (.bool (underL a b)) ∧ Below w.heap.size w w' := by
  have hu : underL a b = (a.isPrefixOf b && [47].isPrefixOf (Lib.trimPrefix b a) && okP a && okP b) := by
    unfold underL
    rw [prefix_slash]
    cases okP a <;> cases okP b <;> simp
  rw [hu]
  have C1 := Lib.hid (fun w => cutPrefix_any w a b)
  have C2 := Lib.hid (fun w => hasSlash_any w (Lib.trimPrefix b a))
  have C3 := Lib.hid (fun w => isPath_any w a ha)
  have C4 := Lib.hid (fun w => isPath_any w b hb)
  clear hu
  generalize Lib.trimPrefix b a = r at *
  generalize a.isPrefixOf b = p1 at *
  generalize [47].isPrefixOf r = p2 at *
  generalize okP a = p3 at *
  generalize okP b = p4 at *
  cases p1
  · go_enter Tryd.func26, Tryd.ntmps26
    go_wp2_with fail
    refine (C1.out _).mono ?_
    rintro e w1 ⟨rfl, rfl⟩
    go_wp2
    go_ret
    exact ⟨rfl, Below.refl _ _⟩
  cases p2
  · go_enter Tryd.func26, Tryd.ntmps26
    go_wp2_with fail
    refine (C1.out _).mono ?_
    rintro e w1 ⟨rfl, rfl⟩
    go_wp2_with fail
    refine (C2.out _).mono ?_
    rintro e w1 ⟨rfl, rfl⟩
    go_wp2
    go_ret
    exact ⟨rfl, Below.refl _ _⟩
  cases p3
  · go_enter Tryd.func26, Tryd.ntmps26
    go_wp2_with fail
    refine (C1.out _).mono ?_
    rintro e w1 ⟨rfl, rfl⟩
    go_wp2_with fail
    refine (C2.out _).mono ?_
    rintro e w1 ⟨rfl, rfl⟩
    go_wp2_with fail
    refine (C3.out _).mono ?_
    rintro e w2 ⟨rfl, hb⟩
    go_wp2
    go_ret
    exact ⟨rfl, hb⟩
  · go_enter Tryd.func26, Tryd.ntmps26
    go_wp2_with fail
    refine (C1.out _).mono ?_
    rintro e w1 ⟨rfl, rfl⟩
    go_wp2_with fail
    refine (C2.out _).mono ?_
    rintro e w1 ⟨rfl, rfl⟩
    go_wp2_with fail
    refine (C3.out _).mono ?_
    rintro e w2 ⟨rfl, hb2⟩
    go_wp2_with fail
    refine (C4.out _).mono ?_
    rintro e w3 ⟨rfl, hb3⟩
    go_wp2
    go_ret
    exact ⟨by simp, hb2.trans ⟨hb3.os, hb3.tape, hb3.output, hb3.size, fun k hk => hb3.block k (Nat.lt_of_lt_of_le hk hb2.size)⟩⟩
end Go.Proofs.YtibdeiahmgkbhaaDoor
