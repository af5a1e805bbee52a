/- The document's layer 17: number, CheckPacket, sum, PutPacket, GetPacket. -/
import Derived.Test.YtelbahfmkpncaaaPaw
import Derived.Test.YtelbahfmkpncaaaVsince
namespace Go.Proofs.Ytelbahfmkpncaaa
open Go.RowKit
set_option linter.unusedSimpArgs false

set_option maxHeartbeats 400000 in
theorem qnumber_any (w : World) (x : Int) : Calls Try.prog 50 #[.int .i64 x] w fun e w' => e = .returned (.bool (decide (inN x))) ∧ w = w' := by
  by_cases h0 : 0 ≤ x
  · by_cases h1 : x ≤ 1099511627776
    · rw [show decide (inN x) = true from decide_eq_true ⟨h0, h1⟩]
      go_enter Try.func50, Try.ntmps50
      go_wp2
      go_ret
      exact ⟨rfl, rfl⟩
    · rw [show decide (inN x) = false from decide_eq_false (by unfold inN; omega)]
      go_enter Try.func50, Try.ntmps50
      go_wp2
      go_ret
      exact ⟨rfl, rfl⟩
  · rw [show decide (inN x) = false from decide_eq_false (by unfold inN; omega)]
    go_enter Try.func50, Try.ntmps50
    go_wp2
    go_ret
    exact ⟨rfl, rfl⟩

set_option maxHeartbeats 4000000 in
theorem qcheck_any (w : World) (f t m a : Int) (A : Option Addr) (n c : Nat) (hn : n ≤ 140737488351232) :
    Calls Try.prog 18 #[.agg #[.int .i64 f, .int .i64 t, .int .i64 m, .int .i64 a, .slice A n c]] w fun e w' => e = .returned (.int .i64 (chkP f t m a n)) ∧ Chg [] w w' := by
  have go : ∀ v, chkP f t m a n = v → Calls Try.prog 18 #[.agg #[.int .i64 f, .int .i64 t, .int .i64 m, .int .i64 a, .slice A n c]] w (fun e w' => e = .returned (.int .i64 v) ∧ Chg [] w w') → Calls Try.prog 18 #[.agg #[.int .i64 f, .int .i64 t, .int .i64 m, .int .i64 a, .slice A n c]] w fun e w' => e = .returned (.int .i64 (chkP f t m a n)) ∧ Chg [] w w' := fun v hv h => hv ▸ h
  by_cases h0 : f < 1
  · refine go 2 (chkP_odd (by unfold FineP; omega)) ?_
    clear go
    go_enter Try.func18, Try.ntmps18
    go_wp2_with (go_at_call 50; refine (qnumber_any _ _).mono ?_; rintro e w' ⟨rfl, rfl⟩)
    go_ret
    exact ⟨rfl, (Chg.refl _ _).alloc _⟩
  by_cases g0 : ¬ inN f
  · refine go 2 (chkP_odd (by unfold FineP; unfold inN at *; omega)) ?_
    have e0 : decide (inN f) = false := decide_eq_false g0
    clear go
    go_enter Try.func18, Try.ntmps18
    go_wp2_with (go_at_call 50; refine (qnumber_any _ _).mono ?_; rintro e w' ⟨rfl, rfl⟩)
    go_ret
    exact ⟨rfl, (Chg.refl _ _).alloc _⟩
  have g0 := Decidable.not_not.1 g0
  have e0 : decide (inN f) = true := decide_eq_true g0
  by_cases g1 : ¬ inN t
  · refine go 2 (chkP_odd (fun h => g1 h.2.2.1)) ?_
    have e1 : decide (inN t) = false := decide_eq_false g1
    clear go
    go_enter Try.func18, Try.ntmps18
    go_wp2_with (go_at_call 50; refine (qnumber_any _ _).mono ?_; rintro e w' ⟨rfl, rfl⟩)
    go_ret
    exact ⟨rfl, (Chg.refl _ _).alloc _⟩
  have g1 := Decidable.not_not.1 g1
  have e1 : decide (inN t) = true := decide_eq_true g1
  by_cases g2 : ¬ inN m
  · refine go 2 (chkP_odd (fun h => g2 h.2.2.2.1)) ?_
    have e2 : decide (inN m) = false := decide_eq_false g2
    clear go
    go_enter Try.func18, Try.ntmps18
    go_wp2_with (go_at_call 50; refine (qnumber_any _ _).mono ?_; rintro e w' ⟨rfl, rfl⟩)
    go_ret
    exact ⟨rfl, (Chg.refl _ _).alloc _⟩
  have g2 := Decidable.not_not.1 g2
  have e2 : decide (inN m) = true := decide_eq_true g2
  by_cases g3 : ¬ inN a
  · refine go 2 (chkP_odd (fun h => g3 h.2.2.2.2.1)) ?_
    have e3 : decide (inN a) = false := decide_eq_false g3
    clear go
    go_enter Try.func18, Try.ntmps18
    go_wp2_with (go_at_call 50; refine (qnumber_any _ _).mono ?_; rintro e w' ⟨rfl, rfl⟩)
    go_ret
    exact ⟨rfl, (Chg.refl _ _).alloc _⟩
  have g3 := Decidable.not_not.1 g3
  have e3 : decide (inN a) = true := decide_eq_true g3
  have G := Lib.hid (And.intro g0 (And.intro g1 (And.intro g2 g3)))
  clear g0 g1 g2 g3
  by_cases h4 : 400 < n
  · refine go 2 (chkP_odd (by unfold FineP; omega)) ?_
    clear go
    go_enter Try.func18, Try.ntmps18
    go_wp2_with (go_at_call 50; refine (qnumber_any _ _).mono ?_; rintro e w' ⟨rfl, rfl⟩)
    go_ret
    exact ⟨rfl, (Chg.refl _ _).alloc _⟩
  by_cases h5 : m = 0
  · by_cases h6 : 0 < n
    · refine go 2 (chkP_odd (by unfold FineP; omega)) ?_
      subst h5
      clear go
      go_enter Try.func18, Try.ntmps18
      go_wp2_with (go_at_call 50; refine (qnumber_any _ _).mono ?_; rintro e w' ⟨rfl, rfl⟩)
      go_ret
      exact ⟨rfl, (Chg.refl _ _).alloc _⟩
    · refine go 0 (chkP_fine ⟨by omega, G.out.1.2, G.out.2.1, G.out.2.2.1, G.out.2.2.2, by omega, by omega⟩) ?_
      subst h5
      clear go
      go_enter Try.func18, Try.ntmps18
      go_wp2_with (go_at_call 50; refine (qnumber_any _ _).mono ?_; rintro e w' ⟨rfl, rfl⟩)
      go_ret
      exact ⟨rfl, (Chg.refl _ _).alloc _⟩
  · refine go 0 (chkP_fine ⟨by omega, G.out.1.2, G.out.2.1, G.out.2.2.1, G.out.2.2.2, by omega, by omega⟩) ?_
    clear go
    go_enter Try.func18, Try.ntmps18
    go_wp2_with (go_at_call 50; refine (qnumber_any _ _).mono ?_; rintro e w' ⟨rfl, rfl⟩)
    go_ret
    exact ⟨rfl, (Chg.refl _ _).alloc _⟩
end Go.Proofs.Ytelbahfmkpncaaa
