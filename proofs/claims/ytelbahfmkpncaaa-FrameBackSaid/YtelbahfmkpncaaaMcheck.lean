/- Messages: which may be, by the program and by the document. -/
import Derived.Test.YtelbahfmkpncaaaPkit
namespace Go.Proofs.Ytelbahfmkpncaaa
open Go.RowKit
set_option linter.unusedSimpArgs false
set_option linter.unusedVariables false


/-- Which parts may be. -/
def PartP (s a : Int) (len : Nat) : Prop := 1 ≤ s ∧ s ≤ 60000 ∧ 0 ≤ a ∧ a < s ∧ 1 ≤ len ∧ len ≤ 200 ∧ (len : Int) ≤ s - a
instance (s a : Int) (len : Nat) : Decidable (PartP s a len) := by unfold PartP; exact inferInstance
/-- Which messages may be. -/
def FineM (k i s a : Int) (len : Nat) : Prop := 1 ≤ i ∧ i ≤ 1099511627776 ∧ ((k = 1 ∧ PartP s a len) ∨ ((k = 2 ∨ k = 3) ∧ s = 0 ∧ a = 0 ∧ len = 0))
instance (k i s a : Int) (len : Nat) : Decidable (FineM k i s a len) := by unfold FineM; exact inferInstance
def chkM (k i s a : Int) (len : Nat) : Int := if FineM k i s a len then 0 else 2
theorem chkM_fine {k i s a : Int} {len : Nat} (h : FineM k i s a len) : chkM k i s a len = 0 := if_pos h
theorem chkM_odd {k i s a : Int} {len : Nat} (h : ¬ FineM k i s a len) : chkM k i s a len = 2 := if_neg h

set_option maxHeartbeats 4000000 in
theorem maybe_any (w : World) (k i s a : Int) (A : Option Addr) (n c : Nat) (hn : n ≤ 140737488351232) :
    Calls Try.prog 52 #[.agg #[.int .i64 k, .int .i64 i, .int .i64 s, .int .i64 a, .slice A n c]] w fun e w' => e = .returned (.bool (decide (PartP s a n))) ∧ Chg [] w w' := by
  have go : ∀ v, decide (PartP s a n) = v → Calls Try.prog 52 #[.agg #[.int .i64 k, .int .i64 i, .int .i64 s, .int .i64 a, .slice A n c]] w (fun e w' => e = .returned (.bool v) ∧ Chg [] w w') → Calls Try.prog 52 #[.agg #[.int .i64 k, .int .i64 i, .int .i64 s, .int .i64 a, .slice A n c]] w (fun e w' => e = .returned (.bool (decide (PartP s a n))) ∧ Chg [] w w') := fun v hv h => hv ▸ h
  by_cases h6 : s < 1
  · refine go false (decide_eq_false (by unfold PartP; omega)) ?_
    clear go
    go_enter Try.func52, Try.ntmps52
    go_wp2
    go_ret
    exact ⟨rfl, (Chg.refl _ _).alloc _⟩
  by_cases h5 : 60000 < s
  · refine go false (decide_eq_false (by unfold PartP; omega)) ?_
    clear go
    go_enter Try.func52, Try.ntmps52
    go_wp2
    go_ret
    exact ⟨rfl, (Chg.refl _ _).alloc _⟩
  by_cases h4 : a < 0
  · refine go false (decide_eq_false (by unfold PartP; omega)) ?_
    clear go
    go_enter Try.func52, Try.ntmps52
    go_wp2
    go_ret
    exact ⟨rfl, (Chg.refl _ _).alloc _⟩
  by_cases h3 : s ≤ a
  · refine go false (decide_eq_false (by unfold PartP; omega)) ?_
    clear go
    go_enter Try.func52, Try.ntmps52
    go_wp2
    go_ret
    exact ⟨rfl, (Chg.refl _ _).alloc _⟩
  by_cases h2 : n < 1
  · refine go false (decide_eq_false (by unfold PartP; omega)) ?_
    clear go
    go_enter Try.func52, Try.ntmps52
    go_wp2
    go_ret
    exact ⟨rfl, (Chg.refl _ _).alloc _⟩
  by_cases h1 : 200 < n ∨ s - a < (n : Int)
  · refine go false (decide_eq_false (by unfold PartP; omega)) ?_
    clear go
    go_enter Try.func52, Try.ntmps52
    go_wp2
    all_goals (go_ret; refine ⟨congrArg (fun b => Ending.returned (Value.bool b)) (?_ : _ = false), (Chg.refl _ _).alloc _⟩; simp; omega)
  refine go true (decide_eq_true (by unfold PartP; omega)) ?_
  clear go
  go_enter Try.func52, Try.ntmps52
  go_wp2
  all_goals (go_ret; refine ⟨congrArg (fun b => Ending.returned (Value.bool b)) (?_ : _ = true), (Chg.refl _ _).alloc _⟩; simp; omega)
set_option maxHeartbeats 4000000 in
theorem mcheckm_any (w : World) (k i s a : Int) (A : Option Addr) (n c : Nat) (hn : n ≤ 140737488351232) :
    Calls Try.prog 27 #[.agg #[.int .i64 k, .int .i64 i, .int .i64 s, .int .i64 a, .slice A n c]] w fun e w' => e = .returned (.int .i64 (chkM k i s a n)) ∧ Chg [] w w' := by
  have go : ∀ v, chkM k i s a n = v → Calls Try.prog 27 #[.agg #[.int .i64 k, .int .i64 i, .int .i64 s, .int .i64 a, .slice A n c]] w (fun e w' => e = .returned (.int .i64 v) ∧ Chg [] w w') → Calls Try.prog 27 #[.agg #[.int .i64 k, .int .i64 i, .int .i64 s, .int .i64 a, .slice A n c]] w (fun e w' => e = .returned (.int .i64 (chkM k i s a n)) ∧ Chg [] w w') := fun v hv h => hv ▸ h
  by_cases h2_0 : i < 1
  · skip
    refine go 2 (chkM_odd (by unfold FineM PartP; omega)) ?_
    clear go
    go_enter Try.func27, Try.ntmps27
    go_wp2
    go_ret
    exact ⟨rfl, (Chg.refl _ _).alloc _⟩
  by_cases h2_1 : 1099511627776 < i
  · skip
    refine go 2 (chkM_odd (by unfold FineM PartP; omega)) ?_
    clear go
    go_enter Try.func27, Try.ntmps27
    go_wp2
    go_ret
    exact ⟨rfl, (Chg.refl _ _).alloc _⟩
  by_cases hk : k = 1
  · subst hk
    by_cases hp : PartP s a n
    · have ed : decide (PartP s a n) = true := decide_eq_true hp
      have hf : FineM 1 i s a n := ⟨by omega, by omega, .inl ⟨rfl, hp⟩⟩
      have HF := Lib.hid hf
      clear hp hf
      have ED := Lib.hid ed
      clear ed
      refine go 0 (chkM_fine (HF.out)) ?_
      clear go
      go_enter Try.func27, Try.ntmps27
      go_wp2_with (go_at_call 52; refine (maybe_any _ 1 i s a A n c hn).mono ?_; rw [ED.out]; rintro e w1 ⟨rfl, hc⟩; have C1 := Lib.hid (((Chg.refl [] w).alloc _).trans hc); clear hc)
      go_ret
      exact ⟨rfl, C1.out⟩
    · have ed : decide (PartP s a n) = false := decide_eq_false hp
      have hf : ¬ FineM 1 i s a n := by
        rintro ⟨_, _, h⟩
        rcases h with ⟨_, h⟩ | ⟨h, _⟩
        · exact hp h
        · omega
      have HF := Lib.hid hf
      clear hp hf
      have ED := Lib.hid ed
      clear ed
      refine go 2 (chkM_odd (HF.out)) ?_
      clear go
      go_enter Try.func27, Try.ntmps27
      go_wp2_with (go_at_call 52; refine (maybe_any _ 1 i s a A n c hn).mono ?_; rw [ED.out]; rintro e w1 ⟨rfl, hc⟩; have C1 := Lib.hid (((Chg.refl [] w).alloc _).trans hc); clear hc)
      go_ret
      exact ⟨rfl, C1.out⟩
  by_cases hk2 : k = 2
  · subst hk2
    by_cases hs : s = 0
    · subst hs
      by_cases ha : a = 0
      · subst ha
        by_cases hl : n = 0
        · subst hl
          refine go 0 (chkM_fine (by unfold FineM PartP; omega)) ?_
          clear go
          go_enter Try.func27, Try.ntmps27
          go_wp2
          go_ret
          exact ⟨rfl, (Chg.refl _ _).alloc _⟩
        · have hl2 : ((n : Int) == 0) = false := by simp; omega
          have hl3 : 0 < n := by omega
          refine go 2 (chkM_odd (by unfold FineM PartP; omega)) ?_
          clear go
          go_enter Try.func27, Try.ntmps27
          go_wp2
          go_ret
          exact ⟨rfl, (Chg.refl _ _).alloc _⟩
      · skip
        refine go 2 (chkM_odd (by unfold FineM PartP; omega)) ?_
        clear go
        go_enter Try.func27, Try.ntmps27
        go_wp2
        go_ret
        exact ⟨rfl, (Chg.refl _ _).alloc _⟩
    · skip
      refine go 2 (chkM_odd (by unfold FineM PartP; omega)) ?_
      clear go
      go_enter Try.func27, Try.ntmps27
      go_wp2
      go_ret
      exact ⟨rfl, (Chg.refl _ _).alloc _⟩
  by_cases hk3 : k = 3
  · subst hk3
    by_cases hs : s = 0
    · subst hs
      by_cases ha : a = 0
      · subst ha
        by_cases hl : n = 0
        · subst hl
          refine go 0 (chkM_fine (by unfold FineM PartP; omega)) ?_
          clear go
          go_enter Try.func27, Try.ntmps27
          go_wp2
          go_ret
          exact ⟨rfl, (Chg.refl _ _).alloc _⟩
        · have hl2 : ((n : Int) == 0) = false := by simp; omega
          have hl3 : 0 < n := by omega
          refine go 2 (chkM_odd (by unfold FineM PartP; omega)) ?_
          clear go
          go_enter Try.func27, Try.ntmps27
          go_wp2
          go_ret
          exact ⟨rfl, (Chg.refl _ _).alloc _⟩
      · skip
        refine go 2 (chkM_odd (by unfold FineM PartP; omega)) ?_
        clear go
        go_enter Try.func27, Try.ntmps27
        go_wp2
        go_ret
        exact ⟨rfl, (Chg.refl _ _).alloc _⟩
    · skip
      refine go 2 (chkM_odd (by unfold FineM PartP; omega)) ?_
      clear go
      go_enter Try.func27, Try.ntmps27
      go_wp2
      go_ret
      exact ⟨rfl, (Chg.refl _ _).alloc _⟩
  refine go 2 (chkM_odd (by unfold FineM PartP; omega)) ?_
  clear go
  go_enter Try.func27, Try.ntmps27
  go_wp2
  go_ret
  exact ⟨rfl, (Chg.refl _ _).alloc _⟩
set_option maxHeartbeats 4000000 in
theorem ncheckm_any (w : World) (k i s a : Int) (A : Option Addr) (n c : Nat) (hn : n ≤ 140737488351232) :
    Calls Try.prog 28 #[.agg #[.int .i64 k, .int .i64 i, .int .i64 s, .int .i64 a, .slice A n c]] w fun e w' => e = .returned (.int .i64 (chkM k i s a n)) ∧ Chg [] w w' := by
  have go : ∀ v, chkM k i s a n = v → Calls Try.prog 28 #[.agg #[.int .i64 k, .int .i64 i, .int .i64 s, .int .i64 a, .slice A n c]] w (fun e w' => e = .returned (.int .i64 v) ∧ Chg [] w w') → Calls Try.prog 28 #[.agg #[.int .i64 k, .int .i64 i, .int .i64 s, .int .i64 a, .slice A n c]] w (fun e w' => e = .returned (.int .i64 (chkM k i s a n)) ∧ Chg [] w w') := fun v hv h => hv ▸ h
  by_cases h2_0 : i < 1
  · skip
    refine go 2 (chkM_odd (by unfold FineM PartP; omega)) ?_
    clear go
    go_enter Try.func28, Try.ntmps28
    go_wp2
    go_ret
    exact ⟨rfl, (Chg.refl _ _).alloc _⟩
  by_cases h2_1 : 1099511627776 < i
  · skip
    refine go 2 (chkM_odd (by unfold FineM PartP; omega)) ?_
    clear go
    go_enter Try.func28, Try.ntmps28
    go_wp2
    go_ret
    exact ⟨rfl, (Chg.refl _ _).alloc _⟩
  by_cases hk2 : k = 2
  · subst hk2
    by_cases hs : s = 0
    · subst hs
      by_cases ha : a = 0
      · subst ha
        by_cases hl : n = 0
        · subst hl
          refine go 0 (chkM_fine (by unfold FineM PartP; omega)) ?_
          clear go
          go_enter Try.func28, Try.ntmps28
          go_wp2
          go_ret
          exact ⟨rfl, (Chg.refl _ _).alloc _⟩
        · have hl2 : ((n : Int) == 0) = false := by simp; omega
          have hl3 : 0 < n := by omega
          refine go 2 (chkM_odd (by unfold FineM PartP; omega)) ?_
          clear go
          go_enter Try.func28, Try.ntmps28
          go_wp2
          go_ret
          exact ⟨rfl, (Chg.refl _ _).alloc _⟩
      · skip
        refine go 2 (chkM_odd (by unfold FineM PartP; omega)) ?_
        clear go
        go_enter Try.func28, Try.ntmps28
        go_wp2
        go_ret
        exact ⟨rfl, (Chg.refl _ _).alloc _⟩
    · skip
      refine go 2 (chkM_odd (by unfold FineM PartP; omega)) ?_
      clear go
      go_enter Try.func28, Try.ntmps28
      go_wp2
      go_ret
      exact ⟨rfl, (Chg.refl _ _).alloc _⟩
  by_cases hk3 : k = 3
  · subst hk3
    by_cases hs : s = 0
    · subst hs
      by_cases ha : a = 0
      · subst ha
        by_cases hl : n = 0
        · subst hl
          refine go 0 (chkM_fine (by unfold FineM PartP; omega)) ?_
          clear go
          go_enter Try.func28, Try.ntmps28
          go_wp2
          go_ret
          exact ⟨rfl, (Chg.refl _ _).alloc _⟩
        · have hl2 : ((n : Int) == 0) = false := by simp; omega
          have hl3 : 0 < n := by omega
          refine go 2 (chkM_odd (by unfold FineM PartP; omega)) ?_
          clear go
          go_enter Try.func28, Try.ntmps28
          go_wp2
          go_ret
          exact ⟨rfl, (Chg.refl _ _).alloc _⟩
      · skip
        refine go 2 (chkM_odd (by unfold FineM PartP; omega)) ?_
        clear go
        go_enter Try.func28, Try.ntmps28
        go_wp2
        go_ret
        exact ⟨rfl, (Chg.refl _ _).alloc _⟩
    · skip
      refine go 2 (chkM_odd (by unfold FineM PartP; omega)) ?_
      clear go
      go_enter Try.func28, Try.ntmps28
      go_wp2
      go_ret
      exact ⟨rfl, (Chg.refl _ _).alloc _⟩
  by_cases hk : ¬ k = 1
  · have hkb : (k == 1) = false := by simpa using hk
    have hkb2 : (k == 2) = false := by simpa using hk2
    have hkb3 : (k == 3) = false := by simpa using hk3
    refine go 2 (chkM_odd (by unfold FineM PartP; omega)) ?_
    clear go
    go_enter Try.func28, Try.ntmps28
    go_wp2
    go_ret
    exact ⟨rfl, (Chg.refl _ _).alloc _⟩
  obtain rfl := Decidable.not_not.1 hk
  by_cases h2_0 : s < 1
  · skip
    refine go 2 (chkM_odd (by unfold FineM PartP; omega)) ?_
    clear go
    go_enter Try.func28, Try.ntmps28
    go_wp2
    go_ret
    exact ⟨rfl, (Chg.refl _ _).alloc _⟩
  by_cases h2_1 : 60000 < s
  · skip
    refine go 2 (chkM_odd (by unfold FineM PartP; omega)) ?_
    clear go
    go_enter Try.func28, Try.ntmps28
    go_wp2
    go_ret
    exact ⟨rfl, (Chg.refl _ _).alloc _⟩
  by_cases h2_2 : a < 0
  · skip
    refine go 2 (chkM_odd (by unfold FineM PartP; omega)) ?_
    clear go
    go_enter Try.func28, Try.ntmps28
    go_wp2
    go_ret
    exact ⟨rfl, (Chg.refl _ _).alloc _⟩
  by_cases h2_3 : s ≤ a
  · skip
    refine go 2 (chkM_odd (by unfold FineM PartP; omega)) ?_
    clear go
    go_enter Try.func28, Try.ntmps28
    go_wp2
    go_ret
    exact ⟨rfl, (Chg.refl _ _).alloc _⟩
  by_cases h2_4 : n < 1
  · skip
    refine go 2 (chkM_odd (by unfold FineM PartP; omega)) ?_
    clear go
    go_enter Try.func28, Try.ntmps28
    go_wp2
    go_ret
    exact ⟨rfl, (Chg.refl _ _).alloc _⟩
  by_cases h2_5 : 200 < n
  · skip
    refine go 2 (chkM_odd (by unfold FineM PartP; omega)) ?_
    clear go
    go_enter Try.func28, Try.ntmps28
    go_wp2
    go_ret
    exact ⟨rfl, (Chg.refl _ _).alloc _⟩
  by_cases h2_6 : s - a < (n : Int)
  · skip
    refine go 2 (chkM_odd (by unfold FineM PartP; omega)) ?_
    clear go
    go_enter Try.func28, Try.ntmps28
    go_wp2
    go_ret
    exact ⟨rfl, (Chg.refl _ _).alloc _⟩
  refine go 0 (chkM_fine (by unfold FineM PartP; omega)) ?_
  clear go
  go_enter Try.func28, Try.ntmps28
  go_wp2
  go_ret
  exact ⟨rfl, (Chg.refl _ _).alloc _⟩
end Go.Proofs.Ytelbahfmkpncaaa
