/- Package dot: Check, compare, Less, Next; the document's Check, Less, Next. -/
import Derived.Test.YtgafkphhnlifiaaKit
import Derived.Test.YtgafkphhnlifiaaCmp
namespace Go.Proofs.Ytgafkphhnlifiaa
open Go.RowKit
set_option linter.unusedSimpArgs false
set_option linter.unusedVariables false

/-- Which dots may be. -/
def FineD (n s : Int) : Prop := 1 ≤ n ∧ n ≤ 200 ∧ 1 ≤ s ∧ s ≤ 2147483647
instance (n s : Int) : Decidable (FineD n s) := by unfold FineD; exact inferInstance
/-- Why a dot may not be. -/
def chkD (n s : Int) : Int := if FineD n s then 0 else 2
theorem chkD_fine {n s : Int} (h : FineD n s) : chkD n s = 0 := if_pos h
theorem chkD_odd {n s : Int} (h : ¬ FineD n s) : chkD n s = 2 := if_neg h

set_option maxHeartbeats 400000 in
theorem dcheck_any (w : World) (n s : Int) : Calls Try.prog 42 #[.agg #[.int .i64 n, .int .i64 s]] w fun e w' => e = .returned (.int .i64 (chkD n s)) ∧ Chg [] w w' := by
  have go : ∀ v, chkD n s = v → Calls Try.prog 42 #[.agg #[.int .i64 n, .int .i64 s]] w (fun e w' => e = .returned (.int .i64 v) ∧ Chg [] w w') → Calls Try.prog 42 #[.agg #[.int .i64 n, .int .i64 s]] w fun e w' => e = .returned (.int .i64 (chkD n s)) ∧ Chg [] w w' := fun v hv h => hv ▸ h
  by_cases h : FineD n s
  · refine go 0 (chkD_fine h) ?_
    clear go
    obtain ⟨h1, h2, h3, h4⟩ := h
    go_enter Try.func42, Try.ntmps42
    go_wp2
    go_ret
    exact ⟨rfl, (Chg.refl _ _).alloc _⟩
  · refine go 2 (chkD_odd h) ?_
    clear go
    unfold FineD at h
    by_cases h1 : n < 1
    · clear h
      go_enter Try.func42, Try.ntmps42
      go_wp2
      go_ret
      exact ⟨rfl, (Chg.refl _ _).alloc _⟩
    by_cases h2 : 200 < n
    · clear h
      go_enter Try.func42, Try.ntmps42
      go_wp2
      go_ret
      exact ⟨rfl, (Chg.refl _ _).alloc _⟩
    by_cases h3 : s < 1
    · clear h
      go_enter Try.func42, Try.ntmps42
      go_wp2
      go_ret
      exact ⟨rfl, (Chg.refl _ _).alloc _⟩
    · have h4 : 2147483647 < s := by omega
      clear h
      go_enter Try.func42, Try.ntmps42
      go_wp2
      go_ret
      exact ⟨rfl, (Chg.refl _ _).alloc _⟩
set_option maxHeartbeats 400000 in
theorem hcheck_any (w : World) (n s : Int) : Calls Try.prog 48 #[.agg #[.int .i64 n, .int .i64 s]] w fun e w' => e = .returned (.int .i64 (chkD n s)) ∧ Chg [] w w' := by
  have go : ∀ v, chkD n s = v → Calls Try.prog 48 #[.agg #[.int .i64 n, .int .i64 s]] w (fun e w' => e = .returned (.int .i64 v) ∧ Chg [] w w') → Calls Try.prog 48 #[.agg #[.int .i64 n, .int .i64 s]] w fun e w' => e = .returned (.int .i64 (chkD n s)) ∧ Chg [] w w' := fun v hv h => hv ▸ h
  by_cases h : FineD n s
  · refine go 0 (chkD_fine h) ?_
    clear go
    obtain ⟨h1, h2, h3, h4⟩ := h
    go_enter Try.func48, Try.ntmps48
    go_wp2
    go_ret
    exact ⟨rfl, (Chg.refl _ _).alloc _⟩
  · refine go 2 (chkD_odd h) ?_
    clear go
    unfold FineD at h
    by_cases h1 : n < 1
    · clear h
      go_enter Try.func48, Try.ntmps48
      go_wp2
      go_ret
      exact ⟨rfl, (Chg.refl _ _).alloc _⟩
    by_cases h2 : 200 < n
    · clear h
      go_enter Try.func48, Try.ntmps48
      go_wp2
      go_ret
      exact ⟨rfl, (Chg.refl _ _).alloc _⟩
    by_cases h3 : s < 1
    · clear h
      go_enter Try.func48, Try.ntmps48
      go_wp2
      go_ret
      exact ⟨rfl, (Chg.refl _ _).alloc _⟩
    · have h4 : 2147483647 < s := by omega
      clear h
      go_enter Try.func48, Try.ntmps48
      go_wp2
      go_ret
      exact ⟨rfl, (Chg.refl _ _).alloc _⟩

/-- The order of dots. -/
def or2 (a b : Int) : Int := if a ≠ 0 then a else b
def cmpD (a s b t : Int) : Int := or2 (cmpI a b) (cmpI s t)
theorem cmpI_lt {a b : Int} : cmpI a b < 0 ↔ a < b := by unfold cmpI; split <;> (try split) <;> omega
theorem cmpI_zero {a b : Int} : cmpI a b = 0 ↔ a = b := by unfold cmpI; split <;> (try split) <;> omega
/-- Comes one dot ahead of another one? -/
def LtD (a s b t : Int) : Prop := a < b ∨ a = b ∧ s < t
instance (a s b t : Int) : Decidable (LtD a s b t) := by unfold LtD; exact inferInstance
theorem cmpD_lt {a s b t : Int} : cmpD a s b t < 0 ↔ LtD a s b t := by
  unfold cmpD or2 LtD
  have h1 := @cmpI_lt a b
  have h2 := @cmpI_zero a b
  have h3 := @cmpI_lt s t
  split <;> omega
theorem cmpD_zero {a s b t : Int} : cmpD a s b t = 0 ↔ a = b ∧ s = t := by
  unfold cmpD or2
  have h2 := @cmpI_zero a b
  have h3 := @cmpI_zero s t
  split <;> omega

set_option maxHeartbeats 400000 in
/-- cmp.Or at two numbers. -/
theorem or2_any (w : World) (g : Nat) (a b : Int) (h : w.heap[g]? = some (.cells #[.int .i64 a, .int .i64 b] 3 (0, 0))) :
    Calls Try.prog 76 #[.slice (some ⟨g, 0, none⟩) 2 2] w fun e w' => e = .returned (.int .i64 (or2 a b)) ∧ w = w' := by
  unfold or2
  have k0 := cell_of h 0
  have k1 := cell_of h 1
  simp only [List.getElem?_toArray, List.getElem?_cons_succ, List.getElem?_cons_zero] at k0 k1
  clear h
  by_cases ha : a = 0
  · subst ha
    rw [if_neg (by simp)]
    by_cases hb : b = 0
    · subst hb
      go_enter Try.func76, Try.ntmps76
      go_wp2
      refine wp_loop_rounds 3 ?_
      rw [rounds_succ]
      go_wp2
      rw [rounds_succ]
      go_wp2
      rw [rounds_succ]
      go_wp2
      go_ret
      exact ⟨rfl, rfl⟩
    · have hb' : (b != 0) = true := by simpa using hb
      clear hb
      go_enter Try.func76, Try.ntmps76
      go_wp2
      refine wp_loop_rounds 2 ?_
      rw [rounds_succ]
      go_wp2
      rw [rounds_succ]
      go_wp2
      go_ret
      exact ⟨rfl, rfl⟩
  · have ha' : (a != 0) = true := by simpa using ha
    rw [if_pos ha]
    clear ha
    go_enter Try.func76, Try.ntmps76
    go_wp2
    refine wp_loop_rounds 1 ?_
    rw [rounds_succ]
    go_wp2
    go_ret
    exact ⟨rfl, rfl⟩
end Go.Proofs.Ytgafkphhnlifiaa
