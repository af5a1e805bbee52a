/- Package dot: compare, Less, Next; the document's Less, Next. -/
import Derived.Test.YtmcnfopiilplnaaDoorDchk
import Derived.Test.YtmcnfopiilplnaaDoorMem
import Derived.Deep.RegionHeld3
namespace Go.Proofs.YtmcnfopiilplnaaDoor
open Go.RowKit
set_option linter.unusedSimpArgs false
set_option linter.unusedVariables false

set_option maxHeartbeats 1000000 in
theorem dcompare_any (w : World) (a s b t : Int) :
    Calls Tryd.prog 36 #[.agg #[.int .i64 a, .int .i64 s], .agg #[.int .i64 b, .int .i64 t]] w fun e w' => e = .returned (.int .i64 (cmpD a s b t)) ∧ Chg [] w w' := by
  obtain ⟨w0, hw0, c0, b0, b1⟩ := news2 w (.cells #[.int .i64 a, .int .i64 s] 23) (.cells #[.int .i64 b, .int .i64 t] 23)
  have k0 := cell_of b0 0
  have k1 := cell_of b0 1
  have k3 := cell_of b1 0
  have k4 := cell_of b1 1
  simp only [List.getElem?_toArray, List.getElem?_cons_succ, List.getElem?_cons_zero] at k0 k1 k3 k4
  have g0 := lt_of_heap b0
  have g1 := lt_of_heap b1
  have W0 := Lib.hid hw0
  have C0 := Lib.hid c0
  clear hw0 c0 b0 b1
  unfold cmpD
  generalize hr : or2 (cmpI a b) (cmpI s t) = R
  have HR := Lib.hid hr
  clear hr
  go_enter Tryd.func36, Tryd.ntmps36
  go_wp2
  rw [← W0.out]
  have n1 := World.new_ne w0 ⟨w.heap.size, 0, none⟩ k0
  have n2 := World.new_ne w0 ⟨w.heap.size + 1, 0, none⟩ k3
  generalize w.heap.size + 1 = s1 at *
  generalize w.heap.size = s0 at *
  go_region_held3 (fun w' => w'.cell? ⟨s0, 0, none⟩ = some (.int .i64 a) ∧ w'.cell? ⟨s0, 1, none⟩ = some (.int .i64 s) ∧ w'.cell? ⟨s1, 0, none⟩ = some (.int .i64 b) ∧ w'.cell? ⟨s1, 1, none⟩ = some (.int .i64 t)) (first | exact ⟨k0, k1, k3, k4⟩ | go_keep)
    ((first
      | (go_at_call 47; (with_reducible refine (cmpint_any _ _ _).mono ?_); rintro e w1 ⟨rfl, rfl⟩)
      | (go_at_call 46; refine (or2_any _ w0.heap.size (cmpI a b) (cmpI s t) (show (w0.alloc _).drew.heap[_]? = _ from heap_alloc_new w0 _)).mono ?_; rintro e w1 ⟨rfl, rfl⟩)))
  all_goals
    go_wp2
    go_ret
    exact ⟨by first | rfl | (rw [← HR.out]; rfl), (C0.out.alloc _).drew⟩
theorem dless_any (w : World) (a s b t : Int) :
    Calls Tryd.prog 19 #[.agg #[.int .i64 a, .int .i64 s], .agg #[.int .i64 b, .int .i64 t]] w fun e w' => e = .returned (.bool (decide (LtD a s b t))) ∧ Chg [] w w' := by
  have h : decide (cmpD a s b t < 0) = decide (LtD a s b t) := decide_eq_decide.2 cmpD_lt
  generalize decide (LtD a s b t) = B at *
  go_enter Tryd.func19, Tryd.ntmps19
  go_wp2_with fail
  refine (dcompare_any _ _ _ _ _).mono ?_
  rintro e w1 ⟨rfl, c1⟩
  have C1 := Lib.hid ((((Chg.refl [] w).alloc _).alloc _).trans c1)
  clear c1
  go_wp2
  go_ret
  exact ⟨rfl, C1.out⟩
theorem hless_any (w : World) (a s b t : Int) :
    Calls Tryd.prog 20 #[.agg #[.int .i64 a, .int .i64 s], .agg #[.int .i64 b, .int .i64 t]] w fun e w' => e = .returned (.bool (decide (LtD a s b t))) ∧ Chg [] w w' := by
  have go : ∀ v, decide (LtD a s b t) = v → Calls Tryd.prog 20 #[.agg #[.int .i64 a, .int .i64 s], .agg #[.int .i64 b, .int .i64 t]] w (fun e w' => e = .returned (.bool v) ∧ Chg [] w w') → Calls Tryd.prog 20 #[.agg #[.int .i64 a, .int .i64 s], .agg #[.int .i64 b, .int .i64 t]] w fun e w' => e = .returned (.bool (decide (LtD a s b t))) ∧ Chg [] w w' := fun v hv h => hv ▸ h
  by_cases h1 : a < b
  · refine go true (decide_eq_true (.inl h1)) ?_
    clear go
    go_enter Tryd.func20, Tryd.ntmps20
    go_wp2
    go_ret
    exact ⟨rfl, ((Chg.refl _ _).alloc _).alloc _⟩
  by_cases h2 : a = b
  · subst h2
    by_cases h3 : s < t
    · refine go true (decide_eq_true (.inr ⟨rfl, h3⟩)) ?_
      clear go
      go_enter Tryd.func20, Tryd.ntmps20
      go_wp2
      go_ret
      exact ⟨rfl, ((Chg.refl _ _).alloc _).alloc _⟩
    · refine go false (decide_eq_false (by unfold LtD; omega)) ?_
      clear go
      go_enter Tryd.func20, Tryd.ntmps20
      go_wp2
      go_ret
      exact ⟨rfl, ((Chg.refl _ _).alloc _).alloc _⟩
  · refine go false (decide_eq_false (by unfold LtD; omega)) ?_
    clear go
    have h4 : (a == b) = false := by simpa using h2
    have h5 : ¬ a < b := h1
    go_enter Tryd.func20, Tryd.ntmps20
    go_wp2
    go_ret
    exact ⟨rfl, ((Chg.refl _ _).alloc _).alloc _⟩

end Go.Proofs.YtmcnfopiilplnaaDoor
