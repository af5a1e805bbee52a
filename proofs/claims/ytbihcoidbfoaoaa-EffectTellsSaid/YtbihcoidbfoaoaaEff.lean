/- Package effect: kinds, Check. -/
import Derived.Test.YtbihcoidbfoaoaaCmp
import Derived.Test.YtbihcoidbfoaoaaRd3
namespace Go.Proofs.Ytbihcoidbfoaoaa
open Go.RowKit

set_option maxHeartbeats 400000 in
theorem kinds_any (w : World) : Calls Try.prog 38 #[] w fun e w' => e = .returned (.agg #[.bool false, .int .i64 0, .int .i64 0, .bool true, .int .i64 511, .int .i64 1000, .bool true, .int .i64 511, .int .i64 0, .bool true, .int .i64 0, .int .i64 0]) ∧ Chg [] w w' := by
  go_enter Try.func38, Try.ntmps38
  go_wp2
  refine bodyPost_ret (v := .agg #[.bool false, .int .i64 0, .int .i64 0, .bool true, .int .i64 511, .int .i64 1000, .bool true, .int .i64 511, .int .i64 0, .bool true, .int .i64 0, .int .i64 0]) (by simp [results, Try.results38, go_sem]) rfl ?_
  exact ⟨rfl, (Chg.refl _ _).alloc _⟩

/-- Which effects may be. -/
def Fine (k m : Int) (n : Nat) : Prop := k = 1 ∧ 0 ≤ m ∧ m ≤ 511 ∧ n ≤ 1000 ∨ k = 2 ∧ 0 ≤ m ∧ m ≤ 511 ∧ n = 0 ∨ k = 3 ∧ m = 0 ∧ n = 0
instance (k m : Int) (n : Nat) : Decidable (Fine k m n) := by unfold Fine; exact inferInstance
/-- Why an effect may not be. -/
def chkE (k m : Int) (n : Nat) : Int := if Fine k m n then 0 else 2
theorem chkE_fine {k m : Int} {n : Nat} (h : Fine k m n) : chkE k m n = 0 := if_pos h
theorem chkE_odd {k m : Int} {n : Nat} (h : ¬ Fine k m n) : chkE k m n = 2 := if_neg h

set_option maxHeartbeats 4000000 in
theorem check_any (w : World) (k m : Int) (A : Option Addr) (n c : Nat) (hn : n ≤ 140737488351232) :
    Calls Try.prog 14 #[.agg #[.int .i64 k, .int .i64 m, .slice A n c]] w fun e w' => e = .returned (.int .i64 (chkE k m n)) ∧ Chg [] w w' := by
  have hk : k < 0 ∨ 4 ≤ k ∨ k = 0 ∨ k = 1 ∨ k = 2 ∨ k = 3 := by omega
  have go : ∀ v, chkE k m n = v → Calls Try.prog 14 #[.agg #[.int .i64 k, .int .i64 m, .slice A n c]] w (fun e w' => e = .returned (.int .i64 v) ∧ Chg [] w w') → Calls Try.prog 14 #[.agg #[.int .i64 k, .int .i64 m, .slice A n c]] w fun e w' => e = .returned (.int .i64 (chkE k m n)) ∧ Chg [] w w' := fun v hv h => hv ▸ h
  rcases hk with h | h | h | h | h | h
  · refine go 2 (chkE_odd (by unfold Fine; omega)) ?_
    clear go
    go_enter Try.func14, Try.ntmps14
    go_wp2_with fail
    refine (kinds_any _).mono ?_
    rintro e w1 ⟨rfl, hc⟩
    have q := hc.at_ (heap_alloc_new w (.cells #[_, _, _] 24)) (by simp)
    have q0 := cell_of q 0
    have q1 := cell_of q 1
    have q2 := cell_of q 2
    simp only [List.getElem?_toArray, List.getElem?_cons_succ, List.getElem?_cons_zero] at q0 q1 q2
    have hz : w.heap.size < w1.heap.size := lt_of_cell q0
    have C1 := Lib.hid (((Chg.refl [] w).alloc _).trans hc)
    clear hc q
    generalize w.heap.size = s at *
    go_wp2
    go_ret
    exact ⟨rfl, C1.out.alloc _⟩
  · refine go 2 (chkE_odd (by unfold Fine; omega)) ?_
    clear go
    have h' : ¬ k < 0 := by omega
    go_enter Try.func14, Try.ntmps14
    go_wp2_with fail
    refine (kinds_any _).mono ?_
    rintro e w1 ⟨rfl, hc⟩
    have q := hc.at_ (heap_alloc_new w (.cells #[_, _, _] 24)) (by simp)
    have q0 := cell_of q 0
    have q1 := cell_of q 1
    have q2 := cell_of q 2
    simp only [List.getElem?_toArray, List.getElem?_cons_succ, List.getElem?_cons_zero] at q0 q1 q2
    have hz : w.heap.size < w1.heap.size := lt_of_cell q0
    have C1 := Lib.hid (((Chg.refl [] w).alloc _).trans hc)
    clear hc q
    generalize w.heap.size = s at *
    go_wp2
    go_ret
    exact ⟨rfl, C1.out.alloc _⟩
  · refine go 2 (chkE_odd (by unfold Fine; omega)) ?_
    subst h
    clear go
    go_enter Try.func14, Try.ntmps14
    go_wp2_with fail
    refine (kinds_any _).mono ?_
    rintro e w1 ⟨rfl, hc⟩
    have q := hc.at_ (heap_alloc_new w (.cells #[_, _, _] 24)) (by simp)
    have q0 := cell_of q 0
    have q1 := cell_of q 1
    have q2 := cell_of q 2
    simp only [List.getElem?_toArray, List.getElem?_cons_succ, List.getElem?_cons_zero] at q0 q1 q2
    have hz : w.heap.size < w1.heap.size := lt_of_cell q0
    have C1 := Lib.hid (((Chg.refl [] w).alloc _).trans hc)
    clear hc q
    generalize w.heap.size = s at *
    go_wp2
    go_ret
    exact ⟨rfl, (C1.out.alloc _).alloc _⟩
  · subst h
    by_cases m0 : m < 0
    · refine go 2 (chkE_odd (by unfold Fine; omega)) ?_
      clear go
      go_enter Try.func14, Try.ntmps14
      go_wp2_with fail
      refine (kinds_any _).mono ?_
      rintro e w1 ⟨rfl, hc⟩
      have q := hc.at_ (heap_alloc_new w (.cells #[_, _, _] 24)) (by simp)
      have q0 := cell_of q 0
      have q1 := cell_of q 1
      have q2 := cell_of q 2
      simp only [List.getElem?_toArray, List.getElem?_cons_succ, List.getElem?_cons_zero] at q0 q1 q2
      have hz : w.heap.size < w1.heap.size := lt_of_cell q0
      have C1 := Lib.hid (((Chg.refl [] w).alloc _).trans hc)
      clear hc q
      generalize w.heap.size = s at *
      go_wp2
      go_ret
      exact ⟨rfl, (C1.out.alloc _).alloc _⟩
    by_cases m1 : 511 < m
    · refine go 2 (chkE_odd (by unfold Fine; omega)) ?_
      clear go
      go_enter Try.func14, Try.ntmps14
      go_wp2_with fail
      refine (kinds_any _).mono ?_
      rintro e w1 ⟨rfl, hc⟩
      have q := hc.at_ (heap_alloc_new w (.cells #[_, _, _] 24)) (by simp)
      have q0 := cell_of q 0
      have q1 := cell_of q 1
      have q2 := cell_of q 2
      simp only [List.getElem?_toArray, List.getElem?_cons_succ, List.getElem?_cons_zero] at q0 q1 q2
      have hz : w.heap.size < w1.heap.size := lt_of_cell q0
      have C1 := Lib.hid (((Chg.refl [] w).alloc _).trans hc)
      clear hc q
      generalize w.heap.size = s at *
      go_wp2
      go_ret
      exact ⟨rfl, (C1.out.alloc _).alloc _⟩
    by_cases n1 : 1000 < n
    · refine go 2 (chkE_odd (by unfold Fine; omega)) ?_
      clear go
      go_enter Try.func14, Try.ntmps14
      go_wp2_with fail
      refine (kinds_any _).mono ?_
      rintro e w1 ⟨rfl, hc⟩
      have q := hc.at_ (heap_alloc_new w (.cells #[_, _, _] 24)) (by simp)
      have q0 := cell_of q 0
      have q1 := cell_of q 1
      have q2 := cell_of q 2
      simp only [List.getElem?_toArray, List.getElem?_cons_succ, List.getElem?_cons_zero] at q0 q1 q2
      have hz : w.heap.size < w1.heap.size := lt_of_cell q0
      have C1 := Lib.hid (((Chg.refl [] w).alloc _).trans hc)
      clear hc q
      generalize w.heap.size = s at *
      go_wp2
      go_ret
      exact ⟨rfl, (C1.out.alloc _).alloc _⟩
    · refine go 0 (chkE_fine (by unfold Fine; omega)) ?_
      clear go
      go_enter Try.func14, Try.ntmps14
      go_wp2_with fail
      refine (kinds_any _).mono ?_
      rintro e w1 ⟨rfl, hc⟩
      have q := hc.at_ (heap_alloc_new w (.cells #[_, _, _] 24)) (by simp)
      have q0 := cell_of q 0
      have q1 := cell_of q 1
      have q2 := cell_of q 2
      simp only [List.getElem?_toArray, List.getElem?_cons_succ, List.getElem?_cons_zero] at q0 q1 q2
      have hz : w.heap.size < w1.heap.size := lt_of_cell q0
      have C1 := Lib.hid (((Chg.refl [] w).alloc _).trans hc)
      clear hc q
      generalize w.heap.size = s at *
      go_wp2
      go_ret
      exact ⟨rfl, (C1.out.alloc _).alloc _⟩
  · subst h
    by_cases m0 : m < 0
    · refine go 2 (chkE_odd (by unfold Fine; omega)) ?_
      clear go
      go_enter Try.func14, Try.ntmps14
      go_wp2_with fail
      refine (kinds_any _).mono ?_
      rintro e w1 ⟨rfl, hc⟩
      have q := hc.at_ (heap_alloc_new w (.cells #[_, _, _] 24)) (by simp)
      have q0 := cell_of q 0
      have q1 := cell_of q 1
      have q2 := cell_of q 2
      simp only [List.getElem?_toArray, List.getElem?_cons_succ, List.getElem?_cons_zero] at q0 q1 q2
      have hz : w.heap.size < w1.heap.size := lt_of_cell q0
      have C1 := Lib.hid (((Chg.refl [] w).alloc _).trans hc)
      clear hc q
      generalize w.heap.size = s at *
      go_wp2
      go_ret
      exact ⟨rfl, (C1.out.alloc _).alloc _⟩
    by_cases m1 : 511 < m
    · refine go 2 (chkE_odd (by unfold Fine; omega)) ?_
      clear go
      go_enter Try.func14, Try.ntmps14
      go_wp2_with fail
      refine (kinds_any _).mono ?_
      rintro e w1 ⟨rfl, hc⟩
      have q := hc.at_ (heap_alloc_new w (.cells #[_, _, _] 24)) (by simp)
      have q0 := cell_of q 0
      have q1 := cell_of q 1
      have q2 := cell_of q 2
      simp only [List.getElem?_toArray, List.getElem?_cons_succ, List.getElem?_cons_zero] at q0 q1 q2
      have hz : w.heap.size < w1.heap.size := lt_of_cell q0
      have C1 := Lib.hid (((Chg.refl [] w).alloc _).trans hc)
      clear hc q
      generalize w.heap.size = s at *
      go_wp2
      go_ret
      exact ⟨rfl, (C1.out.alloc _).alloc _⟩
    by_cases n1 : 0 < n
    · refine go 2 (chkE_odd (by unfold Fine; omega)) ?_
      clear go
      go_enter Try.func14, Try.ntmps14
      go_wp2_with fail
      refine (kinds_any _).mono ?_
      rintro e w1 ⟨rfl, hc⟩
      have q := hc.at_ (heap_alloc_new w (.cells #[_, _, _] 24)) (by simp)
      have q0 := cell_of q 0
      have q1 := cell_of q 1
      have q2 := cell_of q 2
      simp only [List.getElem?_toArray, List.getElem?_cons_succ, List.getElem?_cons_zero] at q0 q1 q2
      have hz : w.heap.size < w1.heap.size := lt_of_cell q0
      have C1 := Lib.hid (((Chg.refl [] w).alloc _).trans hc)
      clear hc q
      generalize w.heap.size = s at *
      go_wp2
      go_ret
      exact ⟨rfl, (C1.out.alloc _).alloc _⟩
    · obtain rfl : n = 0 := by omega
      refine go 0 (chkE_fine (by unfold Fine; omega)) ?_
      clear go
      go_enter Try.func14, Try.ntmps14
      go_wp2_with fail
      refine (kinds_any _).mono ?_
      rintro e w1 ⟨rfl, hc⟩
      have q := hc.at_ (heap_alloc_new w (.cells #[_, _, _] 24)) (by simp)
      have q0 := cell_of q 0
      have q1 := cell_of q 1
      have q2 := cell_of q 2
      simp only [List.getElem?_toArray, List.getElem?_cons_succ, List.getElem?_cons_zero] at q0 q1 q2
      have hz : w.heap.size < w1.heap.size := lt_of_cell q0
      have C1 := Lib.hid (((Chg.refl [] w).alloc _).trans hc)
      clear hc q
      generalize w.heap.size = s at *
      go_wp2
      go_ret
      exact ⟨rfl, (C1.out.alloc _).alloc _⟩
  · subst h
    by_cases m0 : m < 0
    · refine go 2 (chkE_odd (by unfold Fine; omega)) ?_
      clear go
      go_enter Try.func14, Try.ntmps14
      go_wp2_with fail
      refine (kinds_any _).mono ?_
      rintro e w1 ⟨rfl, hc⟩
      have q := hc.at_ (heap_alloc_new w (.cells #[_, _, _] 24)) (by simp)
      have q0 := cell_of q 0
      have q1 := cell_of q 1
      have q2 := cell_of q 2
      simp only [List.getElem?_toArray, List.getElem?_cons_succ, List.getElem?_cons_zero] at q0 q1 q2
      have hz : w.heap.size < w1.heap.size := lt_of_cell q0
      have C1 := Lib.hid (((Chg.refl [] w).alloc _).trans hc)
      clear hc q
      generalize w.heap.size = s at *
      go_wp2
      go_ret
      exact ⟨rfl, (C1.out.alloc _).alloc _⟩
    by_cases m1 : 0 < m
    · refine go 2 (chkE_odd (by unfold Fine; omega)) ?_
      clear go
      go_enter Try.func14, Try.ntmps14
      go_wp2_with fail
      refine (kinds_any _).mono ?_
      rintro e w1 ⟨rfl, hc⟩
      have q := hc.at_ (heap_alloc_new w (.cells #[_, _, _] 24)) (by simp)
      have q0 := cell_of q 0
      have q1 := cell_of q 1
      have q2 := cell_of q 2
      simp only [List.getElem?_toArray, List.getElem?_cons_succ, List.getElem?_cons_zero] at q0 q1 q2
      have hz : w.heap.size < w1.heap.size := lt_of_cell q0
      have C1 := Lib.hid (((Chg.refl [] w).alloc _).trans hc)
      clear hc q
      generalize w.heap.size = s at *
      go_wp2
      go_ret
      exact ⟨rfl, (C1.out.alloc _).alloc _⟩
    obtain rfl : m = 0 := by omega
    by_cases n1 : 0 < n
    · refine go 2 (chkE_odd (by unfold Fine; omega)) ?_
      clear go
      go_enter Try.func14, Try.ntmps14
      go_wp2_with fail
      refine (kinds_any _).mono ?_
      rintro e w1 ⟨rfl, hc⟩
      have q := hc.at_ (heap_alloc_new w (.cells #[_, _, _] 24)) (by simp)
      have q0 := cell_of q 0
      have q1 := cell_of q 1
      have q2 := cell_of q 2
      simp only [List.getElem?_toArray, List.getElem?_cons_succ, List.getElem?_cons_zero] at q0 q1 q2
      have hz : w.heap.size < w1.heap.size := lt_of_cell q0
      have C1 := Lib.hid (((Chg.refl [] w).alloc _).trans hc)
      clear hc q
      generalize w.heap.size = s at *
      go_wp2
      go_ret
      exact ⟨rfl, (C1.out.alloc _).alloc _⟩
    · obtain rfl : n = 0 := by omega
      refine go 0 (chkE_fine (by unfold Fine; omega)) ?_
      clear go
      go_enter Try.func14, Try.ntmps14
      go_wp2_with fail
      refine (kinds_any _).mono ?_
      rintro e w1 ⟨rfl, hc⟩
      have q := hc.at_ (heap_alloc_new w (.cells #[_, _, _] 24)) (by simp)
      have q0 := cell_of q 0
      have q1 := cell_of q 1
      have q2 := cell_of q 2
      simp only [List.getElem?_toArray, List.getElem?_cons_succ, List.getElem?_cons_zero] at q0 q1 q2
      have hz : w.heap.size < w1.heap.size := lt_of_cell q0
      have C1 := Lib.hid (((Chg.refl [] w).alloc _).trans hc)
      clear hc q
      generalize w.heap.size = s at *
      go_wp2
      go_ret
      exact ⟨rfl, (C1.out.alloc _).alloc _⟩
end Go.Proofs.Ytbihcoidbfoaoaa
