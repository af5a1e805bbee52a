/- What a spool answers that is none, or was not made. -/
import Derived.Test.YtjhnaiffjlnfhaaDoorMem
import Derived.Deep.QuietTactic
import Derived.BigQuiet
import Derived.RegionTactic
import Derived.Deep.RegionHeld3
import Derived.Deep.Cut
namespace Go.Proofs.YtjhnaiffjlnfhaaDoor
open Go.RowKit Go.Lib
set_option linter.unusedSimpArgs false
set_option linter.unusedVariables false

theorem run_eql_nil_ptr_ {P : Program} (w : World) {tp te : TypeId} (a : Addr) (hp : P.underlying tp = some (.pointer te)) :
    (binOp .eql tp (.pointer none) (.pointer (some a))).run P w = .ok (.bool false) w := by
  have h : ∀ d : Nat, (Op.equalIn (d + 1) tp (.pointer none) (.pointer (some a))).run P w = .ok false w := fun d => by
    simp [Op.equalIn, run_underlying hp]
  simp only [binOp]
  simp [Op.equal, Op.maxDepth, h 9999]
/-- No spool, or one that New has not made. -/
def DeadP (w : World) (p : Option Addr) : Prop := p = none ∨ ∃ b, p = some ⟨b, 0, none⟩ ∧ w.cell? ⟨b, 0, none⟩ = some (.pointer none)
theorem DeadP.chg {w w' : World} {p : Option Addr} (h : DeadP w p) (hc : Chg [] w w') : DeadP w' p := by
  rcases h with h | ⟨b, h, hb⟩
  · exact .inl h
  · exact .inr ⟨b, h, hc.cell hb (by simp)⟩
theorem pmade_dead (w : World) (p : Option Addr) (h : DeadP w p) : Calls Tryd.prog 18 #[.pointer p] w fun e w' => e = .returned (.bool false) ∧ Chg [] w w' := by
  rcases h with rfl | ⟨b, rfl, hb⟩
  · go_enter Tryd.func18, Tryd.ntmps18
    go_wp2
    go_ret
    exact ⟨rfl, Chg.refl _ _⟩
  · have ep := fun W => run_eql_nil_ptr_ (P := Tryd.prog) W ⟨b, 0, none⟩ Tryd.underlying33
    go_enter Tryd.func18, Tryd.ntmps18
    go_wp2
    go_ret
    exact ⟨rfl, Chg.refl _ _⟩
theorem pused_dead (w : World) (p : Option Addr) (h : DeadP w p) : Calls Tryd.prog 6 #[.pointer p] w fun e w' => e = .returned (.tuple #[.int .i64 0, .int .i64 0]) ∧ Chg [] w w' := by
  have H := Lib.hid h
  clear h
  go_enter Tryd.func6, Tryd.ntmps6
  go_wp2_with fail
  refine (pmade_dead _ p H.out).mono ?_
  rintro r w1 ⟨rfl, hc⟩
  have C := Lib.hid hc
  clear hc
  go_wp2
  refine bodyPost_ret (v := .tuple #[.int .i64 0, .int .i64 0]) (by simp [results, Tryd.results6, go_sem]) rfl ?_
  exact ⟨rfl, C.out⟩
theorem pmost_dead (w : World) (p : Option Addr) (h : DeadP w p) : Calls Tryd.prog 10 #[.pointer p] w fun e w' => e = .returned (.int .i64 0) ∧ Chg [] w w' := by
  have H := Lib.hid h
  clear h
  go_enter Tryd.func10, Tryd.ntmps10
  go_wp2_with fail
  refine (pmade_dead _ p H.out).mono ?_
  rintro r w1 ⟨rfl, hc⟩
  have C := Lib.hid hc
  clear hc
  go_wp2
  go_ret
  exact ⟨rfl, C.out⟩
theorem pall_dead (w : World) (p : Option Addr) (h : DeadP w p) : Calls Tryd.prog 11 #[.pointer p] w fun e w' => e = .returned (.slice none 0 0) ∧ Chg [] w w' := by
  have H := Lib.hid h
  clear h
  go_enter Tryd.func11, Tryd.ntmps11
  go_wp2_with fail
  refine (pmade_dead _ p H.out).mono ?_
  rintro r w1 ⟨rfl, hc⟩
  have C := Lib.hid hc
  clear hc
  go_wp2
  go_ret
  exact ⟨rfl, C.out⟩
theorem pput_dead (w : World) (p : Option Addr) (h : DeadP w p) (nd sq : Int) (s : ByteArray) (k m : Int) (A : Option Addr) (n c : Nat) (B : Option Addr) (q d : Nat) : Calls Tryd.prog 8 #[.pointer p, .agg #[.int .i64 nd, .int .i64 sq, .string s, .int .i64 k, .int .i64 m, .slice A n c, .slice B q d]] w fun e w' => e = .returned (.int .i64 1) ∧ Chg [] w w' := by
  obtain ⟨w1, hw1, c1, b1⟩ := news1 w (.cells #[.int .i64 nd, .int .i64 sq, .string s, .int .i64 k, .int .i64 m, .slice A n c, .slice B q d] 29)
  have W1 := Lib.hid hw1
  have H := Lib.hid (h.chg c1)
  have C1 := Lib.hid c1
  clear h hw1 c1 b1
  go_enter Tryd.func8, Tryd.ntmps8
  go_wp2_with fail
  rw [← W1.out]
  refine (pmade_dead _ p H.out).mono ?_
  rintro r w2 ⟨rfl, hc⟩
  have C := Lib.hid (C1.out.trans hc)
  clear hc
  go_wp2
  go_ret
  exact ⟨rfl, C.out⟩
theorem pdrop_dead (w : World) (p : Option Addr) (h : DeadP w p) (nd sq : Int) : Calls Tryd.prog 9 #[.pointer p, .agg #[.int .i64 nd, .int .i64 sq]] w fun e w' => e = .returned (.int .i64 1) ∧ Chg [] w w' := by
  obtain ⟨w1, hw1, c1, b1⟩ := news1 w (.cells #[.int .i64 nd, .int .i64 sq] 23)
  have W1 := Lib.hid hw1
  have H := Lib.hid (h.chg c1)
  have C1 := Lib.hid c1
  clear h hw1 c1 b1
  go_enter Tryd.func9, Tryd.ntmps9
  go_wp2_with fail
  rw [← W1.out]
  refine (pmade_dead _ p H.out).mono ?_
  rintro r w2 ⟨rfl, hc⟩
  have C := Lib.hid (C1.out.trans hc)
  clear hc
  go_wp2
  go_ret
  exact ⟨rfl, C.out⟩
theorem pfirst_dead (w : World) (p : Option Addr) (h : DeadP w p) : Calls Tryd.prog 7 #[.pointer p] w fun e w' => e = .returned (.tuple #[.agg #[.int .i64 0, .int .i64 0, .string ⟨#[]⟩, .int .i64 0, .int .i64 0, .slice none 0 0, .slice none 0 0], .bool false]) ∧ Chg [] w w' := by
  obtain ⟨w1, hw1, c1, b1⟩ := news1 w (.cells #[.int .i64 0, .int .i64 0, .string ⟨#[]⟩, .int .i64 0, .int .i64 0, .slice none 0 0, .slice none 0 0] 29)
  have W1 := Lib.hid hw1
  have H := Lib.hid (h.chg c1)
  have C1 := Lib.hid c1
  have B1 := Lib.hid b1
  clear h hw1 c1 b1
  go_enter Tryd.func7, Tryd.ntmps7
  go_wp2_with fail
  rw [← W1.out]
  refine (pmade_dead _ p H.out).mono ?_
  rintro r w2 ⟨rfl, hc⟩
  have C := Lib.hid (C1.out.trans hc)
  have hb := hc.at_ B1.out (by simp)
  clear hc W1
  generalize hs : w.heap.size = z at *
  have z0 := cell_of hb 0
  have f0 := free_of hb 0
  have z1 := cell_of hb 1
  have f1 := free_of hb 1
  have z2 := cell_of hb 2
  have f2 := free_of hb 2
  have z3 := cell_of hb 3
  have f3 := free_of hb 3
  have z4 := cell_of hb 4
  have f4 := free_of hb 4
  have z5 := cell_of hb 5
  have f5 := free_of hb 5
  have z6 := cell_of hb 6
  have f6 := free_of hb 6
  simp only [List.getElem?_toArray, List.getElem?_cons_succ, List.getElem?_cons_zero] at z0 z1 z2 z3 z4 z5 z6
  have e0 := heap_setCell_same _ z 0 _ _ (.int .i64 0) hb
  have e1 := heap_setCell_same _ z 1 _ _ (.int .i64 0) e0
  have e2 := heap_setCell_same _ z 2 _ _ (.string ⟨#[]⟩) e1
  have e3 := heap_setCell_same _ z 3 _ _ (.int .i64 0) e2
  have e4 := heap_setCell_same _ z 4 _ _ (.int .i64 0) e3
  have e5 := heap_setCell_same _ z 5 _ _ (.slice none 0 0) e4
  have e6 := heap_setCell_same _ z 6 _ _ (.slice none 0 0) e5
  have HE : Hid ((((((((w2.setCell ⟨z, 0, none⟩ (.int .i64 0)).setCell ⟨z, 1, none⟩ (.int .i64 0)).setCell ⟨z, 2, none⟩ (.string ⟨#[]⟩)).setCell ⟨z, 3, none⟩ (.int .i64 0)).setCell ⟨z, 4, none⟩ (.int .i64 0)).setCell ⟨z, 5, none⟩ (.slice none 0 0)).setCell ⟨z, 6, none⟩ (.slice none 0 0)).heap[z]? = some (.cells #[.int .i64 0, .int .i64 0, .string ⟨#[]⟩, .int .i64 0, .int .i64 0, .slice none 0 0, .slice none 0 0] 29 (0, 0))) := Lib.hid (by simpa using e6)
  have CW := Lib.hid (Chg.put (Chg.put (Chg.put (Chg.put (Chg.put (Chg.put (Chg.put C.out (Nat.le_of_eq hs) 0 (.int .i64 0)) (Nat.le_of_eq hs) 1 (.int .i64 0)) (Nat.le_of_eq hs) 2 (.string ⟨#[]⟩)) (Nat.le_of_eq hs) 3 (.int .i64 0)) (Nat.le_of_eq hs) 4 (.int .i64 0)) (Nat.le_of_eq hs) 5 (.slice none 0 0)) (Nat.le_of_eq hs) 6 (.slice none 0 0))
  clear hb e0 e1 e2 e3 e4 e5 e6 B1
  go_wp2
  clear z0 z1 z2 z3 z4 z5 z6 f0 f1 f2 f3 f4 f5 f6
  generalize (((((((w2.setCell ⟨z, 0, none⟩ (.int .i64 0)).setCell ⟨z, 1, none⟩ (.int .i64 0)).setCell ⟨z, 2, none⟩ (.string ⟨#[]⟩)).setCell ⟨z, 3, none⟩ (.int .i64 0)).setCell ⟨z, 4, none⟩ (.int .i64 0)).setCell ⟨z, 5, none⟩ (.slice none 0 0)).setCell ⟨z, 6, none⟩ (.slice none 0 0)) = W at *
  have z0 := cell_of HE.out 0
  have z1 := cell_of HE.out 1
  have z2 := cell_of HE.out 2
  have z3 := cell_of HE.out 3
  have z4 := cell_of HE.out 4
  have z5 := cell_of HE.out 5
  have z6 := cell_of HE.out 6
  simp only [List.getElem?_toArray, List.getElem?_cons_succ, List.getElem?_cons_zero] at z0 z1 z2 z3 z4 z5 z6
  exact bodyPost_ret (v := .tuple #[.agg #[.int .i64 0, .int .i64 0, .string ⟨#[]⟩, .int .i64 0, .int .i64 0, .slice none 0 0, .slice none 0 0], .bool false]) (by simp [results, Tryd.results7, go_sem, z0, z1, z2, z3, z4, z5, z6]) rfl ⟨rfl, CW.out⟩
theorem klongeffect_any (w : World) (k m : Int) (A : Option Addr) (n c : Nat) :
    Calls Tryd.prog 12 #[.agg #[.int .i64 k, .int .i64 m, .slice A n c]] w fun e w' => e = .returned (.bool (decide (1200 < n))) ∧ Chg [] w w' := by
  obtain ⟨w1, hw1, c1, b1⟩ := news1 w (.cells #[.int .i64 k, .int .i64 m, .slice A n c] 26)
  have W1 := Lib.hid hw1
  have C1 := Lib.hid c1
  have k2 := cell_of b1 2
  simp only [List.getElem?_toArray, List.getElem?_cons_succ, List.getElem?_cons_zero] at k2
  clear hw1 c1 b1
  by_cases h : 1200 < n
  · have h2 : (1200 : Int) < (n : Int) := by omega
    rw [decide_eq_true h]
    go_enter Tryd.func12, Tryd.ntmps12
    go_upto_region 1 with fail
    rw [← W1.out]
    clear W1
    go_wp2
    go_ret
    exact ⟨rfl, C1.out⟩
  · have h2 : ¬ (1200 : Int) < (n : Int) := by omega
    rw [decide_eq_false h]
    go_enter Tryd.func12, Tryd.ntmps12
    go_upto_region 1 with fail
    rw [← W1.out]
    clear W1
    go_wp2
    go_ret
    exact ⟨rfl, C1.out⟩
/-- One event: is anything of it too long? -/
def longE (s n q : Nat) : Bool := decide (100 < s) || (decide (1200 < n) || decide (100 < q))
theorem klongevents_one (w : World) (g : Nat) (nd sq : Int) (s : ByteArray) (k m : Int) (A : Option Addr) (n c : Nat) (B : Option Addr) (q d : Nat) (hg : w.heap[g]? = some (.cells #[.int .i64 nd, .int .i64 sq, .string s, .int .i64 k, .int .i64 m, .slice A n c, .slice B q d] 29 (0, 0))) :
    Calls Tryd.prog 4 #[.slice (some ⟨g, 0, none⟩) 1 1, .int .i64 1] w fun e w' => e = .returned (.bool (longE s.size n q)) ∧ Chg [] w w' := by
  have k2 := cell_of hg 2
  have k3 := cell_of hg 3
  have k4 := cell_of hg 4
  have k5 := cell_of hg 5
  have k6 := cell_of hg 6
  simp only [List.getElem?_toArray, List.getElem?_cons_succ, List.getElem?_cons_zero] at k2 k3 k4 k5 k6
  have HG := Lib.hid hg
  clear hg
  by_cases h1 : 100 < s.size
  · have h2 : (100 : Int) < (s.size : Int) := by omega
    rw [show longE s.size n q = true by unfold longE; simp [h1]]
    go_enter Tryd.func4, Tryd.ntmps4
    go_wp2
    refine wp_loop_rounds 1 ?_
    rw [rounds_succ]
    go_wp2
    go_ret
    exact ⟨rfl, Chg.refl _ _⟩
  · have h2 : ¬ (100 : Int) < (s.size : Int) := by omega
    by_cases h3 : 1200 < n
    · rw [show longE s.size n q = true by unfold longE; simp [h1, h3]]
      go_enter Tryd.func4, Tryd.ntmps4
      go_wp2
      refine wp_loop_rounds 2 ?_
      rw [rounds_succ]
      go_wp2_with fail
      refine (klongeffect_any _ k m A n c).mono ?_
      rintro r w1 ⟨rfl, hc⟩
      rw [decide_eq_true h3]
      have C := Lib.hid hc
      have hb := hc.at_ HG.out (by simp)
      have k6 := cell_of hb 6
      simp only [List.getElem?_toArray, List.getElem?_cons_succ, List.getElem?_cons_zero] at k6
      clear hc hb k2 k3 k4 k5
      go_wp2
      go_ret
      exact ⟨rfl, C.out⟩
    by_cases h4 : 100 < q
    · rw [show longE s.size n q = true by unfold longE; simp [h1, h3, h4]]
      go_enter Tryd.func4, Tryd.ntmps4
      go_wp2
      refine wp_loop_rounds 2 ?_
      rw [rounds_succ]
      go_wp2_with fail
      refine (klongeffect_any _ k m A n c).mono ?_
      rintro r w1 ⟨rfl, hc⟩
      rw [decide_eq_false h3]
      have C := Lib.hid hc
      have hb := hc.at_ HG.out (by simp)
      have k6 := cell_of hb 6
      simp only [List.getElem?_toArray, List.getElem?_cons_succ, List.getElem?_cons_zero] at k6
      clear hc hb k2 k3 k4 k5
      have h5 : (100 : Int) < (q : Int) := by omega
      go_wp2
      go_ret
      exact ⟨rfl, C.out⟩
    · rw [show longE s.size n q = false by unfold longE; simp [h1, h3, h4]]
      go_enter Tryd.func4, Tryd.ntmps4
      go_wp2
      refine wp_loop_rounds 2 ?_
      rw [rounds_succ]
      go_wp2_with fail
      refine (klongeffect_any _ k m A n c).mono ?_
      rintro r w1 ⟨rfl, hc⟩
      rw [decide_eq_false h3]
      have C := Lib.hid hc
      have hb := hc.at_ HG.out (by simp)
      have k6 := cell_of hb 6
      simp only [List.getElem?_toArray, List.getElem?_cons_succ, List.getElem?_cons_zero] at k6
      clear hc hb k2 k3 k4 k5
      have h5 : ¬ (100 : Int) < (q : Int) := by omega
      go_wp2
      rw [rounds_succ]
      go_wp2
      go_ret
      exact ⟨rfl, C.out⟩
end Go.Proofs.YtjhnaiffjlnfhaaDoor
