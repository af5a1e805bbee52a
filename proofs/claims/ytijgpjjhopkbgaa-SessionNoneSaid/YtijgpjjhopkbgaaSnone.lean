/- What a session answers that is none, or was not made. -/
import Derived.Test.YtijgpjjhopkbgaaMem
import Derived.Deep.QuietTactic
import Derived.BigQuiet
import Derived.RegionTactic
import Derived.Deep.RegionHeld3
namespace Go.Proofs.Ytijgpjjhopkbgaa
open Go.RowKit Go.Lib
set_option linter.unusedSimpArgs false
set_option linter.unusedVariables false

theorem run_eql_nil_ptr_ {P : Program} (w : World) {tp te : TypeId} (a : Addr) (hp : P.underlying tp = some (.pointer te)) :
    (binOp .eql tp (.pointer none) (.pointer (some a))).run P w = .ok (.bool false) w := by
  have h : ∀ d : Nat, (Op.equalIn (d + 1) tp (.pointer none) (.pointer (some a))).run P w = .ok false w := fun d => by
    simp [Op.equalIn, run_underlying hp]
  simp only [binOp]
  simp [Op.equal, Op.maxDepth, h 9999]
/-- No session, or one that New has not made. -/
def DeadS (w : World) (p : Option Addr) : Prop := p = none ∨ ∃ b, p = some ⟨b, 0, none⟩ ∧ w.cell? ⟨b, 0, none⟩ = some (.pointer none)
theorem DeadS.chg {w w' : World} {p : Option Addr} (h : DeadS w p) (hc : Chg [] w w') : DeadS w' p := by
  rcases h with h | ⟨b, h, hb⟩
  · exact .inl h
  · exact .inr ⟨b, h, hc.cell hb (by simp)⟩
theorem made_dead (w : World) (p : Option Addr) (h : DeadS w p) : Calls Try.prog 17 #[.pointer p] w fun e w' => e = .returned (.bool false) ∧ Chg [] w w' := by
  rcases h with rfl | ⟨b, rfl, hb⟩
  · go_enter Try.func17, Try.ntmps17
    go_wp2
    go_ret
    exact ⟨rfl, Chg.refl _ _⟩
  · have ep := fun W => run_eql_nil_ptr_ (P := Try.prog) W ⟨b, 0, none⟩ Try.underlying30
    go_enter Try.func17, Try.ntmps17
    go_wp2
    go_ret
    exact ⟨rfl, Chg.refl _ _⟩
theorem peer_dead (w : World) (p : Option Addr) (h : DeadS w p) : Calls Try.prog 11 #[.pointer p] w fun e w' => e = .returned (.int .i64 0) ∧ Chg [] w w' := by
  have H := Lib.hid h
  clear h
  go_enter Try.func11, Try.ntmps11
  go_wp2_with fail
  refine (made_dead _ p H.out).mono ?_
  rintro r w1 ⟨rfl, hc⟩
  have C := Lib.hid hc
  clear hc
  go_wp2
  go_ret
  exact ⟨rfl, C.out⟩
theorem waiting_dead (w : World) (p : Option Addr) (h : DeadS w p) : Calls Try.prog 12 #[.pointer p] w fun e w' => e = .returned (.int .i64 0) ∧ Chg [] w w' := by
  have H := Lib.hid h
  clear h
  go_enter Try.func12, Try.ntmps12
  go_wp2_with fail
  refine (made_dead _ p H.out).mono ?_
  rintro r w1 ⟨rfl, hc⟩
  have C := Lib.hid hc
  clear hc
  go_wp2
  go_ret
  exact ⟨rfl, C.out⟩
theorem turns_dead (w : World) (p : Option Addr) (h : DeadS w p) : Calls Try.prog 13 #[.pointer p] w fun e w' => e = .returned (.int .i64 0) ∧ Chg [] w w' := by
  have H := Lib.hid h
  clear h
  go_enter Try.func13, Try.ntmps13
  go_wp2_with fail
  refine (made_dead _ p H.out).mono ?_
  rintro r w1 ⟨rfl, hc⟩
  have C := Lib.hid hc
  clear hc
  go_wp2
  go_ret
  exact ⟨rfl, C.out⟩
theorem take_dead (w : World) (p : Option Addr) (h : DeadS w p) : Calls Try.prog 10 #[.pointer p] w fun e w' => e = .returned (.slice none 0 0) ∧ Chg [] w w' := by
  have H := Lib.hid h
  clear h
  go_enter Try.func10, Try.ntmps10
  go_wp2_with fail
  refine (made_dead _ p H.out).mono ?_
  rintro r w1 ⟨rfl, hc⟩
  have C := Lib.hid hc
  clear hc
  go_wp2
  go_ret
  exact ⟨rfl, C.out⟩
theorem out_dead (w : World) (p : Option Addr) (h : DeadS w p) : Calls Try.prog 9 #[.pointer p] w fun e w' => e = .returned (.slice none 0 0) ∧ Chg [] w w' := by
  have H := Lib.hid h
  clear h
  go_enter Try.func9, Try.ntmps9
  go_wp2_with fail
  refine (made_dead _ p H.out).mono ?_
  rintro r w1 ⟨rfl, hc⟩
  have C := Lib.hid hc
  clear hc
  go_wp2
  go_ret
  exact ⟨rfl, C.out⟩
theorem send_dead (w : World) (p : Option Addr) (h : DeadS w p) (A : Option Addr) (n c : Nat) : Calls Try.prog 8 #[.pointer p, .slice A n c] w fun e w' => e = .returned (.int .i64 1) ∧ Chg [] w w' := by
  have H := Lib.hid h
  clear h
  go_enter Try.func8, Try.ntmps8
  go_wp2_with fail
  refine (made_dead _ p H.out).mono ?_
  rintro r w1 ⟨rfl, hc⟩
  have C := Lib.hid hc
  clear hc
  go_wp2
  go_ret
  exact ⟨rfl, C.out⟩
theorem tick_dead (w : World) (p : Option Addr) (h : DeadS w p) : Calls Try.prog 6 #[.pointer p] w fun e w' => e = .returned (.tuple #[]) ∧ Chg [] w w' := by
  have H := Lib.hid h
  clear h
  go_enter Try.func6, Try.ntmps6
  go_wp2_with fail
  refine (made_dead _ p H.out).mono ?_
  rintro r w1 ⟨rfl, hc⟩
  have C := Lib.hid hc
  clear hc
  go_wp2
  refine bodyPost_ret (results_none rfl _ _ _) rfl ?_
  exact ⟨rfl, C.out⟩
theorem receive_dead (w : World) (p : Option Addr) (h : DeadS w p) (f t m a : Int) (A : Option Addr) (n c : Nat) :
    Calls Try.prog 7 #[.pointer p, .agg #[.int .i64 f, .int .i64 t, .int .i64 m, .int .i64 a, .slice A n c]] w fun e w' => e = .returned (.tuple #[]) ∧ Chg [] w w' := by
  obtain ⟨w1, hw1, c1, b1⟩ := news1 w (.cells #[.int .i64 f, .int .i64 t, .int .i64 m, .int .i64 a, .slice A n c] 24)
  have W1 := Lib.hid hw1
  have H := Lib.hid (h.chg c1)
  have C1 := Lib.hid c1
  clear h hw1 c1 b1
  go_enter Try.func7, Try.ntmps7
  go_wp2_with fail
  rw [← W1.out]
  refine (made_dead _ p H.out).mono ?_
  rintro r w2 ⟨rfl, hc⟩
  have C := Lib.hid (C1.out.trans hc)
  clear hc
  go_wp2
  refine bodyPost_ret (results_none rfl _ _ _) rfl ?_
  exact ⟨rfl, C.out⟩
/-- One act: is its body too long? -/
theorem long_one (w : World) (g : Nat) (k f t m a : Int) (A : Option Addr) (n c : Nat) (hg : w.heap[g]? = some (.cells #[.int .i64 k, .int .i64 f, .int .i64 t, .int .i64 m, .int .i64 a, .slice A n c] 26 (0, 0))) (hn : n ≤ 140737488351232) :
    Calls Try.prog 4 #[.slice (some ⟨g, 0, none⟩) 1 1] w fun e w' => e = .returned (.bool (decide (500 < n))) ∧ Chg [] w w' := by
  have k5 := cell_of hg 5
  simp only [List.getElem?_toArray, List.getElem?_cons_succ, List.getElem?_cons_zero] at k5
  by_cases h : 500 < n
  · have h2 : (500 : Int) < (n : Int) := by omega
    rw [decide_eq_true h]
    go_enter Try.func4, Try.ntmps4
    go_wp2
    refine wp_loop_rounds 1 ?_
    rw [rounds_succ]
    go_wp2
    go_ret
    exact ⟨rfl, Chg.refl _ _⟩
  · have h2 : ¬ (500 : Int) < (n : Int) := by omega
    rw [decide_eq_false h]
    go_enter Try.func4, Try.ntmps4
    go_wp2
    refine wp_loop_rounds 2 ?_
    rw [rounds_succ]
    go_wp2
    rw [rounds_succ]
    go_wp2
    go_ret
    exact ⟨rfl, Chg.refl _ _⟩
end Go.Proofs.Ytijgpjjhopkbgaa
