/- What a box answers that is none, or was not made. -/
import Derived.Test.YtkjdfndbadbkkaaMem
import Derived.Deep.QuietTactic
import Derived.BigQuiet
import Derived.RegionTactic
import Derived.Deep.RegionHeld3
import Derived.Deep.Cut
namespace Go.Proofs.Ytkjdfndbadbkkaa
open Go.RowKit Go.Lib
set_option linter.unusedSimpArgs false
set_option linter.unusedVariables false


theorem run_eql_nil_ptr_ {P : Program} (w : World) {tp te : TypeId} (a : Addr) (hp : P.underlying tp = some (.pointer te)) :
    (binOp .eql tp (.pointer none) (.pointer (some a))).run P w = .ok (.bool false) w := by
  have h : ∀ d : Nat, (Op.equalIn (d + 1) tp (.pointer none) (.pointer (some a))).run P w = .ok false w := fun d => by
    simp [Op.equalIn, run_underlying hp]
  simp only [binOp]
  simp [Op.equal, Op.maxDepth, h 9999]
/-- No box, or one that New has not made. -/
def DeadB (w : World) (p : Option Addr) : Prop := p = none ∨ ∃ b, p = some ⟨b, 0, none⟩ ∧ w.cell? ⟨b, 0, none⟩ = some (.pointer none)
theorem DeadB.chg {w w' : World} {p : Option Addr} (h : DeadB w p) (hc : Chg [] w w') : DeadB w' p := by
  rcases h with h | ⟨b, h, hb⟩
  · exact .inl h
  · exact .inr ⟨b, h, hc.cell hb (by simp)⟩
theorem bmade_dead (w : World) (p : Option Addr) (h : DeadB w p) : Calls Try.prog 13 #[.pointer p] w fun e w' => e = .returned (.bool false) ∧ Chg [] w w' := by
  rcases h with rfl | ⟨b, rfl, hb⟩
  · go_enter Try.func13, Try.ntmps13
    go_wp2
    go_ret
    exact ⟨rfl, Chg.refl _ _⟩
  · have ep := fun W => run_eql_nil_ptr_ (P := Try.prog) W ⟨b, 0, none⟩ Try.underlying26
    go_enter Try.func13, Try.ntmps13
    go_wp2
    go_ret
    exact ⟨rfl, Chg.refl _ _⟩

theorem bused_dead (w : World) (p : Option Addr) (h : DeadB w p) : Calls Try.prog 8 #[.pointer p] w fun e w' => e = .returned (.int .i64 0) ∧ Chg [] w w' := by
  have H := Lib.hid h
  clear h
  go_enter Try.func8, Try.ntmps8
  go_wp2_with fail
  refine (bmade_dead _ p H.out).mono ?_
  rintro r w1 ⟨rfl, hc⟩
  have C := Lib.hid hc
  clear hc
  go_wp2
  go_ret
  exact ⟨rfl, C.out⟩

theorem bitem_dead (w : World) (p : Option Addr) (h : DeadB w p) : Calls Try.prog 7 #[.pointer p] w fun e w' => e = .returned (.int .i64 0) ∧ Chg [] w w' := by
  have H := Lib.hid h
  clear h
  go_enter Try.func7, Try.ntmps7
  go_wp2_with fail
  refine (bmade_dead _ p H.out).mono ?_
  rintro r w1 ⟨rfl, hc⟩
  have C := Lib.hid hc
  clear hc
  go_wp2
  go_ret
  exact ⟨rfl, C.out⟩

theorem bdrop_dead (w : World) (p : Option Addr) (h : DeadB w p) : Calls Try.prog 6 #[.pointer p] w fun e w' => e = .returned (.tuple #[]) ∧ Chg [] w w' := by
  have H := Lib.hid h
  clear h
  go_enter Try.func6, Try.ntmps6
  go_wp2_with fail
  refine (bmade_dead _ p H.out).mono ?_
  rintro r w1 ⟨rfl, hc⟩
  have C := Lib.hid hc
  clear hc
  go_wp2
  go_end0
  exact ⟨rfl, C.out⟩
theorem bput_dead (w : World) (p : Option Addr) (h : DeadB w p) (k i s a : Int) (A : Option Addr) (n c : Nat) : Calls Try.prog 5 #[.pointer p, .agg #[.int .i64 k, .int .i64 i, .int .i64 s, .int .i64 a, .slice A n c]] w fun e w' => e = .returned (.tuple #[.slice none 0 0, .int .i64 1]) ∧ Chg [] w w' := by
  obtain ⟨w1, hw1, c1, b1⟩ := news1 w (.cells #[.int .i64 k, .int .i64 i, .int .i64 s, .int .i64 a, .slice A n c] 24)
  have W1 := Lib.hid hw1
  have H := Lib.hid (h.chg c1)
  have C1 := Lib.hid c1
  clear h hw1 c1 b1
  go_enter Try.func5, Try.ntmps5
  go_wp2_with fail
  rw [← W1.out]
  refine (bmade_dead _ p H.out).mono ?_
  rintro r w2 ⟨rfl, hc⟩
  have C := Lib.hid (C1.out.trans hc)
  clear hc
  go_wp2
  go_ret2
  exact ⟨rfl, C.out⟩
end Go.Proofs.Ytkjdfndbadbkkaa
