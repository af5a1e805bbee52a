/- PastDots. The document's Join. The document's Minus. The document's Within. PastSets. PastKnown: the run on marks, reckoned by the kernel. -/
import Derived.Test.YtgafkphhnlifiaaZphj
import Derived.Test.YtgafkphhnlifiaaZphg
import Derived.Test.YtgafkphhnlifiaaZphi
import Derived.Test.YtgafkphhnlifiaaZphn
import Derived.Test.YtgafkphhnlifiaaZphh
import Derived.Deep.Cut
import Derived.Test.YtgafkphhnlifiaaZphf
namespace Go.Proofs.Ytgafkphhnlifiaa
section
open Go.RowKit Go.Lib
set_option linter.unusedSimpArgs false
set_option linter.unusedVariables false
end
section
open Go.RowKit Go.Lib
set_option linter.unusedSimpArgs false
set_option linter.unusedVariables false
end
section
open Go.RowKit Go.Lib
set_option linter.unusedSimpArgs false
set_option linter.unusedVariables false
end
section
open Go.RowKit Go.Lib
set_option linter.unusedSimpArgs false
set_option linter.unusedVariables false
end
section
open Go.RowKit Go.Lib
set_option linter.unusedSimpArgs false
set_option linter.unusedVariables false


theorem along_any (w : World) (A B D : Option Addr) (n c m d k e : Nat) : Calls Try.prog 7 #[.slice A n c, .slice B m d, .slice D k e] w fun e w' => e = .returned (.bool (decide (200 < n ∨ 200 < m ∨ 200 < k))) ∧ Chg [] w w' := by
  by_cases h : 200 < n
  · have h2 : (200 : Int) < (n : Int) := by omega
    rw [decide_eq_true (by omega)]
    go_enter Try.func7, Try.ntmps7
    go_wp2
    go_ret
    exact ⟨rfl, Chg.refl _ _⟩
  have h2 : ¬ (200 : Int) < (n : Int) := by omega
  by_cases h3 : 200 < m
  · have h4 : (200 : Int) < (m : Int) := by omega
    rw [decide_eq_true (by omega)]
    go_enter Try.func7, Try.ntmps7
    go_wp2
    go_ret
    exact ⟨rfl, Chg.refl _ _⟩
  have h4 : ¬ (200 : Int) < (m : Int) := by omega
  by_cases h5 : 200 < k
  · have h6 : (200 : Int) < (k : Int) := by omega
    rw [decide_eq_true (by omega)]
    go_enter Try.func7, Try.ntmps7
    go_wp2
    go_ret
    exact ⟨rfl, Chg.refl _ _⟩
  · have h6 : ¬ (200 : Int) < (k : Int) := by omega
    rw [decide_eq_false (by omega)]
    go_enter Try.func7, Try.ntmps7
    go_wp2
    go_ret
    exact ⟨rfl, Chg.refl _ _⟩
end
section
open Go.RowKit
theorem pastKnown_run (W : World) : Calls Try.prog 32 #[] W fun e w' => e = .returned (.bool true) ∧ Chg [] W w' :=
  Ev.closed_call (X := []) (g := 0) (n := 100000) (by kernel_rfl) (Ev.no_ext _) (by kernel_rfl) (by kernel_rfl) W
end
end Go.Proofs.Ytgafkphhnlifiaa
