/- What the laws of past have in common. -/
import Derived.Test.YtgafkphhnlifiaaSpans
import Derived.Test.YtgafkphhnlifiaaKit
import Derived.Test.YtgafkphhnlifiaaPaawake
namespace Go.Proofs.Ytgafkphhnlifiaa
section
open Go.RowKit Go.Lib
set_option linter.unusedSimpArgs false
set_option linter.unusedVariables false



theorem palong_any (w : World) (A : Option Addr) (n c : Nat) : Calls Try.prog 7 #[.slice A n c, .slice none 0 0, .slice none 0 0] w fun e w' => e = .returned (.bool (decide (200 < n))) ∧ Chg [] w w' := by
  by_cases h : 200 < n
  · have h2 : (200 : Int) < (n : Int) := by omega
    rw [decide_eq_true h]
    go_enter Try.func7, Try.ntmps7
    go_wp2
    go_ret
    exact ⟨rfl, Chg.refl _ _⟩
  · have h2 : ¬ (200 : Int) < (n : Int) := by omega
    rw [decide_eq_false h]
    go_enter Try.func7, Try.ntmps7
    go_wp2
    go_ret
    exact ⟨rfl, Chg.refl _ _⟩
/-- What is written over is new since w1. -/
theorem over_since {w1 w6 w7 : World} {A : Option Addr} (hF : ∀ a, A = some a → w1.heap.size ≤ a.block) (h7 : ∀ S : List Nat, (∀ a, A = some a → a.block ∈ S) → Chg S w6 w7) : ∃ S : List Nat, (∀ i ∈ S, w1.heap.size ≤ i) ∧ Chg S w6 w7 := by
  rcases A with _ | a
  · exact ⟨[], by simp, h7 [] (by simp)⟩
  · exact ⟨[a.block], by simpa using hF a rfl, h7 [a.block] (by rintro b ⟨⟩; simp)⟩
theorem Chg.over {w w1 w6 w7 : World} {S : List Nat} (h : Chg [] w w6) (h1 : Chg [] w w1) (hS : ∀ i ∈ S, w1.heap.size ≤ i) (h7 : Chg S w6 w7) : Chg [] w w7 :=
  h.trans' h7 fun i hi => .inr (Nat.le_trans h1.size (hS i hi))
theorem OwnK.lt_ {α : Type} {R : RowTy α} {w : World} {A : Option Addr} {c : Nat} {xs : List α} (h : OwnK R w A c xs) : ∀ a, A = some a → a.block < w.heap.size := by
  rintro a rfl
  rcases h with ⟨h1, _⟩ | ⟨g, full, h1, hg, _⟩
  · cases h1
  · cases h1; exact lt_of_heap hg
theorem over_only {w6 w7 : World} {A : Option Addr} (h7 : ∀ S : List Nat, (∀ a, A = some a → a.block ∈ S) → Chg S w6 w7) : ∃ S : List Nat, (∀ i ∈ S, ∃ a, A = some a ∧ a.block = i) ∧ Chg S w6 w7 := by
  rcases A with _ | a
  · exact ⟨[], by simp, h7 [] (by simp)⟩
  · exact ⟨[a.block], by simp, h7 [a.block] (by rintro b ⟨⟩; simp)⟩
end
end Go.Proofs.Ytgafkphhnlifiaa
