/- The reader's number: what it tells, and what is wrong. -/
import Derived.Test.YtphchggabcbfkaaDoorRd
import Derived.ScopeJumps
namespace Go.Proofs.YtphchggabcbfkaaDoor
open Go.RowKit

/-- A scope whose jumps all go forward to one label: what stands there is walked from each of them. -/
theorem wp_scope_fwd {P : Program} {a : Act} {w : World} {Q : Exit → Act → World → Prop} {c rest : Code} (l : Nat) (hf : findLabel c l = some rest)
    (first : c.wp P (Exit.jump l (fun a' w' => rest.wp P (Exit.jump l (fun _ _ => False) Q) a' w') Q) a w) : (Code.scope c).wp P Q a w := by
  refine wp_scope_jumps l _ (fun _ _ => 0) hf first ?_
  intro a w h b k cs
  obtain ⟨e, a', w', hq, harr⟩ := h b k cs
  refine ⟨e, a', w', ?_, harr⟩
  cases e with
  | goto l' => exact absurd hq.2 (by simp)
  | _ => exact hq

/-- The number of bytes, the highest first. -/
def val (l : List UInt8) : Nat := l.foldl (fun n x => n * 256 + x.toNat) 0

theorem OwnB.at_ {w : World} {A : Option Addr} {c g : Nat} {xs : List UInt8} (h : OwnB w A c xs) {b p : Nat} (h3 : A = none ∧ g = b ∨ A = some ⟨g, 0, none⟩) {x : UInt8} (hx : xs[p]? = some x) : A = some ⟨g, 0, none⟩ ∧ w.cell? ⟨g, p, none⟩ = some (.int .u8 (x.toNat : Int)) := by
  obtain ⟨a, e, hc⟩ := h.reads.cells p x hx
  rcases h3 with ⟨h3, _⟩ | h3
  · rw [h3] at e; cases e
  · rw [h3] at e; cases e
    rw [add_zero_lit] at hc
    exact ⟨h3, hc⟩

end Go.Proofs.YtphchggabcbfkaaDoor
