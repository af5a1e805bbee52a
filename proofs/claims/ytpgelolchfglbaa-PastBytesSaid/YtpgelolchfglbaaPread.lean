/- The program's Read of a past. -/
import Derived.Test.YtpgelolchfglbaaPfour
import Derived.Deep.RegionHeld3
namespace Go.Proofs.Ytpgelolchfglbaa
open Go.RowKit Go.Lib
set_option linter.unusedSimpArgs false
set_option linter.unusedVariables false
/-- The span that lies in nine bytes from i on. -/
def spanAt (ys : List UInt8) (i : Nat) : Int × Int × Int := ((numB ((ys.drop i).take 1) : Int), (numB ((ys.drop (i + 1)).take 4) : Int), (numB ((ys.drop (i + 5)).take 4) : Int))
def spansR (ys : List UInt8) (k : Nat) : List (Int × Int × Int) := (List.range k).map fun i => spanAt ys (2 + 9 * i)
theorem spansR_succ (ys : List UInt8) (k : Nat) : spansR ys (k + 1) = spansR ys k ++ [spanAt ys (2 + 9 * k)] := by simp [spansR, List.range_succ]
theorem spansR_len (ys : List UInt8) (k : Nat) : (spansR ys k).length = k := by simp [spansR]
theorem Bs.part_ {w : World} {g o n : Nat} {xs : List UInt8} (h : Bs w (some ⟨g, o, none⟩) n xs) (q m : Nat) (hq : q + m ≤ n) : Bs w (some ⟨g, o + q, none⟩) m ((xs.drop q).take m) := by
  have hl := h.len
  refine ⟨by simp; omega, fun j v hj => ⟨_, rfl, ?_⟩⟩
  rw [List.getElem?_take] at hj
  split at hj
  · rw [List.getElem?_drop] at hj
    obtain ⟨a, e, hc⟩ := h.cells _ v hj
    cases e
    rw [add_lit] at hc ⊢
    rwa [Nat.add_assoc]
  · cases hj
end Go.Proofs.Ytpgelolchfglbaa
