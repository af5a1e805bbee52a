/- bytes.Clone, the kit's copy, and the writer's Out; the writer's calls whatever came ahead. -/
import Derived.Test.YtgafkphhnlifiaaWr3
namespace Go.Proofs.Ytgafkphhnlifiaa
open Go.RowKit

/-- Bytes in memory of their own, which was not there at first. -/
def Fresh (w w' : World) (A : Option Addr) (c : Nat) (ys : List UInt8) : Prop := OwnB w' A c ys ∧ (∀ a, A = some a → w.heap.size ≤ a.block) ∧ Chg [] w w'

theorem OwnB.empty (w : World) : OwnB (w.alloc (.cells #[] 5)) (some ⟨w.heap.size, 0, none⟩) 0 [] := .of (full := []) (heap_alloc_new w _) (by simp) (by simp [maxLen]) rfl (by simp)

theorem fresh_app {w w1 : World} {A' : Option Addr} {c' : Nat} {ys : List UInt8} (own1 : OwnB w1 A' c' ([] ++ ys)) (hg1 : (w.alloc (.cells #[] 5)).grownBy w1 (Option.map (·.block) (some (⟨w.heap.size, 0, none⟩ : Addr))))
    (hA1 : A' = some ⟨w.heap.size, 0, none⟩ ∨ A' = some ⟨(w.alloc (.cells #[] 5)).heap.size, 0, none⟩) : Fresh w w1 A' c' ys := by
  refine ⟨own1, ?_, ((Chg.refl [] w).alloc _).grown hg1 (by simp)⟩
  rintro a rfl
  rcases hA1 with h | h <;> cases h <;> simp

theorem wNum_len {xs : List UInt8} {e x : Int} (h : xs.length ≤ 1048576) : (wNum xs e x).1.length ≤ 1048576 := by
  unfold wNum
  split
  · exact h
  · split
    · exact h
    · split
      · exact h
      · simp [enc_len]; omega
theorem wRaw_len {xs ys : List UInt8} {e : Int} (h : xs.length ≤ 1048576) : (wRaw xs e ys).1.length ≤ 1048576 := by
  unfold wRaw
  split
  · exact h
  · split
    · exact h
    · simp [enc_len]; omega

/-- What Out tells: the bytes, or the error alone. -/
def outs (xs : List UInt8) (e : Int) : List UInt8 := if e = 0 then xs else []
end Go.Proofs.Ytgafkphhnlifiaa
