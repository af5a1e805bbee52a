/- Rows of bools; as arguments. -/
import Derived.Test.YtnpilljjkfjjiaaMsgargs
namespace Go.Proofs.Ytnpilljjkfjjiaa
open Go.RowKit Go.WideShapes Go.ChangeShapes Go.Deep
set_option linter.unusedSimpArgs false
set_option linter.unusedVariables false

def boolTy : RowTy Bool where
  enc := fun x => [.bool x]
  k := 1
  T := 4
  TS := 35
  z := false
  zv := .bool false
  bytes := 1
  klen := fun _ => rfl
  one := by intro x v hv; simp at hv; rcases hv with rfl <;> rfl
  zc := rfl
  kpos := by decide
  bpos := by decide
  under := by kernel_rfl
  info := by kernel_rfl
theorem boolCells {w : World} {g o n j : Nat} {xs : List Bool} (h : RdK boolTy w (some ⟨g, o, none⟩) n xs) {x : Bool} (hx : xs[j]? = some x) : w.cell? ⟨g, o + j, none⟩ = some (.bool x) := by
  have := h.at_ j 0 x _ hx rfl
  rwa [show boolTy.k = 1 from rfl, Nat.mul_one, Nat.add_zero] at this

section
variable {H : Type} {enc : TypeId × Value → H} {w : World} {base : Nat} {spare : Nat → Bool} {held : Bool}
theorem open_bools {n : Nat} {cs : List Value} {y : DataW H × List MemPlace} (h : DataW.trod enc Try.prog w base spare held n 35 cs = some y) (hz : ∀ k ∈ y.1.weights Try.prog 35, k ≤ reachBytes) :
    ∃ A m d zs, cs = [.slice A m d] ∧ RdK boolTy w A m zs ∧ m * 1 ≤ 140737488351232 ∧ m ≤ d := by
  rcases open_slice Try.underlying35 h with ⟨rfl, _⟩ | ⟨a, len, cap, m, k, D, Pl, rfl, _, hl, hm, hmm, rfl, hi⟩
  · exact ⟨none, 0, 0, [], rfl, RdK.nil _ _, by decide, by decide⟩
  · have hlm : len ≤ m := by rw [hmm]; split <;> omega
    obtain ⟨hw, _⟩ := weights_slice Try.underlying35 hz
    rw [show Try.prog.bytesOf 4 = 1 by kernel_rfl] at hw
    simp [reachBytes] at hw
    have hC : Try.prog.cellsOf 4 = 1 := by kernel_rfl
    obtain ⟨l, hll, hat⟩ := list_of (Q := fun i (x : Bool) => w.cell? (a.add i) = some (.bool x)) len (fun i hilt => by
      obtain ⟨cs', hc, ht⟩ := hi i (by omega)
      rw [hC] at hc
      obtain ⟨_, hcl, hat⟩ := World.cells?_some hc
      have hcs : ∃ v, cs' = [v] := by
        match cs', hcl with
        | [v], _ => exact ⟨v, rfl⟩
      obtain ⟨v, rfl⟩ := hcs
      obtain ⟨s, e, _⟩ := DataW.trod_bool Try.underlying4 ht
      have g0 := hat 0 (by omega)
      have e := List.singleton_inj.1 e
      subst e
      rw [add_add, Nat.mul_one, Nat.add_zero] at g0
      exact ⟨s, g0⟩)
    refine ⟨some a, len, cap, l, rfl, ⟨hll, fun j v hj => ⟨a, rfl, ?_⟩⟩, by omega, hl⟩
    have hj2 := (List.getElem?_eq_some_iff.1 hj).1
    rw [boolTy.flat_len] at hj2
    have hk : boolTy.k = 1 := rfl
    rw [hk, Nat.mul_one] at hj2
    have e := boolTy.flat_at l j 0 _ (List.getElem?_eq_getElem hj2) (by decide)
    rw [hk, Nat.mul_one, Nat.add_zero, hj] at e
    rw [hat j _ (List.getElem?_eq_getElem hj2)]
    exact e.symm
end
end Go.Proofs.Ytnpilljjkfjjiaa
