/- A row that the library has sorted, or cleared from some place on. -/
import Derived.Test.YtibdeiahmgkbhaaDoorRowK
import Derived.Shelf.SlSortCmp.NoneTotal
import Derived.Lib.SlicesCompact
import Derived.Lib.SliceRun
namespace Go.Proofs.YtibdeiahmgkbhaaDoor
open Go.RowKit Go.Sort
set_option linter.unusedSimpArgs false
set_option linter.unusedVariables false
section
variable {α : Type} [Inhabited α] {R : RowTy α}

theorem flatK_flat (d : Array α) : (flatK R.enc R.k d).toList = R.flat d.toList := by
  refine R.flat_ext _ _ (by simp) ?_
  intro q i x hx hi
  rw [Array.getElem?_toList] at hx ⊢
  have hq : q < d.size := (Array.getElem?_eq_some_iff.1 hx).1
  have hlt : q * R.k + i < d.size * R.k := by
    have := Nat.mul_le_mul_right R.k (show q + 1 ≤ d.size by omega)
    rw [Nat.succ_mul] at this
    omega
  have e := get_flatK R.enc R.k d (q * R.k + i) hlt
  have h1 : (q * R.k + i) / R.k = q := by
    rw [Nat.add_comm, Nat.add_mul_div_right _ _ R.kpos, Nat.div_eq_of_lt hi, Nat.zero_add]
  have h2 : (q * R.k + i) % R.k = i := by rw [Nat.add_comm, Nat.add_mul_mod_self_right, Nat.mod_eq_of_lt hi]
  rw [h1, h2] at e
  have hd : d[q]! = x := by
    rw [getElem!_pos d q hq]
    rw [Array.getElem?_eq_getElem hq] at hx
    exact Option.some.inj hx
  rw [hd] at e
  have hs : q * R.k + i < (flatK R.enc R.k d).size := by simpa using hlt
  rw [getElem!_pos (flatK R.enc R.k d) _ hs] at e
  have hi2 : i < (R.enc x).length := by rw [R.klen]; exact hi
  rw [getElem!_pos (R.enc x) _ hi2] at e
  rw [Array.getElem?_eq_getElem hs, List.getElem?_eq_getElem hi2, e]
theorem OwnK.holds {w : World} {g c : Nat} {xs : List α} (h : OwnK R w (some ⟨g, 0, none⟩) c xs) : HoldsK R.enc R.k w g 0 xs.toArray := by
  rcases h with ⟨h, _⟩ | ⟨g', full, h, hg, hl, _, hn, ht⟩
  · cases h
  · cases h
    intro j hj
    refine ⟨?_, free_of hg _⟩
    rw [Nat.zero_add, cell_of hg]
    have hs : j < (flatK R.enc R.k xs.toArray).size := hj
    rw [getElem!_pos (flatK R.enc R.k xs.toArray) _ hs]
    have e := flatK_flat (R := R) xs.toArray
    simp only at e
    have e2 : (flatK R.enc R.k xs.toArray)[j]? = (R.flat xs)[j]? := by rw [← Array.getElem?_toList, e]
    rw [Array.getElem?_eq_getElem hs] at e2
    have e3 : (R.flat full)[j]? = (R.flat xs)[j]? := by
      have hj2 : j < xs.length * R.k := by simpa using hj
      conv => rhs; rw [← ht, R.flat_take, List.getElem?_take, if_pos hj2]
    show (R.flat full).toArray[j]? = some (id _)
    rw [List.getElem?_toArray, e3, ← e2]
    rfl
theorem putCells_flat (xs ys full : List α) (hl : ys.length = xs.length) (hf : full.take xs.length = xs) (hn : xs.length ≤ full.length) :
    (putCells id 0 (flatK R.enc R.k ys.toArray) (R.flat full).toArray) = (R.flat (ys ++ full.drop xs.length)).toArray := by
  apply Array.toList_inj.1
  apply List.ext_getElem?
  intro p
  have hsz : (flatK R.enc R.k ys.toArray).size = xs.length * R.k := by simp [hl]
  rw [show (R.flat (ys ++ full.drop xs.length)).toArray.toList = R.flat (ys ++ full.drop xs.length) by simp, R.flat_app, R.flat_drop]
  rw [Array.getElem?_toList]
  unfold putCells
  rw [Array.getElem?_mapIdx, List.getElem?_toArray]
  by_cases hp : p < xs.length * R.k
  · have hs : p < (flatK R.enc R.k ys.toArray).size := by omega
    have hp2 : p < (R.flat full).length := by rw [R.flat_len]; exact Nat.lt_of_lt_of_le hp (Nat.mul_le_mul_right _ hn)
    rw [List.getElem?_append_left (by rw [R.flat_len, hl]; exact hp), List.getElem?_eq_getElem hp2]
    simp only [Option.map_some, Nat.zero_le, true_and, Nat.zero_add]
    rw [if_pos hs, Nat.sub_zero, getElem!_pos (flatK R.enc R.k ys.toArray) _ hs]
    have e := flatK_flat (R := R) ys.toArray
    have e2 : (flatK R.enc R.k ys.toArray)[p]? = (R.flat ys)[p]? := by rw [← Array.getElem?_toList, e]
    rw [← e2, Array.getElem?_eq_getElem hs]
    rfl
  · rw [List.getElem?_append_right (by rw [R.flat_len, hl]; omega), R.flat_len, hl, List.getElem?_drop, show xs.length * R.k + (p - xs.length * R.k) = p by omega]
    cases (R.flat full)[p]? with
    | none => rfl
    | some v =>
      simp only [Option.map_some]
      rw [if_neg (by rw [hsz]; omega)]
theorem OwnK.sorted {w : World} {g c : Nat} {xs ys : List α} (h : OwnK R w (some ⟨g, 0, none⟩) c xs) (hl : ys.length = xs.length) (n : Nat) (os : Array Obj) :
    OwnK R (sortWorldK R.enc R.k w g 0 n ys.toArray os) (some ⟨g, 0, none⟩) c ys ∧ Chg [g] w (sortWorldK R.enc R.k w g 0 n ys.toArray os) := by
  rcases h with ⟨h, _⟩ | ⟨g', full, h, hg, hfl, hm, hn, ht⟩
  · cases h
  · cases h
    have hsz : (sortWorldK R.enc R.k w g 0 n ys.toArray os).heap = (w.heap.modify g (onCells (putCells id 0 (flatK R.enc R.k ys.toArray)))) ++ os := rfl
    have hgl := lt_of_heap hg
    refine ⟨.inr ⟨g, ys ++ full.drop xs.length, rfl, ?_, by simp; omega, hm, by omega, ?_⟩, ⟨rfl, rfl, rfl, by rw [hsz]; simp, fun i hi hne => ?_⟩⟩
    · rw [hsz, Array.getElem?_append_left (by simpa using hgl), Array.getElem?_modify, if_pos rfl, hg]
      simp only [Option.map_some, onCells]
      rw [putCells_flat xs ys full hl ht (by omega)]
    · exact List.take_left
    · rw [hsz, Array.getElem?_append_left (by simpa using hi), Array.getElem?_modify, if_neg (by simp at hne; exact fun h => hne h.symm)]
end
end Go.Proofs.YtibdeiahmgkbhaaDoor
