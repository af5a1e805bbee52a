/- What is joined, and left: plain functions. No function of the program is named here. past.bounded, past.alone. past.push. past.push behind a span. A row of structs: one cell of one of them is stored. No program here. past.push onto the last span. -/
import Derived.Test.YtfdaclifapfmdaaGreatDoorZcad
import Derived.Test.YtfdaclifapfmdaaGreatDoorZcac
import Derived.Deep.Cut
import Derived.Deep.RegionHeld3
import Derived.Test.YtfdaclifapfmdaaGreatDoorZcaa
namespace Go.Proofs.YtfdaclifapfmdaaGreatDoor
section
set_option linter.unusedSimpArgs false
set_option linter.unusedVariables false
def kF (x y : Bool) : Bool := x && !y
/-- The errno, and the past that is told. -/
def boundP (l : List Sp) : Int × List Sp := if 4000 < l.length then (8, []) else (0, l)
def joinE (a b : List Sp) : Int × List Sp := if chkS a = 0 ∧ chkS b = 0 then boundP (tidyS (a ++ b)) else (2, [])
def withinE (a b : List Sp) : Bool := decide (chkS a = 0 ∧ chkS b = 0) && decide (b.foldl withoutP a = [])
theorem memb_iff {l : List Sp} {n s : Int} : memb l n s = true ↔ Mem l n s := by unfold memb; simp
theorem minus_eq {a b pre : List Sp} (ha : WfC a) (hb : WfC b) (h : SwInv kF a b [] [] pre) : pre.foldl pushP [] = b.foldl withoutP a := by
  obtain ⟨c, d⟩ := h.done (by rfl)
  obtain ⟨e, f⟩ := withouts_norm (b := b) hb.1.1 ha.1
  refine norm_ext c e (fun n s => ?_)
  rw [d n s, f n s]
  unfold kF
  rw [Bool.and_eq_true, memb_iff]
  simp [memb]
end
section
open Go.RowKit Go.Lib
set_option linter.unusedSimpArgs false
set_option linter.unusedVariables false
end
section
open Go.RowKit Go.Lib
set_option linter.unusedSimpArgs false
set_option linter.unusedVariables false


theorem rd_oneS {w : World} {g : Nat} {x : Int × Int × Int} (h : w.heap[g]? = some (.cells #[.int .i64 x.1, .int .i64 x.2.1, .int .i64 x.2.2] 95)) : RdK spanTy w (some ⟨g, 0, none⟩) 1 [x] :=
  ⟨rfl, fun j v hj => ⟨_, rfl, by rw [add_zero_lit, cell_of h j]; simpa [RowTy.flat, spanTy] using hj⟩⟩
end
section
open Go.RowKit Go.Lib
set_option linter.unusedSimpArgs false
set_option linter.unusedVariables false
end
section
set_option linter.unusedSimpArgs false
set_option linter.unusedVariables false
variable {α : Type} {R : RowTy α}
theorem flat_set (full : List α) (j i : Nat) (x x' : α) (v : Value) (hx : full[j]? = some x) (hi : i < R.k) (he : ∀ q, q < R.k → (R.enc x')[q]? = if q = i then some v else (R.enc x)[q]?) :
    (R.flat full).set (j * R.k + i) v = R.flat (full.set j x') := by
  have hj := (List.getElem?_eq_some_iff.1 hx).1
  have hb : j * R.k + i < full.length * R.k := by
    have : (j + 1) * R.k ≤ full.length * R.k := Nat.mul_le_mul_right _ hj
    rw [Nat.add_mul, Nat.one_mul] at this
    omega
  refine R.flat_ext _ _ (by rw [List.length_set, R.flat_len, List.length_set]) (fun q p y hy hp => ?_)
  rw [List.getElem?_set] at hy
  rw [List.getElem?_set, R.flat_len]
  by_cases e : j = q
  · subst e
    rw [if_pos rfl, if_pos hj] at hy
    cases hy
    rw [he p hp]
    by_cases e2 : p = i
    · subst e2
      rw [if_pos rfl, if_pos hb, if_pos rfl]
    · rw [if_neg (by omega), if_neg e2, R.flat_at full j p x hx hp]
  · rw [if_neg e] at hy
    rw [if_neg, R.flat_at full q p y hy hp]
    intro e3
    rcases Nat.lt_or_gt_of_ne e with h | h
    · have : (j + 1) * R.k ≤ q * R.k := Nat.mul_le_mul_right _ h
      rw [Nat.add_mul, Nat.one_mul] at this
      omega
    · have : (q + 1) * R.k ≤ j * R.k := Nat.mul_le_mul_right _ h
      rw [Nat.add_mul, Nat.one_mul] at this
      omega
theorem OwnK.setc {w : World} {g c : Nat} {xs : List α} (h : OwnK R w (some ⟨g, 0, none⟩) c xs) (j i : Nat) (x x' : α) (v : Value) (hx : xs[j]? = some x) (hi : i < R.k) (he : ∀ q, q < R.k → (R.enc x')[q]? = if q = i then some v else (R.enc x)[q]?) :
    OwnK R (w.setCell ⟨g, j * R.k + i, none⟩ v) (some ⟨g, 0, none⟩) c (xs.set j x') := by
  have hj := (List.getElem?_eq_some_iff.1 hx).1
  rcases h with ⟨h, _⟩ | ⟨g', full, e, hg, h1, h2, h3, h4⟩
  · cases h
  · cases e
    have hx' : full[j]? = some x := by
      rw [← h4, List.getElem?_take, if_pos hj] at hx
      exact hx
    refine OwnK.of (full := full.set j x') ?_ (by simpa using h3) h2 (by simpa using h1) ?_
    · have := heap_setCell_same w g (j * R.k + i) _ _ v hg
      rw [this, List.setIfInBounds_toArray, flat_set full j i x x' v hx' hi he]
    · rw [List.length_set, List.take_set, h4]
end
section
open Go.RowKit Go.Lib
set_option linter.unusedSimpArgs false
set_option linter.unusedVariables false


theorem spanSetTo (y : Int × Int × Int) (v : Int) : ∀ q, q < spanTy.k → (spanTy.enc (y.1, y.2.1, v))[q]? = if q = 2 then some (.int .i64 v) else (spanTy.enc y)[q]?
  | 0, _ => rfl
  | 1, _ => rfl
  | 2, _ => rfl
  | q + 3, h => absurd h (by have : spanTy.k = 3 := rfl; omega)
theorem own_free {w : World} {g c : Nat} {xs : List (Int × Int × Int)} (h : OwnK spanTy w (some ⟨g, 0, none⟩) c xs) (j : Nat) : w.frozen? ⟨g, j, none⟩ = false := by
  rcases h with ⟨h, _⟩ | ⟨g', full, e, hg, _⟩
  · cases h
  · cases e; exact free_of hg j
end
end Go.Proofs.YtfdaclifapfmdaaGreatDoor
