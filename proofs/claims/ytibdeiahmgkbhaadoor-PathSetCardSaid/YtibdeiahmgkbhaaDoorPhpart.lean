/- path.isPart: which texts are parts. -/
import Derived.Test.YtibdeiahmgkbhaaDoorPhpure
import Derived.Test.YtibdeiahmgkbhaaDoorTextk
import Derived.Test.YtibdeiahmgkbhaaDoorShelf
import Derived.Shelf.GgClosure.StringsRunes
import Derived.Deep.QuietTactic
import Derived.BigQuiet
namespace Go.Proofs.YtibdeiahmgkbhaaDoor
open Go.RowKit
set_option linter.unusedSimpArgs false
set_option linter.unusedVariables false
set_option maxHeartbeats 1000000 in
theorem isForeign_any (w : World) (x : Nat) (hx : x ≤ 1114111) :
    Calls Tryd.prog 52 #[.int .i32 (x : Int)] w fun e w' => e = .returned (.bool (foreignR x)) ∧ ∃ q, w' = w.drewN q := by
  go_enter Tryd.func52, Tryd.ntmps52
  go_wp2
  all_goals
    go_ret
    refine ⟨congrArg (fun b => Ending.returned (Value.bool b)) ?_, 0, rfl⟩
    rw [Bool.eq_iff_iff]
    simp [foreignR]
    omega
/-- A text has a letter that has no place in a part just if it has such a byte. -/
theorem idxFunc_okB (s : ByteArray) : ∀ (f pos : Nat), s.size ≤ pos + f → (0 ≤ Lib.idxFuncFrom foreignR true s f pos ↔ (s.data.toList.drop pos).all okB = false)
  | 0, pos, h => by
    have : s.data.toList.drop pos = [] := List.drop_of_length_le (by simpa using h)
    rw [this]
    simp [Lib.idxFuncFrom]
  | f + 1, pos, h => by
    unfold Lib.idxFuncFrom
    by_cases hp : pos < s.size
    · rw [if_pos hp]
      have hp' : pos < s.data.toList.length := by simpa using hp
      have hb := List.getElem?_eq_getElem hp'
      obtain ⟨h1, h2⟩ := foreign_at s pos _ hb
      rw [List.drop_eq_getElem_cons hp', List.all_cons]
      cases ho : okB s.data.toList[pos] with
      | false =>
        rw [ho] at h1
        rw [if_pos (by rw [h1]; rfl)]
        simp
      | true =>
        rw [ho] at h1
        rw [if_neg (by rw [h1]; simp), h2 ho, idxFunc_okB s f (pos + 1) (by omega)]
        simp
    · rw [if_neg hp]
      have : s.data.toList.drop pos = [] := List.drop_of_length_le (by simpa using hp)
      rw [this]
      simp
theorem contains_any (w : World) (l : List UInt8) :
    Calls Tryd.prog 51 #[.string (strOf l), .func (.func 52) #[] #[]] w fun e w' => e = .returned (.bool (!l.all okB)) ∧ Below w.heap.size w w' := by
  refine (Any.strings_ContainsFunc_runes Tryd.laysGw17 52 #[] (enters_of Tryd.func52 (by kernel_rfl) rfl) foreignR (strOf l) w (fun W x hx _ => isForeign_any W x hx)).mono ?_
  rintro e w' ⟨rfl, h⟩
  refine ⟨?_, h⟩
  congr 2
  have := idxFunc_okB (strOf l) (strOf l).size 0 (by omega)
  rw [List.drop_zero, strOf_data] at this
  unfold Lib.idxFunc
  cases ha : l.all okB with
  | true =>
    rw [ha] at this
    simpa using this
  | false =>
    rw [ha] at this
    simpa using this
theorem partL_no {l : List UInt8} (h : l = [] ∨ 12 < l.length ∨ l = [46] ∨ l = [46, 46]) : partL 12 l = false := by
  rcases h with rfl | h | rfl | rfl
  · rfl
  · simp [partL]
    omega
  · rfl
  · rfl
theorem partL_yes {l : List UInt8} (h0 : l ≠ []) (h1 : l.length ≤ 12) (h2 : l ≠ [46]) (h3 : l ≠ [46, 46]) : partL 12 l = l.all okB := by
  have : 1 ≤ l.length := by
    cases l with
    | nil => exact absurd rfl h0
    | cons => simp
  rw [Bool.eq_iff_iff]
  simp [partL, h1, h2, h3, this]
set_option maxHeartbeats 1000000 in
theorem isPart_any (w : World) (l : List UInt8) :
    Calls Tryd.prog 37 #[.string (strOf l)] w fun e w' => e = .returned (.bool (partL 12 l)) ∧ Below w.heap.size w w' := by
  have hs := strOf_size l
  by_cases h : l = [] ∨ 12 < l.length ∨ l = [46] ∨ l = [46, 46]
  · rw [partL_no h]
    rcases h with h | h | h | h
    · subst h
      go_enter Tryd.func37, Tryd.ntmps37
      go_wp2_with fail
      go_ret
      exact ⟨rfl, Below.refl _ _⟩
    · have h1 : l ≠ [] := by rintro rfl; simp at h
      have h2 : (12 : Int) < ((strOf l).size : Int) := by omega
      have h3 : l.isEmpty = false := by simpa using h1
      go_enter Tryd.func37, Tryd.ntmps37
      go_wp2_with fail
      go_ret
      exact ⟨rfl, Below.refl _ _⟩
    · subst h
      go_enter Tryd.func37, Tryd.ntmps37
      go_wp2_with fail
      go_ret
      exact ⟨rfl, Below.refl _ _⟩
    · subst h
      go_enter Tryd.func37, Tryd.ntmps37
      go_wp2_with fail
      go_ret
      exact ⟨rfl, Below.refl _ _⟩
  · simp only [not_or] at h
    obtain ⟨h0, h1, h2, h3⟩ := h
    rw [partL_yes h0 (by omega) h2 h3]
    have e0 : l.isEmpty = false := by simpa using h0
    have e1 : ((strOf l).size : Int) ≤ 12 := by omega
    have e2 : (l == [46]) = false := by simpa using h2
    have e3 : (l == [46, 46]) = false := by simpa using h3
    have e4 : ¬ ((12 : Int) < ((strOf l).size : Int)) := by omega
    go_enter Tryd.func37, Tryd.ntmps37
    go_wp2_with fail
    refine (contains_any _ l).mono ?_
    rintro e w1 ⟨rfl, hb⟩
    go_wp2_with fail
    go_ret
    exact ⟨by simp, hb⟩
end Go.Proofs.YtibdeiahmgkbhaaDoor
