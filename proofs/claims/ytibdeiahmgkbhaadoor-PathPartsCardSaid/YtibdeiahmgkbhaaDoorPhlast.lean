/- path.Split, Parent, Base. -/
import Derived.Test.YtibdeiahmgkbhaaDoorPhmath
import Derived.Shelf.Strings.LastIndex
namespace Go.Proofs.YtibdeiahmgkbhaaDoor
open Go.RowKit
set_option linter.unusedSimpArgs false
set_option linter.unusedVariables false
/-- The last byte 47 of a text, if there is one. -/
theorem last47 (l : List UInt8) : (47 ∉ l ∧ Lib.lastIndexByte (strOf l) 47 = -1) ∨ ∃ a b, l = a ++ 47 :: b ∧ 47 ∉ b ∧ Lib.lastIndexByte (strOf l) 47 = (a.length : Int) := by
  have hg : ∀ j, (h : j < l.length) → (strOf l).data[j]! = l[j] := by
    intro j h
    have : j < (strOf l).data.size := by rw [show (strOf l).data.size = (strOf l).size from rfl, strOf_size]; exact h
    rw [getElem!_pos (strOf l).data j this]
    simp [strOf]
  have hz := strOf_size l
  unfold Lib.lastIndexByte
  rw [hz]
  rcases Lib.lastIdx_spec (strOf l) 47 l.length with ⟨h1, h2⟩ | ⟨i, h1, h2, h3, h4⟩
  · left
    refine ⟨fun hm => ?_, h1⟩
    obtain ⟨j, hj, e⟩ := List.getElem_of_mem hm
    apply h2 j hj
    rw [hg j hj, e]
    rfl
  · right
    refine ⟨l.take i, l.drop (i + 1), ?_, ?_, ?_⟩
    · have e : l[i] = 47 := by
        rw [hg i h1] at h3
        apply UInt8.toNat_inj.1
        rw [show (47 : UInt8).toNat = 47 from rfl]
        omega
      conv => lhs; rw [← List.take_append_drop i l, List.drop_eq_getElem_cons h1, e]
    · intro hm
      obtain ⟨j, hj, e⟩ := List.getElem_of_mem hm
      rw [List.length_drop] at hj
      have hj2 : i + 1 + j < l.length := by omega
      apply h4 (i + 1 + j) (by omega) hj2
      rw [hg _ hj2]
      rw [List.getElem_drop] at e
      rw [e]
      rfl
    · rw [h2, List.length_take, Nat.min_eq_left (by omega)]
theorem lastIndex_any (w : World) (l : List UInt8) (hl : l.length ≤ 140737488351232) (R : Int) (hR : Lib.lastIndexByte (strOf l) 47 = R) :
    Calls Tryd.prog 41 #[.string (strOf l), .string ⟨#[47]⟩] w fun e w' => e = .returned (.int .i64 R) ∧ w' = w := by
  refine (Any.strings_LastIndex_one Tryd.lays148 (strOf l) ⟨#[47]⟩ rfl (by rw [strOf_size]; omega) w).mono ?_
  rintro e w' ⟨rfl, h⟩
  refine ⟨?_, h⟩
  rw [← hR]
  rfl
theorem cut_last (a b : List UInt8) (hb : 47 ∉ b) : cutL (a ++ 47 :: b) = cutL a ++ [b] := by
  show cutA [] (a ++ 47 :: b) = _
  rw [cutA_app, cutA_no b [] hb]
  rfl
theorem cut_one (l : List UInt8) (h : 47 ∉ l) : cutL l = [l] := by
  show cutA [] l = _
  rw [cutA_no l [] h]
  rfl
def parentL (l : List UInt8) : List UInt8 := if okP l && decide (2 ≤ (cutL l).length) then unc (cutL l).dropLast else []
def hasParent (l : List UInt8) : Bool := okP l && decide (2 ≤ (cutL l).length)
def baseL (l : List UInt8) : List UInt8 := if okP l then (cutL l).getLast (cutA_ne [] l) else []
set_option maxHeartbeats 2000000 in
theorem phparent_any (w : World) (l : List UInt8) (hl : l.length ≤ 140737488351232) :
    Calls Tryd.prog 17 #[.string (strOf l)] w fun e w' => e = .returned (.tuple #[.string (strOf (parentL l)), .bool (hasParent l)]) ∧ Below w.heap.size w w' := by
  have CP := Lib.hid (fun w => isPath_any w l hl)
  rcases last47 l with ⟨h1, h2⟩ | ⟨a, b, rfl, h1, h2⟩
  · have hp : hasParent l = false := by unfold hasParent; rw [cut_one l h1]; simp
    have hq : parentL l = [] := by unfold parentL; rw [cut_one l h1]; simp
    rw [hp, hq]
    have CL := Lib.hid (fun w => lastIndex_any w l hl _ h2)
    clear h1 h2 hp hq
    go_enter Tryd.func17, Tryd.ntmps17
    go_wp2_with fail
    refine (CL.out _).mono ?_
    rintro e w1 ⟨rfl, rfl⟩
    go_wp2
    go_ret2
    exact ⟨rfl, Below.refl _ _⟩
  · have hlen : a.length + 1 + b.length ≤ 140737488351232 := by simp at hl; omega
    have ez : (strOf (a ++ 47 :: b)).size = a.length + 1 + b.length := by rw [strOf_size]; simp; omega
    have CL := Lib.hid (fun w => lastIndex_any w (a ++ 47 :: b) hl _ h2)
    have h2l : 2 ≤ (cutL (a ++ 47 :: b)).length := by
      rw [cut_last a b h1, List.length_append]
      have := List.length_pos_iff.2 (cutA_ne [] a)
      show 2 ≤ (cutA [] a).length + 1
      omega
    have hu : unc (cutL (a ++ 47 :: b)).dropLast = a := by
      rw [cut_last a b h1, List.dropLast_concat]
      exact unc_cut a []
    have hp : hasParent (a ++ 47 :: b) = okP (a ++ 47 :: b) := by unfold hasParent; simp [h2l]
    have hq : parentL (a ++ 47 :: b) = if okP (a ++ 47 :: b) then a else [] := by unfold parentL; simp [h2l, hu]
    rw [hp, hq]
    have i0 : ¬ ((a.length : Int) < 0) := by omega
    have i1 : (0 : Int) ≤ (a.length : Int) := by omega
    have i2 : (a.length : Int) ≤ ((strOf (a ++ 47 :: b)).size : Int) := by rw [ez]; omega
    have e1 : (strOf (a ++ 47 :: b)).extract 0 a.length = strOf a := by rw [strOf_ext]; simp
    generalize okP (a ++ 47 :: b) = p at *
    clear h2l hu hp hq h1 h2 hl
    cases p
    · go_enter Tryd.func17, Tryd.ntmps17
      go_wp2_with fail
      refine (CL.out _).mono ?_
      rintro e w1 ⟨rfl, rfl⟩
      go_wp2_with fail
      refine (CP.out _).mono ?_
      rintro e w2 ⟨rfl, hb⟩
      go_wp2
      go_ret2
      exact ⟨rfl, hb⟩
    · go_enter Tryd.func17, Tryd.ntmps17
      go_wp2_with fail
      refine (CL.out _).mono ?_
      rintro e w1 ⟨rfl, rfl⟩
      go_wp2_with fail
      refine (CP.out _).mono ?_
      rintro e w2 ⟨rfl, hb⟩
      go_wp2
      go_ret2
      exact ⟨rfl, hb⟩
set_option maxHeartbeats 2000000 in
theorem phbase_any (w : World) (l : List UInt8) (hl : l.length ≤ 140737488351232) :
    Calls Tryd.prog 22 #[.string (strOf l)] w fun e w' => e = .returned (.string (strOf (baseL l))) ∧ Below w.heap.size w w' := by
  have CP := Lib.hid (fun w => isPath_any w l hl)
  obtain ⟨p, hp⟩ : ∃ p, okP l = p := ⟨_, rfl⟩
  rw [hp] at CP
  cases p with
  | false =>
    have hq : baseL l = [] := by unfold baseL; rw [hp]; rfl
    rw [hq]
    clear hp hq
    go_enter Tryd.func22, Tryd.ntmps22
    go_wp2_with fail
    refine (CP.out _).mono ?_
    rintro e w2 ⟨rfl, hb⟩
    go_wp2
    go_ret
    exact ⟨rfl, hb⟩
  | true =>
    have hs := strOf_size l
    rcases last47 l with ⟨h1, h2⟩ | ⟨a, b, rfl, h1, h2⟩
    · have hq : baseL l = l := by unfold baseL; rw [if_pos hp]; simp [cut_one l h1]
      rw [hq]
      have CL := Lib.hid (fun w => lastIndex_any w l hl _ h2)
      have e1 : (strOf l).extract 0 l.length = strOf l := by rw [strOf_ext]; simp
      clear h1 h2 hp hq
      go_enter Tryd.func22, Tryd.ntmps22
      go_wp2_with fail
      refine (CP.out _).mono ?_
      rintro e w2 ⟨rfl, hb⟩
      go_wp2_with fail
      refine (CL.out _).mono ?_
      rintro e w1 ⟨rfl, rfl⟩
      go_wp2
      go_ret
      exact ⟨by simp [e1], hb⟩
    · have hlen : a.length + 1 + b.length ≤ 140737488351232 := by simp at hl; omega
      have ez : (strOf (a ++ 47 :: b)).size = a.length + 1 + b.length := by rw [strOf_size]; simp; omega
      have hq : baseL (a ++ 47 :: b) = b := by unfold baseL; rw [if_pos hp]; simp [cut_last a b h1]
      rw [hq]
      have CL := Lib.hid (fun w => lastIndex_any w (a ++ 47 :: b) hl _ h2)
      have k1 : IntKind.i64.wrap ((a.length : Int) + 1) = (a.length : Int) + 1 := IntWalk.i64_in _ (by omega)
      have i0 : (0 : Int) ≤ (a.length : Int) + 1 := by omega
      have i2 : (a.length : Int) + 1 ≤ ((strOf (a ++ 47 :: b)).size : Int) := by rw [ez]; omega
      have i3 : a.length + 1 ≤ (strOf (a ++ 47 :: b)).size := by rw [ez]; omega
      have e2 : (strOf (a ++ 47 :: b)).extract (a.length + 1) (a.length + 1 + b.length) = strOf b := by
        rw [strOf_ext]
        congr 1
        rw [show (a ++ 47 :: b).drop (a.length + 1) = b by rw [show a ++ 47 :: b = (a ++ [47]) ++ b by simp]; exact List.drop_left' (by simp)]
        exact List.take_of_length_le (by omega)
      clear h1 h2 hp hq hl hs
      go_enter Tryd.func22, Tryd.ntmps22
      go_wp2_with fail
      refine (CP.out _).mono ?_
      rintro e w2 ⟨rfl, hb⟩
      go_wp2_with fail
      refine (CL.out _).mono ?_
      rintro e w1 ⟨rfl, rfl⟩
      go_wp2
      go_ret
      exact ⟨by simp [e2], hb⟩
end Go.Proofs.YtibdeiahmgkbhaaDoor
