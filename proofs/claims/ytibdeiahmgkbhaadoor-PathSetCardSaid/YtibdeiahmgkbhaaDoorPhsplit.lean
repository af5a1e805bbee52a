/- strings.Split at the byte 47. -/
import Derived.Test.YtibdeiahmgkbhaaDoorQhunder
import Derived.Shelf.Strings.Count
namespace Go.Proofs.YtibdeiahmgkbhaaDoor
open Go.RowKit
set_option linter.unusedSimpArgs false
set_option linter.unusedVariables false
def tv (x : List UInt8) : Value := .string (strOf x)
theorem flat_text (xs : List (List UInt8)) : textTy.flat xs = xs.map tv := by
  induction xs with
  | nil => rfl
  | cons x xs ih => rw [textTy.flat_cons, ih]; rfl
theorem cutA_count : ∀ (l acc : List UInt8), (cutA acc l).length = l.count 47 + 1
  | [], acc => by simp [cutA]
  | b :: l, acc => by
    unfold cutA
    by_cases h : b = 47
    · subst h
      rw [if_pos rfl, List.length_cons, cutA_count l []]
      simp
    · rw [if_neg h, cutA_count l _, List.count_cons_of_ne h]
theorem count_any (w : World) (l : List UInt8) : Calls Tryd.prog 66 #[.string (strOf l), .string ⟨#[47]⟩] w fun e w' => e = .returned (.int .i64 ((l.count 47 : Nat) : Int)) ∧ w' = w := by
  refine (Any.strings_Count_one Tryd.lays138 (strOf l) 47 w).mono ?_
  rintro e w' ⟨rfl, rfl⟩
  rw [strOf_data]
  exact ⟨rfl, rfl⟩
theorem run_mkT (n : Nat) (h : n ≤ 100000000) (w : World) : (Instr.makeSlice 22 (.int .i64 (n : Int)) (.int .i64 (n : Int))).run Tryd.prog w = .ok (.slice (some ⟨w.heap.size, 0, none⟩) n n) (w.alloc (.cells (Array.replicate n (tv [])) 9)) := by
  obtain ⟨i0, hi, hz0, hz1, hz2⟩ := info_parts textTy.info
  have hr := run_make (P := Tryd.prog) w 22 9 i0 (.string ⟨#[]⟩) textTy.under hi hz0 .i64 .i64 n n (by omega) (by omega) (by rw [hz2, show textTy.bytes = 16 from rfl]; omega) (by omega)
  rw [hr, hz1, Int.toNat_natCast]
  have e : madeCells (Value.string ⟨#[]⟩).cells n = (List.replicate n (tv [])).toArray := by
    apply Array.toList_inj.1
    show (madeCells #[.string ⟨#[]⟩] n).toList = _
    rw [toList_madeCells_one]
    simp [tv, strOf]
  rw [show textTy.k = 1 from rfl, Nat.mul_one, e, List.toArray_replicate]
theorem row_set (pre : List (List UInt8)) (x : List UInt8) (k : Nat) : (((pre ++ List.replicate (k + 1) []).map tv).toArray).setIfInBounds pre.length (.string (strOf x)) = ((((pre ++ [x]) ++ List.replicate k []).map tv).toArray) := by
  simp only [List.setIfInBounds_toArray]
  congr 1
  rw [List.map_append, List.map_append, List.set_append_right _ _ (by simp), List.length_map, Nat.sub_self, List.replicate_succ]
  simp [tv]
set_option maxRecDepth 100000 in
set_option maxHeartbeats 4000000 in
theorem genSplit_any (w : World) (l : List UInt8) (hlen : l.length ≤ 10000000) :
    Calls Tryd.prog 50 #[.string (strOf l), .string ⟨#[47]⟩, .int .i64 0, .int .i64 (-1)] w fun e w' => e = .returned (.slice (some ⟨w.heap.size, 0, none⟩) (cutL l).length (cutL l).length) ∧ w'.heap[w.heap.size]? = some (.cells ((cutL l).map tv).toArray 9 (0, 0)) ∧ Chg [] w w' := by
  obtain ⟨N, hN⟩ : ∃ N, (cutL l).length = N := ⟨_, rfl⟩
  have hcn : l.count 47 + 1 = N := by rw [← hN]; exact (cutA_count l []).symm
  have hNl : N ≤ l.length + 1 := by rw [← hN]; exact cutA_len l []
  have hs := strOf_size l
  have HN := Lib.hid hN
  have HCN := Lib.hid hcn
  rw [hN]
  have hN1 : ((l.count 47 : Nat) : Int) + 1 = (N : Int) := by omega
  have k1 : IntKind.i64.wrap ((N : Int)) = (N : Int) := IntWalk.i64_in _ (by omega)
  have k2 : IntKind.i64.wrap ((N : Int) - 1) = (N : Int) - 1 := IntWalk.i64_in _ (by omega)
  have hmk := fun W => run_mkT N (by omega) W
  have C1 := Lib.hid (fun w => count_any w l)
  generalize hcc : ((l.count 47 : Nat) : Int) = cc at *
  have hmin : min (N : Int) ((l.length : Int) + 1) = (N : Int) := by omega
  have hN0 : 1 ≤ N := by have := HCN.out; omega
  obtain ⟨w5, hw5, c5, b5⟩ := news1 w (.cells (Array.replicate N (tv [])) 9)
  have W5 := Lib.hid hw5
  have B5 := Lib.hid (show w5.heap[w.heap.size]? = some (.cells ((List.replicate N []).map tv).toArray 9 (0, 0)) by rw [List.map_replicate, List.toArray_replicate]; exact b5)
  have C5 := Lib.hid c5
  clear hN hcn hw5 c5 b5
  go_enter Tryd.func50, Tryd.ntmps50
  go_wp2_with fail
  refine (C1.out _).mono ?_
  rintro e w1 ⟨rfl, rfl⟩
  go_wp2
  rw [← W5.out]
  go_loopw [0, 10, 11] (fun v0 v10 v11 wr => ∃ (pre : List (List UInt8)) (rest : List UInt8), v0 = .string (strOf rest) ∧ v10 = .int .i64 (pre.length : Int) ∧ Hid (pre ++ cutA [] rest = cutL l ∧ rest.length ≤ l.length ∧ pre.length + rest.count 47 + 1 = N) ∧
      Hid (wr.heap[w1.heap.size]? = some (.cells ((pre ++ List.replicate (N - pre.length) []).map tv).toArray 9 (0, 0)) ∧ Chg [] w1 wr)) (fun _ v10 _ _ => N - (RowKit.intOf v10).toNat)
  case atStart => exact ⟨[], l, rfl, rfl, ⟨rfl, Nat.le_refl _, by have := HCN.out; simp; omega⟩, by simpa using B5.out, C5.out⟩
  case round =>
    obtain ⟨pre, rest, rfl, rfl, HP, HI⟩ := hrel
    rcases at47 rest with hno | ⟨a, b, rfl, hno⟩
    · have hc0 : rest.count 47 = 0 := List.count_eq_zero.2 hno
      have hpl : pre.length + 1 = N := by have := HP.out.2.2; omega
      have i1 : ¬ ((pre.length : Int) < (N : Int) - 1) := by omega
      have i2 : (pre.length : Int) < (N : Int) := by omega
      have i3 : (0 : Int) ≤ (pre.length : Int) := by omega
      have i4 : (pre.length : Int) + 1 ≤ (N : Int) := by omega
      have k3 : IntKind.i64.wrap ((pre.length : Int) + 1) = (pre.length : Int) + 1 := IntWalk.i64_in _ (by omega)
      have hcut := HP.out.1
      rw [cutA_no _ _ hno, List.nil_append] at hcut
      have hq := HI.out.1
      rw [show N - pre.length = 0 + 1 by omega] at hq
      have f0 := free_of hq pre.length
      have q1 := heap_setCell_same wr w1.heap.size pre.length _ _ (.string (strOf rest)) hq
      rw [row_set, List.replicate_zero, List.append_nil, hcut] at q1
      have Q1 := Lib.hid q1
      have CW := Lib.hid (HI.out.2.setCell (p := ⟨w1.heap.size, pre.length, none⟩) (.inr (Nat.le_refl _)) (.string (strOf rest)))
      have z : ∃ u, wr.cell? ⟨w1.heap.size, pre.length, none⟩ = some u := ⟨.string (strOf []), by rw [cell_of hq]; simp [tv]⟩
      obtain ⟨u, z⟩ := z
      clear hq q1 hcut hno hc0
      go_wp2
      go_ret
      exact ⟨rfl, Q1.out, CW.out⟩
    · have hcb : (a ++ 47 :: b).count 47 = b.count 47 + 1 := by
        rw [List.count_append, List.count_eq_zero.2 hno]
        simp
      have hpl : pre.length + b.count 47 + 2 = N := by have := HP.out.2.2; omega
      have ez : (strOf (a ++ 47 :: b)).size = a.length + 1 + b.length := by rw [strOf_size]; simp; omega
      have hrl' : a.length + 1 + b.length ≤ l.length := by have := HP.out.2.1; rw [← strOf_size, ez] at this; exact this
      have i0 : (0 : Int) ≤ (a.length : Int) := by omega
      have i1 : (pre.length : Int) < (N : Int) - 1 := by omega
      have i2 : (pre.length : Int) < (N : Int) := by omega
      have i3 : (0 : Int) ≤ (pre.length : Int) := by omega
      have i5 : ¬ ((a.length : Int) < 0) := by omega
      have i6 : (a.length : Int) ≤ ((strOf (a ++ 47 :: b)).size : Int) := by rw [ez]; omega
      have i7 : (a.length : Int) + 1 ≤ ((strOf (a ++ 47 :: b)).size : Int) := by rw [ez]; omega
      have i8 : a.length + 1 ≤ 140737488351232 := by omega
      have k3 : IntKind.i64.wrap ((pre.length : Int) + 1) = (pre.length : Int) + 1 := IntWalk.i64_in _ (by omega)
      have e1 : (strOf (a ++ 47 :: b)).extract 0 a.length = strOf a := by rw [strOf_ext]; simp
      have e2 : (strOf (a ++ 47 :: b)).extract (a.length + 1) (a.length + 1 + b.length) = strOf b := by
        rw [strOf_ext]
        congr 1
        rw [show (a ++ 47 :: b).drop (a.length + 1) = b by rw [show a ++ 47 :: b = (a ++ [47]) ++ b by simp]; exact List.drop_left' (by simp)]
        exact List.take_of_length_le (by omega)
      have hcut := HP.out.1
      rw [cutA_at _ _ _ hno, List.nil_append] at hcut
      have hq := HI.out.1
      rw [show N - pre.length = (N - (pre.length + 1)) + 1 by omega] at hq
      have f0 := free_of hq pre.length
      have q1 := heap_setCell_same wr w1.heap.size pre.length _ _ (.string (strOf a)) hq
      rw [row_set] at q1
      have Q1 := Lib.hid q1
      have CW := Lib.hid (HI.out.2.setCell (p := ⟨w1.heap.size, pre.length, none⟩) (.inr (Nat.le_refl _)) (.string (strOf a)))
      have z : ∃ u, wr.cell? ⟨w1.heap.size, pre.length, none⟩ = some u := ⟨.string (strOf []), by rw [cell_of hq]; simp [tv, List.replicate_succ]⟩
      obtain ⟨u, z⟩ := z
      have CI := Lib.hid (fun w => index_at w a b hno)
      have HQ := Lib.hid hcut
      have HPL := Lib.hid hpl
      clear hq q1 hcut hno hcb hpl
      go_wp2_with fail
      refine (CI.out _).mono ?_
      rintro e w2 ⟨rfl, rfl⟩
      go_wp2
      refine ⟨⟨pre ++ [a], b, ?_, by simp, ⟨by rw [← HQ.out]; simp, by omega, by have := HPL.out; simp; omega⟩, ⟨by have := Q1.out; simpa using this, CW.out⟩⟩, by simp [RowKit.intOf]; omega⟩
      first | rfl | (rw [e2]) | (simp only [ez, e2])
end Go.Proofs.YtibdeiahmgkbhaaDoor
