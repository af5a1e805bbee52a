/- The document's Under and Near. strings.Split at the byte 47. path.compare, path.Less: texts held against one another by their parts. Paths, purely: the order of texts by their parts. path.Split, Parent, Base. Paths and their parts: purely. cmp.Compare at int, bytes.Compare, cmp.Or at three ints. Package effect: kinds, Check. Orders, purely. Trees of files: purely. A row of structs: one cell of one of them is stored. No program here. Rows of entries. table.stands. The kit's functions on bytes: same, lent, kept, written over. -/
import Derived.Test.YtimdfpejgaidhaaGreatDoorZtwb
import Derived.Shelf.Strings.Count
import Derived.Shelf.Small.Strs
import Derived.Shelf.Strings.LastIndex
import Derived.Test.YtimdfpejgaidhaaGreatDoorZtwa
import Derived.Lib.BytesEntry
import Derived.Deep.Cut
namespace Go.Proofs.YtimdfpejgaidhaaGreatDoor
section
open Go.RowKit
set_option linter.unusedSimpArgs false
set_option linter.unusedVariables false
theorem qcheck_p (l : List UInt8) (p : Bool) (hp : okP l = p) (hl : l.length ≤ 10000000) (w : World) :
    Calls Tryz.prog 44 #[.string (strOf l)] w fun e w' => e = .returned (.int .i64 (if p then 0 else 2)) ∧ Chg [] w w' := by
  have := qcheck_any w l hl
  rw [show checkL 6 12 l = p from hp] at this
  exact this
end
section
open Go.RowKit
set_option linter.unusedSimpArgs false
set_option linter.unusedVariables false
def tv (x : List UInt8) : Value := .string (strOf x)
theorem flat_text (xs : List (List UInt8)) : textTy.flat xs = xs.map tv := by
  induction xs with
  | nil => rfl
  | cons x xs ih => rw [textTy.flat_cons, ih]; rfl
theorem cutA_count : ∀ (l acc : List UInt8), (cutA acc l).length = l.count 47 + 1
  | [], acc => by simp [cutA]
  | b :: l, acc => by
    unfold cutA
    by_cases h : b = 47
    · subst h
      rw [if_pos rfl, List.length_cons, cutA_count l []]
      simp
    · rw [if_neg h, cutA_count l _, List.count_cons_of_ne h]
theorem strcount_any (w : World) (l : List UInt8) : Calls Tryz.prog 147 #[.string (strOf l), .string ⟨#[47]⟩] w fun e w' => e = .returned (.int .i64 ((l.count 47 : Nat) : Int)) ∧ w' = w := by
  refine (Any.strings_Count_one Tryz.lays138 (strOf l) 47 w).mono ?_
  rintro e w' ⟨rfl, rfl⟩
  rw [strOf_data]
  exact ⟨rfl, rfl⟩
theorem run_mkT (n : Nat) (h : n ≤ 100000000) (w : World) : (Instr.makeSlice 80 (.int .i64 (n : Int)) (.int .i64 (n : Int))).run Tryz.prog w = .ok (.slice (some ⟨w.heap.size, 0, none⟩) n n) (w.alloc (.cells (Array.replicate n (tv [])) 9)) := by
  obtain ⟨i0, hi, hz0, hz1, hz2⟩ := info_parts textTy.info
  have hr := run_make (P := Tryz.prog) w 80 9 i0 (.string ⟨#[]⟩) textTy.under hi hz0 .i64 .i64 n n (by omega) (by omega) (by rw [hz2, show textTy.bytes = 16 from rfl]; omega) (by omega)
  rw [hr, hz1, Int.toNat_natCast]
  have e : madeCells (Value.string ⟨#[]⟩).cells n = (List.replicate n (tv [])).toArray := by
    apply Array.toList_inj.1
    show (madeCells #[.string ⟨#[]⟩] n).toList = _
    rw [toList_madeCells_one]
    simp [tv, strOf]
  rw [show textTy.k = 1 from rfl, Nat.mul_one, e, List.toArray_replicate]
theorem row_set (pre : List (List UInt8)) (x : List UInt8) (k : Nat) : (((pre ++ List.replicate (k + 1) []).map tv).toArray).setIfInBounds pre.length (.string (strOf x)) = ((((pre ++ [x]) ++ List.replicate k []).map tv).toArray) := by
  simp only [List.setIfInBounds_toArray]
  congr 1
  rw [List.map_append, List.map_append, List.set_append_right _ _ (by simp), List.length_map, Nat.sub_self, List.replicate_succ]
  simp [tv]
set_option maxRecDepth 100000 in
set_option maxHeartbeats 4000000 in
theorem genSplit_any (w : World) (l : List UInt8) (hlen : l.length ≤ 10000000) :
    Calls Tryz.prog 131 #[.string (strOf l), .string ⟨#[47]⟩, .int .i64 0, .int .i64 (-1)] w fun e w' => e = .returned (.slice (some ⟨w.heap.size, 0, none⟩) (cutL l).length (cutL l).length) ∧ w'.heap[w.heap.size]? = some (.cells ((cutL l).map tv).toArray 9 (0, 0)) ∧ Chg [] w w' := by
  obtain ⟨N, hN⟩ : ∃ N, (cutL l).length = N := ⟨_, rfl⟩
  have hcn : l.count 47 + 1 = N := by rw [← hN]; exact (cutA_count l []).symm
  have hNl : N ≤ l.length + 1 := by rw [← hN]; exact cutA_len l []
  have hs := strOf_size l
  have HN := Lib.hid hN
  have HCN := Lib.hid hcn
  rw [hN]
  have hN1 : ((l.count 47 : Nat) : Int) + 1 = (N : Int) := by omega
  have k1 : IntKind.i64.wrap ((N : Int)) = (N : Int) := IntWalk.i64_in _ (by omega)
  have k2 : IntKind.i64.wrap ((N : Int) - 1) = (N : Int) - 1 := IntWalk.i64_in _ (by omega)
  have hmk := fun W => run_mkT N (by omega) W
  have C1 := Lib.hid (fun w => strcount_any w l)
  generalize hcc : ((l.count 47 : Nat) : Int) = cc at *
  have hmin : min (N : Int) ((l.length : Int) + 1) = (N : Int) := by omega
  have hN0 : 1 ≤ N := by have := HCN.out; omega
  obtain ⟨w5, hw5, c5, b5⟩ := news1 w (.cells (Array.replicate N (tv [])) 9)
  have W5 := Lib.hid hw5
  have B5 := Lib.hid (show w5.heap[w.heap.size]? = some (.cells ((List.replicate N []).map tv).toArray 9 (0, 0)) by rw [List.map_replicate, List.toArray_replicate]; exact b5)
  have C5 := Lib.hid c5
  clear hN hcn hw5 c5 b5
  go_enter Tryz.func131, Tryz.ntmps131
  go_wp2_with fail
  refine (C1.out _).mono ?_
  rintro e w1 ⟨rfl, rfl⟩
  go_wp2
  rw [← W5.out]
  go_loopw [0, 10, 11] (fun v0 v10 v11 wr => ∃ (pre : List (List UInt8)) (rest : List UInt8), v0 = .string (strOf rest) ∧ v10 = .int .i64 (pre.length : Int) ∧ Hid (pre ++ cutA [] rest = cutL l ∧ rest.length ≤ l.length ∧ pre.length + rest.count 47 + 1 = N) ∧
      Hid (wr.heap[w1.heap.size]? = some (.cells ((pre ++ List.replicate (N - pre.length) []).map tv).toArray 9 (0, 0)) ∧ Chg [] w1 wr)) (fun _ v10 _ _ => N - (RowKit.intOf v10).toNat)
  case atStart => exact ⟨[], l, rfl, rfl, ⟨rfl, Nat.le_refl _, by have := HCN.out; simp; omega⟩, by simpa using B5.out, C5.out⟩
  case round =>
    obtain ⟨pre, rest, rfl, rfl, HP, HI⟩ := hrel
    rcases at47 rest with hno | ⟨a, b, rfl, hno⟩
    · have hc0 : rest.count 47 = 0 := List.count_eq_zero.2 hno
      have hpl : pre.length + 1 = N := by have := HP.out.2.2; omega
      have i1 : ¬ ((pre.length : Int) < (N : Int) - 1) := by omega
      have i2 : (pre.length : Int) < (N : Int) := by omega
      have i3 : (0 : Int) ≤ (pre.length : Int) := by omega
      have i4 : (pre.length : Int) + 1 ≤ (N : Int) := by omega
      have k3 : IntKind.i64.wrap ((pre.length : Int) + 1) = (pre.length : Int) + 1 := IntWalk.i64_in _ (by omega)
      have hcut := HP.out.1
      rw [cutA_no _ _ hno, List.nil_append] at hcut
      have hq := HI.out.1
      rw [show N - pre.length = 0 + 1 by omega] at hq
      have f0 := free_of hq pre.length
      have q1 := heap_setCell_same wr w1.heap.size pre.length _ _ (.string (strOf rest)) hq
      rw [row_set, List.replicate_zero, List.append_nil, hcut] at q1
      have Q1 := Lib.hid q1
      have CW := Lib.hid (HI.out.2.setCell (p := ⟨w1.heap.size, pre.length, none⟩) (.inr (Nat.le_refl _)) (.string (strOf rest)))
      have z : ∃ u, wr.cell? ⟨w1.heap.size, pre.length, none⟩ = some u := ⟨.string (strOf []), by rw [cell_of hq]; simp [tv]⟩
      obtain ⟨u, z⟩ := z
      clear hq q1 hcut hno hc0
      go_wp2
      go_ret
      exact ⟨rfl, Q1.out, CW.out⟩
    · have hcb : (a ++ 47 :: b).count 47 = b.count 47 + 1 := by
        rw [List.count_append, List.count_eq_zero.2 hno]
        simp
      have hpl : pre.length + b.count 47 + 2 = N := by have := HP.out.2.2; omega
      have ez : (strOf (a ++ 47 :: b)).size = a.length + 1 + b.length := by rw [strOf_size]; simp; omega
      have hrl' : a.length + 1 + b.length ≤ l.length := by have := HP.out.2.1; rw [← strOf_size, ez] at this; exact this
      have i0 : (0 : Int) ≤ (a.length : Int) := by omega
      have i1 : (pre.length : Int) < (N : Int) - 1 := by omega
      have i2 : (pre.length : Int) < (N : Int) := by omega
      have i3 : (0 : Int) ≤ (pre.length : Int) := by omega
      have i5 : ¬ ((a.length : Int) < 0) := by omega
      have i6 : (a.length : Int) ≤ ((strOf (a ++ 47 :: b)).size : Int) := by rw [ez]; omega
      have i7 : (a.length : Int) + 1 ≤ ((strOf (a ++ 47 :: b)).size : Int) := by rw [ez]; omega
      have i8 : a.length + 1 ≤ 140737488351232 := by omega
      have k3 : IntKind.i64.wrap ((pre.length : Int) + 1) = (pre.length : Int) + 1 := IntWalk.i64_in _ (by omega)
      have e1 : (strOf (a ++ 47 :: b)).extract 0 a.length = strOf a := by rw [strOf_ext]; simp
      have e2 : (strOf (a ++ 47 :: b)).extract (a.length + 1) (a.length + 1 + b.length) = strOf b := by
        rw [strOf_ext]
        congr 1
        rw [show (a ++ 47 :: b).drop (a.length + 1) = b by rw [show a ++ 47 :: b = (a ++ [47]) ++ b by simp]; exact List.drop_left' (by simp)]
        exact List.take_of_length_le (by omega)
      have hcut := HP.out.1
      rw [cutA_at _ _ _ hno, List.nil_append] at hcut
      have hq := HI.out.1
      rw [show N - pre.length = (N - (pre.length + 1)) + 1 by omega] at hq
      have f0 := free_of hq pre.length
      have q1 := heap_setCell_same wr w1.heap.size pre.length _ _ (.string (strOf a)) hq
      rw [row_set] at q1
      have Q1 := Lib.hid q1
      have CW := Lib.hid (HI.out.2.setCell (p := ⟨w1.heap.size, pre.length, none⟩) (.inr (Nat.le_refl _)) (.string (strOf a)))
      have z : ∃ u, wr.cell? ⟨w1.heap.size, pre.length, none⟩ = some u := ⟨.string (strOf []), by rw [cell_of hq]; simp [tv, List.replicate_succ]⟩
      obtain ⟨u, z⟩ := z
      have CI := Lib.hid (fun w => index_at w a b hno)
      have HQ := Lib.hid hcut
      have HPL := Lib.hid hpl
      clear hq q1 hcut hno hcb hpl
      go_wp2_with fail
      refine (CI.out _).mono ?_
      rintro e w2 ⟨rfl, rfl⟩
      go_wp2
      refine ⟨⟨pre ++ [a], b, ?_, by simp, ⟨by rw [← HQ.out]; simp, by omega, by have := HPL.out; simp; omega⟩, ⟨by have := Q1.out; simpa using this, CW.out⟩⟩, by simp [RowKit.intOf]; omega⟩
      first | rfl | (rw [e2]) | (simp only [ez, e2])
end
section
open Go.RowKit
set_option linter.unusedSimpArgs false
set_option linter.unusedVariables false
theorem cb_self : ∀ x : List UInt8, Lib.compareBytes x x = 0
  | [] => rfl
  | b :: x => by simp [Lib.compareBytes, UInt8.lt_irrefl, cb_self x]
theorem cb_zero : ∀ x y : List UInt8, Lib.compareBytes x y = 0 → x = y
  | [], [], _ => rfl
  | [], _ :: _, h => by simp [Lib.compareBytes] at h
  | _ :: _, [], h => by simp [Lib.compareBytes] at h
  | a :: x, b :: y, h => by
    unfold Lib.compareBytes at h
    split at h
    · simp at h
    · split at h
      · simp at h
      · rename_i h1 h2
        have : a = b := UInt8.le_antisymm (UInt8.not_lt.1 h2) (UInt8.not_lt.1 h1)
        rw [this, cb_zero x y h]
theorem cb_less : ∀ x y : List UInt8, Op.bytesLess x y = decide (Lib.compareBytes x y < 0)
  | [], [] => rfl
  | [], _ :: _ => rfl
  | _ :: _, [] => rfl
  | a :: x, b :: y => by
    unfold Op.bytesLess Lib.compareBytes
    by_cases h1 : a < b
    · simp [h1]
    · by_cases h2 : b < a
      · have : ¬ a = b := fun e => by rw [e] at h2; exact UInt8.lt_irrefl _ h2
        simp [h1, h2, this]
      · have : a = b := UInt8.le_antisymm (UInt8.not_lt.1 h2) (UInt8.not_lt.1 h1)
        subst this
        simp [h1, cb_less x y]
def cmpT : List (List UInt8) → List (List UInt8) → Int
  | [], [] => 0
  | [], _ :: _ => -1
  | _ :: _, [] => 1
  | x :: xs, y :: ys => if Lib.compareBytes x y = 0 then cmpT xs ys else Lib.compareBytes x y
theorem cmpT_self : ∀ xs : List (List UInt8), cmpT xs xs = 0
  | [] => rfl
  | x :: xs => by rw [cmpT, if_pos (cb_self x), cmpT_self xs]
theorem cmpT_at (xs ys : List (List UInt8)) (k : Nat) (h1 : k < xs.length) (h2 : k < ys.length) :
    cmpT (xs.drop k) (ys.drop k) = if Lib.compareBytes xs[k] ys[k] = 0 then cmpT (xs.drop (k + 1)) (ys.drop (k + 1)) else Lib.compareBytes xs[k] ys[k] := by
  rw [List.drop_eq_getElem_cons h1, List.drop_eq_getElem_cons h2, cmpT]
theorem cmpT_end1 (xs ys : List (List UInt8)) (k : Nat) (h1 : k < xs.length) (h2 : ys.length ≤ k) : cmpT (xs.drop k) (ys.drop k) = 1 := by
  rw [List.drop_eq_getElem_cons h1, List.drop_of_length_le h2]
  rfl
theorem cmpT_end0 (xs ys : List (List UInt8)) (k : Nat) (h1 : xs.length ≤ k) (h2 : ys.length ≤ k) : cmpT (xs.drop k) (ys.drop k) = 0 := by
  rw [List.drop_of_length_le h1, List.drop_of_length_le h2]
  rfl
theorem cmpT_endm (xs ys : List (List UInt8)) (k : Nat) (h1 : xs.length ≤ k) (h2 : k < ys.length) : cmpT (xs.drop k) (ys.drop k) = -1 := by
  rw [List.drop_of_length_le h1, List.drop_eq_getElem_cons h2]
  rfl
theorem stCompare_any (w : World) (x y : List UInt8) : Calls Tryz.prog 105 #[.string (strOf x), .string (strOf y)] w fun e w' => e = .returned (.int .i64 (Lib.compareBytes x y)) ∧ w' = w := by
  refine (Any.strings_Compare Tryz.lays106 (strOf x) (strOf y) w).mono ?_
  rintro e w' ⟨rfl, rfl⟩
  rw [strOf_data, strOf_data]
  exact ⟨rfl, rfl⟩
set_option maxRecDepth 100000 in
set_option maxHeartbeats 4000000 in
theorem compareFunc_any (w : World) (A B : Option Addr) (c d : Nat) (xs ys : List (List UInt8)) (h : RdK textTy w A xs.length xs) (h' : RdK textTy w B ys.length ys) (hx : xs.length ≤ 100000000) (hy : ys.length ≤ 100000000) :
    Calls Tryz.prog 103 #[.slice A xs.length c, .slice B ys.length d, .func (.func 105) #[] #[]] w fun e w' => e = .returned (.int .i64 (cmpT xs ys)) ∧ w' = w := by
  obtain ⟨R, hR⟩ : ∃ R, cmpT xs ys = R := ⟨_, rfl⟩
  rw [hR]
  have HA := Lib.hid h
  have HB := Lib.hid h'
  have HR := Lib.hid hR
  clear h h' hR
  go_enter Tryz.func103, Tryz.ntmps103
  go_wp2
  go_loopw [7, 8, 9, 10, 13] (fun v7 v8 v9 v10 v13 wr => ∃ k : Nat, k ≤ xs.length ∧ k ≤ ys.length ∧ v13 = .int .i64 (k : Int) ∧ Hid (cmpT (xs.drop k) (ys.drop k) = R) ∧ wr = w) (fun _ _ _ _ v13 _ => xs.length - (RowKit.intOf v13).toNat)
  case atStart => exact ⟨0, Nat.zero_le _, Nat.zero_le _, rfl, HR, rfl⟩
  case round =>
    obtain ⟨k, hk, hk2, rfl, HC, rfl⟩ := hrel
    have k1 : IntKind.i64.wrap ((k : Int) + 1) = (k : Int) + 1 := IntWalk.i64_in _ (by omega)
    have i0 : (0 : Int) ≤ (k : Int) := by omega
    by_cases hlt : k < xs.length
    · have i1 : (k : Int) < (xs.length : Int) := by omega
      obtain ⟨g, o, eA, _⟩ := HA.out.line (by omega)
      subst eA
      have ex := List.getElem?_eq_getElem hlt
      have z := textCells HA.out ex
      by_cases hlt2 : k < ys.length
      · have i2 : (k : Int) < (ys.length : Int) := by omega
        have i3 : ¬ ((ys.length : Int) ≤ (k : Int)) := by omega
        obtain ⟨g2, o2, eB, _⟩ := HB.out.line (by omega)
        subst eB
        have ey := List.getElem?_eq_getElem hlt2
        have z2 := textCells HB.out ey
        have HT := Lib.hid (cmpT_at xs ys k hlt hlt2)
        generalize xs[k] = x at *
        generalize ys[k] = y at *
        have CS := Lib.hid (fun w => stCompare_any w x y)
        generalize Lib.compareBytes x y = q at *
        clear ex ey
        by_cases hq : q = 0
        · have HQ := Lib.hid (HC.out.symm.trans (HT.out.trans (if_pos hq)))
          subst hq
          go_wp2_with fail
          refine (CS.out _).mono ?_
          rintro e w2 ⟨rfl, rfl⟩
          go_wp2
          exact ⟨⟨k + 1, by omega, by omega, by simp, Lib.hid HQ.out.symm, trivial⟩, by simp [RowKit.intOf]; omega⟩
        · have HQ := Lib.hid (HC.out.symm.trans (HT.out.trans (if_neg hq)))
          go_wp2_with fail
          refine (CS.out _).mono ?_
          rintro e w2 ⟨rfl, rfl⟩
          go_wp2
          go_ret
          exact ⟨congrArg (fun v => Ending.returned (Value.int .i64 v)) HQ.out.symm, rfl⟩
      · have i3 : ((ys.length : Int) ≤ (k : Int)) := by omega
        have HQ := Lib.hid (HC.out.symm.trans (cmpT_end1 xs ys k hlt (by omega)))
        generalize xs[k] = x at *
        go_wp2
        go_ret
        exact ⟨congrArg (fun v => Ending.returned (Value.int .i64 v)) HQ.out.symm, rfl⟩
    · have i1 : ¬ ((k : Int) < (xs.length : Int)) := by omega
      by_cases hl2 : xs.length < ys.length
      · have i4 : (xs.length : Int) < (ys.length : Int) := by omega
        have HQ := Lib.hid (HC.out.symm.trans (cmpT_endm xs ys k (by omega) (by omega)))
        go_wp2
        go_ret
        exact ⟨congrArg (fun v => Ending.returned (Value.int .i64 v)) HQ.out.symm, rfl⟩
      · have i4 : ¬ ((xs.length : Int) < (ys.length : Int)) := by omega
        have HQ := Lib.hid (HC.out.symm.trans (cmpT_end0 xs ys k (by omega) (by omega)))
        go_wp2
        go_ret
        exact ⟨congrArg (fun v => Ending.returned (Value.int .i64 v)) HQ.out.symm, rfl⟩
theorem split_any (w : World) (l : List UInt8) (hlen : l.length ≤ 10000000) :
    Calls Tryz.prog 104 #[.string (strOf l), .string ⟨#[47]⟩] w fun e w' => e = .returned (.slice (some ⟨w.heap.size, 0, none⟩) (cutL l).length (cutL l).length) ∧ w'.heap[w.heap.size]? = some (.cells ((cutL l).map tv).toArray 9 (0, 0)) ∧ Chg [] w w' := by
  have CG := Lib.hid (fun w => genSplit_any w l hlen)
  generalize cutL l = xs at *
  go_enter Tryz.func104, Tryz.ntmps104
  go_wp2_with fail
  refine (CG.out _).mono ?_
  rintro e w1 ⟨rfl, hq, hc⟩
  have HQ := Lib.hid hq
  clear hq
  go_wp2
  go_ret
  exact ⟨rfl, HQ.out, hc⟩
theorem rd_text {w : World} {g : Nat} {xs : List (List UInt8)} (h : w.heap[g]? = some (.cells (xs.map tv).toArray 9 (0, 0))) (hm : xs.length ≤ maxLen) : RdK textTy w (some ⟨g, 0, none⟩) xs.length xs := by
  rw [← flat_text] at h
  exact (OwnK.of (R := textTy) (c := xs.length) (full := xs) (xs := xs) h (Nat.le_refl _) hm rfl (List.take_length ..)).reads
def lessL (a b : List UInt8) : Bool := decide (cmpT (cutL a) (cutL b) < 0)
set_option maxHeartbeats 2000000 in
theorem phcompare_any (w : World) (a b : List UInt8) (ha : a.length ≤ 10000000) (hb : b.length ≤ 10000000) :
    Calls Tryz.prog 75 #[.string (strOf a), .string (strOf b)] w fun e w' => e = .returned (.int .i64 (cmpT (cutL a) (cutL b))) ∧ Chg [] w w' := by
  by_cases hab : a = b
  · subst hab
    rw [cmpT_self]
    have h1 : (a == a) = true := by simp
    go_enter Tryz.func75, Tryz.ntmps75
    go_wp2
    go_ret
    exact ⟨rfl, Chg.refl _ _⟩
  · have h1 : (a == b) = false := by simpa using hab
    have h2 := str_ne hab
    have S1 := Lib.hid (fun w => split_any w a ha)
    have S2 := Lib.hid (fun w => split_any w b hb)
    have L1 := Lib.hid (show (cutL a).length ≤ 100000000 by have := cutA_len a []; show (cutA [] a).length ≤ _; omega)
    have L2 := Lib.hid (show (cutL b).length ≤ 100000000 by have := cutA_len b []; show (cutA [] b).length ≤ _; omega)
    generalize cutL a = xs at *
    generalize cutL b = ys at *
    go_enter Tryz.func75, Tryz.ntmps75
    go_wp2_with fail
    refine (S1.out _).mono ?_
    rintro e w1 ⟨rfl, hq1, hc1⟩
    have Q1 := Lib.hid hq1
    have C1 := Lib.hid hc1
    have hg := lt_of_heap hq1
    clear hq1 hc1
    go_wp2_with fail
    refine (S2.out _).mono ?_
    rintro e w2 ⟨rfl, hq2, hc2⟩
    have RA := Lib.hid (rd_text (hc2.at_ Q1.out (by simp)) (by have := L1.out; unfold maxLen; omega))
    have RB := Lib.hid (rd_text hq2 (by have := L2.out; unfold maxLen; omega))
    have C2 := Lib.hid (C1.out.trans hc2)
    clear hq2 hc2
    go_wp2_with fail
    refine (compareFunc_any _ _ _ _ _ xs ys RA.out RB.out L1.out L2.out).mono ?_
    rintro e w3 ⟨rfl, rfl⟩
    go_wp2
    go_ret
    exact ⟨rfl, C2.out⟩
theorem phless_any (w : World) (a b : List UInt8) (ha : a.length ≤ 10000000) (hb : b.length ≤ 10000000) :
    Calls Tryz.prog 32 #[.string (strOf a), .string (strOf b)] w fun e w' => e = .returned (.bool (lessL a b)) ∧ Chg [] w w' := by
  have CC := Lib.hid (fun w => phcompare_any w a b ha hb)
  unfold lessL
  generalize cmpT (cutL a) (cutL b) = q at *
  go_enter Tryz.func32, Tryz.ntmps32
  go_wp2_with fail
  refine (CC.out _).mono ?_
  rintro e w1 ⟨rfl, hc⟩
  go_wp2
  go_ret
  exact ⟨rfl, hc⟩
end
section
theorem cb_anti : ∀ x y : List UInt8, Lib.compareBytes y x = - Lib.compareBytes x y
  | [], [] => rfl
  | [], _ :: _ => rfl
  | _ :: _, [] => rfl
  | a :: x, b :: y => by
    unfold Lib.compareBytes
    by_cases h1 : a < b
    · have h2 : ¬ b < a := fun h => UInt8.lt_irrefl _ (UInt8.lt_trans h1 h)
      simp [h1, h2]
    · by_cases h2 : b < a
      · simp [h1, h2]
      · simp [h1, h2, cb_anti x y]
theorem cb_trans : ∀ x y z : List UInt8, Lib.compareBytes x y < 0 → Lib.compareBytes y z < 0 → Lib.compareBytes x z < 0
  | [], [], _, h, _ => by simp [Lib.compareBytes] at h
  | _ :: _, [], _, h, _ => by simp [Lib.compareBytes] at h
  | _, _ :: _, [], _, h => by simp [Lib.compareBytes] at h
  | [], _ :: _, _ :: _, _, _ => by simp [Lib.compareBytes]
  | a :: x, b :: y, c :: z, h, k => by
    unfold Lib.compareBytes at h k ⊢
    by_cases h1 : a < b
    · by_cases k1 : b < c
      · rw [if_pos (UInt8.lt_trans h1 k1)]; decide
      · rw [if_neg k1] at k
        by_cases k2 : c < b
        · rw [if_pos k2] at k; exact absurd k (by decide)
        · have : b = c := UInt8.le_antisymm (UInt8.not_lt.1 k2) (UInt8.not_lt.1 k1)
          subst this
          rw [if_pos h1]; decide
    · rw [if_neg h1] at h
      by_cases h2 : b < a
      · rw [if_pos h2] at h; exact absurd h (by decide)
      · have : a = b := UInt8.le_antisymm (UInt8.not_lt.1 h2) (UInt8.not_lt.1 h1)
        subst this
        rw [if_neg h2] at h
        by_cases k1 : a < c
        · rw [if_pos k1]; decide
        · rw [if_neg k1] at k ⊢
          by_cases k2 : c < a
          · rw [if_pos k2] at k; exact absurd k (by decide)
          · rw [if_neg k2] at k ⊢
            exact cb_trans x y z h k
theorem cmpT_anti : ∀ xs ys : List (List UInt8), cmpT ys xs = - cmpT xs ys
  | [], [] => rfl
  | [], _ :: _ => rfl
  | _ :: _, [] => rfl
  | x :: xs, y :: ys => by
    unfold cmpT
    rw [cb_anti x y, cmpT_anti xs ys]
    by_cases h : Lib.compareBytes x y = 0
    · rw [if_pos h, if_pos (by omega)]
    · rw [if_neg h, if_neg (by omega)]
theorem cmpT_zero : ∀ xs ys : List (List UInt8), cmpT xs ys = 0 → xs = ys
  | [], [], _ => rfl
  | [], _ :: _, h => by simp [cmpT] at h
  | _ :: _, [], h => by simp [cmpT] at h
  | x :: xs, y :: ys, h => by
    unfold cmpT at h
    split at h
    · rename_i h0
      rw [cb_zero x y h0, cmpT_zero xs ys h]
    · exact absurd h ‹_›
theorem cmpT_trans : ∀ xs ys zs : List (List UInt8), cmpT xs ys < 0 → cmpT ys zs < 0 → cmpT xs zs < 0
  | [], [], _, h, _ => by simp [cmpT] at h
  | _ :: _, [], _, h, _ => by simp [cmpT] at h
  | _, _ :: _, [], _, h => by simp [cmpT] at h
  | [], _ :: _, _ :: _, _, _ => by simp [cmpT]
  | x :: xs, y :: ys, z :: zs, h, k => by
    unfold cmpT at h k ⊢
    by_cases h0 : Lib.compareBytes x y = 0
    · have := cb_zero x y h0
      subst this
      rw [if_pos h0] at h
      by_cases k0 : Lib.compareBytes x z = 0
      · rw [if_pos k0] at k ⊢
        exact cmpT_trans xs ys zs h k
      · rw [if_neg k0] at k ⊢
        exact k
    · rw [if_neg h0] at h
      by_cases k0 : Lib.compareBytes y z = 0
      · have := cb_zero y z k0
        subst this
        rw [if_neg h0]
        exact h
      · rw [if_neg k0] at k
        have := cb_trans x y z h k
        rw [if_neg (by omega)]
        exact this
theorem cmpT_pre : ∀ (xs zs : List (List UInt8)), zs ≠ [] → cmpT xs (xs ++ zs) < 0
  | [], z :: zs, _ => by simp [cmpT]
  | x :: xs, zs, h => by
    rw [List.cons_append, cmpT, if_pos (cb_self x)]
    exact cmpT_pre xs zs h
/-- Parts with the byte 47 between. -/
def unc : List (List UInt8) → List UInt8
  | [] => []
  | [x] => x
  | x :: y :: r => x ++ 47 :: unc (y :: r)
theorem unc_cons (x : List UInt8) (r : List (List UInt8)) (h : r ≠ []) : unc (x :: r) = x ++ 47 :: unc r := by
  cases r with
  | nil => exact absurd rfl h
  | cons y r => rfl
theorem unc_cut : ∀ (l acc : List UInt8), unc (cutA acc l) = acc ++ l
  | [], acc => by simp [cutA, unc]
  | b :: l, acc => by
    unfold cutA
    split
    · rename_i h
      rw [unc_cons _ _ (cutA_ne _ _), unc_cut l [], h]
      rfl
    · rw [unc_cut l _, List.append_assoc]
      rfl
theorem unc_app : ∀ (xs zs : List (List UInt8)), xs ≠ [] → zs ≠ [] → unc (xs ++ zs) = unc xs ++ 47 :: unc zs
  | [], _, h, _ => absurd rfl h
  | [x], zs, _, h => by rw [List.singleton_append, unc_cons x zs h]; rfl
  | x :: y :: r, zs, _, h => by
    rw [List.cons_append, unc_cons x _ (by simp), unc_app (y :: r) zs (by simp) h, unc_cons x (y :: r) (by simp), List.append_assoc]
    rfl
theorem cut_inj {a b : List UInt8} (h : cutL a = cutL b) : a = b := by
  have h1 := unc_cut a []
  have h2 := unc_cut b []
  rw [show cutA [] a = cutL a from rfl, h] at h1
  rw [show cutA [] b = cutL b from rfl] at h2
  rw [h2] at h1
  exact h1.symm
theorem cutA_app : ∀ (a acc t : List UInt8), cutA acc (a ++ 47 :: t) = cutA acc a ++ cutA [] t
  | [], acc, t => by simp [cutA]
  | x :: a, acc, t => by
    rw [List.cons_append]
    by_cases h : x = 47
    · have e1 : cutA acc (x :: (a ++ 47 :: t)) = acc :: cutA [] (a ++ 47 :: t) := by rw [cutA, if_pos h]
      have e2 : cutA acc (x :: a) = acc :: cutA [] a := by rw [cutA, if_pos h]
      rw [e1, e2, cutA_app a [] t]
      rfl
    · have e1 : cutA acc (x :: (a ++ 47 :: t)) = cutA (acc ++ [x]) (a ++ 47 :: t) := by rw [cutA, if_neg h]
      have e2 : cutA acc (x :: a) = cutA (acc ++ [x]) a := by rw [cutA, if_neg h]
      rw [e1, e2]
      exact cutA_app a _ t
theorem pre_cut {a b : List UInt8} (h : (a ++ [47]).isPrefixOf b = true) : ∃ zs, zs ≠ [] ∧ cutL b = cutL a ++ zs := by
  rw [List.isPrefixOf_iff_prefix] at h
  obtain ⟨t, rfl⟩ := h
  exact ⟨cutL t, cutA_ne _ _, by rw [List.append_assoc]; exact cutA_app a [] t⟩
theorem cut_pre {a b : List UInt8} {zs : List (List UInt8)} (hz : zs ≠ []) (h : cutL b = cutL a ++ zs) : (a ++ [47]).isPrefixOf b = true := by
  rw [List.isPrefixOf_iff_prefix]
  have h2 := unc_cut b []
  rw [show cutA [] b = cutL b from rfl, h, unc_app (cutL a) zs (cutA_ne [] a) hz, show cutL a = cutA [] a from rfl, unc_cut a [], List.nil_append, List.nil_append] at h2
  exact ⟨unc zs, by rw [← h2]; simp⟩
theorem less_self (a : List UInt8) : lessL a a = false := by simp [lessL, cmpT_self]
theorem less_not (a b : List UInt8) (h : lessL a b = true) : lessL b a = false := by
  simp only [lessL, decide_eq_true_eq, decide_eq_false_iff_not] at h ⊢
  rw [cmpT_anti (cutL a) (cutL b)]
  omega
theorem less_eq (a b : List UInt8) : (a == b) = (!lessL a b && !lessL b a) := by
  rw [Bool.eq_iff_iff]
  simp only [beq_iff_eq, lessL, Bool.and_eq_true, Bool.not_eq_true', decide_eq_false_iff_not]
  rw [cmpT_anti (cutL a) (cutL b)]
  constructor
  · rintro rfl
    rw [cmpT_self]
    omega
  · rintro ⟨h1, h2⟩
    exact cut_inj (cmpT_zero _ _ (by omega))
theorem less_trans (a b c : List UInt8) (h : lessL a b = true) (k : lessL b c = true) : lessL a c = true := by
  simp only [lessL, decide_eq_true_eq] at h k ⊢
  exact cmpT_trans _ _ _ h k
theorem under_less (a b : List UInt8) (h : underL a b = true) : lessL a b = true := by
  unfold underL at h
  simp only [Bool.and_eq_true] at h
  obtain ⟨zs, hz, e⟩ := pre_cut h.2
  simp only [lessL, decide_eq_true_eq, e]
  exact cmpT_pre _ _ hz
end
section
open Go.RowKit
set_option linter.unusedSimpArgs false
set_option linter.unusedVariables false
/-- The last byte 47 of a text, if there is one. -/
theorem last47 (l : List UInt8) : (47 ∉ l ∧ Lib.lastIndexByte (strOf l) 47 = -1) ∨ ∃ a b, l = a ++ 47 :: b ∧ 47 ∉ b ∧ Lib.lastIndexByte (strOf l) 47 = (a.length : Int) := by
  have hg : ∀ j, (h : j < l.length) → (strOf l).data[j]! = l[j] := by
    intro j h
    have : j < (strOf l).data.size := by rw [show (strOf l).data.size = (strOf l).size from rfl, strOf_size]; exact h
    rw [getElem!_pos (strOf l).data j this]
    simp [strOf]
  have hz := strOf_size l
  unfold Lib.lastIndexByte
  rw [hz]
  rcases Lib.lastIdx_spec (strOf l) 47 l.length with ⟨h1, h2⟩ | ⟨i, h1, h2, h3, h4⟩
  · left
    refine ⟨fun hm => ?_, h1⟩
    obtain ⟨j, hj, e⟩ := List.getElem_of_mem hm
    apply h2 j hj
    rw [hg j hj, e]
    rfl
  · right
    refine ⟨l.take i, l.drop (i + 1), ?_, ?_, ?_⟩
    · have e : l[i] = 47 := by
        rw [hg i h1] at h3
        apply UInt8.toNat_inj.1
        rw [show (47 : UInt8).toNat = 47 from rfl]
        omega
      conv => lhs; rw [← List.take_append_drop i l, List.drop_eq_getElem_cons h1, e]
    · intro hm
      obtain ⟨j, hj, e⟩ := List.getElem_of_mem hm
      rw [List.length_drop] at hj
      have hj2 : i + 1 + j < l.length := by omega
      apply h4 (i + 1 + j) (by omega) hj2
      rw [hg _ hj2]
      rw [List.getElem_drop] at e
      rw [e]
      rfl
    · rw [h2, List.length_take, Nat.min_eq_left (by omega)]
theorem lastIndex_any (w : World) (l : List UInt8) (hl : l.length ≤ 140737488351232) (R : Int) (hR : Lib.lastIndexByte (strOf l) 47 = R) :
    Calls Tryz.prog 85 #[.string (strOf l), .string ⟨#[47]⟩] w fun e w' => e = .returned (.int .i64 R) ∧ w' = w := by
  refine (Any.strings_LastIndex_one Tryz.lays148 (strOf l) ⟨#[47]⟩ rfl (by rw [strOf_size]; omega) w).mono ?_
  rintro e w' ⟨rfl, h⟩
  refine ⟨?_, h⟩
  rw [← hR]
  rfl
theorem cut_last (a b : List UInt8) (hb : 47 ∉ b) : cutL (a ++ 47 :: b) = cutL a ++ [b] := by
  show cutA [] (a ++ 47 :: b) = _
  rw [cutA_app, cutA_no b [] hb]
  rfl
theorem cut_one (l : List UInt8) (h : 47 ∉ l) : cutL l = [l] := by
  show cutA [] l = _
  rw [cutA_no l [] h]
  rfl
def parentL (l : List UInt8) : List UInt8 := if okP l && decide (2 ≤ (cutL l).length) then unc (cutL l).dropLast else []
def hasParent (l : List UInt8) : Bool := okP l && decide (2 ≤ (cutL l).length)
def baseL (l : List UInt8) : List UInt8 := if okP l then (cutL l).getLast (cutA_ne [] l) else []
set_option maxHeartbeats 2000000 in
theorem phparent_any (w : World) (l : List UInt8) (hl : l.length ≤ 140737488351232) :
    Calls Tryz.prog 43 #[.string (strOf l)] w fun e w' => e = .returned (.tuple #[.string (strOf (parentL l)), .bool (hasParent l)]) ∧ Below w.heap.size w w' := by
  have CP := Lib.hid (fun w => isPath_any w l hl)
  rcases last47 l with ⟨h1, h2⟩ | ⟨a, b, rfl, h1, h2⟩
  · have hp : hasParent l = false := by unfold hasParent; rw [cut_one l h1]; simp
    have hq : parentL l = [] := by unfold parentL; rw [cut_one l h1]; simp
    rw [hp, hq]
    have CL := Lib.hid (fun w => lastIndex_any w l hl _ h2)
    clear h1 h2 hp hq
    go_enter Tryz.func43, Tryz.ntmps43
    go_wp2_with fail
    refine (CL.out _).mono ?_
    rintro e w1 ⟨rfl, rfl⟩
    go_wp2
    go_ret2
    exact ⟨rfl, Below.refl _ _⟩
  · have hlen : a.length + 1 + b.length ≤ 140737488351232 := by simp at hl; omega
    have ez : (strOf (a ++ 47 :: b)).size = a.length + 1 + b.length := by rw [strOf_size]; simp; omega
    have CL := Lib.hid (fun w => lastIndex_any w (a ++ 47 :: b) hl _ h2)
    have h2l : 2 ≤ (cutL (a ++ 47 :: b)).length := by
      rw [cut_last a b h1, List.length_append]
      have := List.length_pos_iff.2 (cutA_ne [] a)
      show 2 ≤ (cutA [] a).length + 1
      omega
    have hu : unc (cutL (a ++ 47 :: b)).dropLast = a := by
      rw [cut_last a b h1, List.dropLast_concat]
      exact unc_cut a []
    have hp : hasParent (a ++ 47 :: b) = okP (a ++ 47 :: b) := by unfold hasParent; simp [h2l]
    have hq : parentL (a ++ 47 :: b) = if okP (a ++ 47 :: b) then a else [] := by unfold parentL; simp [h2l, hu]
    rw [hp, hq]
    have i0 : ¬ ((a.length : Int) < 0) := by omega
    have i1 : (0 : Int) ≤ (a.length : Int) := by omega
    have i2 : (a.length : Int) ≤ ((strOf (a ++ 47 :: b)).size : Int) := by rw [ez]; omega
    have e1 : (strOf (a ++ 47 :: b)).extract 0 a.length = strOf a := by rw [strOf_ext]; simp
    generalize okP (a ++ 47 :: b) = p at *
    clear h2l hu hp hq h1 h2 hl
    cases p
    · go_enter Tryz.func43, Tryz.ntmps43
      go_wp2_with fail
      refine (CL.out _).mono ?_
      rintro e w1 ⟨rfl, rfl⟩
      go_wp2_with fail
      refine (CP.out _).mono ?_
      rintro e w2 ⟨rfl, hb⟩
      go_wp2
      go_ret2
      exact ⟨rfl, hb⟩
    · go_enter Tryz.func43, Tryz.ntmps43
      go_wp2_with fail
      refine (CL.out _).mono ?_
      rintro e w1 ⟨rfl, rfl⟩
      go_wp2_with fail
      refine (CP.out _).mono ?_
      rintro e w2 ⟨rfl, hb⟩
      go_wp2
      go_ret2
      exact ⟨rfl, hb⟩
end
section
open Go.RowKit Go.Shelf
set_option linter.unusedSimpArgs false
set_option linter.unusedVariables false
theorem unc_snoc (xs : List (List UInt8)) (x : List UInt8) (h : xs ≠ []) : unc (xs ++ [x]) = unc xs ++ 47 :: x := unc_app xs [x] h (by simp)
def partsL (xs : List (List UInt8)) : Bool := xs.all (partL 12) && decide (1 ≤ xs.length) && decide (xs.length ≤ 6)
theorem part_no47 {x : List UInt8} (h : partL 12 x = true) : 47 ∉ x := by
  intro hm
  have : x.all okB = true := by
    unfold partL at h
    simp only [Bool.and_eq_true] at h
    exact h.1.1.1.1
  have := List.all_eq_true.1 this 47 hm
  exact absurd this (by decide)
theorem cut_unc : ∀ xs : List (List UInt8), xs ≠ [] → (∀ x ∈ xs, 47 ∉ x) → cutL (unc xs) = xs
  | [], h, _ => absurd rfl h
  | [x], _, h => cut_one x (h x (by simp))
  | x :: y :: r, _, h => by
    rw [unc_cons x (y :: r) (by simp)]
    show cutA [] (x ++ 47 :: unc (y :: r)) = _
    rw [cutA_at x [] _ (h x (by simp)), List.nil_append, show cutA [] (unc (y :: r)) = cutL (unc (y :: r)) from rfl, cut_unc (y :: r) (by simp) (fun z hz => h z (List.mem_cons_of_mem _ hz))]
/-- Parts that may be joined are split as they were. -/
theorem parts_cut {xs : List (List UInt8)} (h : partsL xs = true) : cutL (unc xs) = xs ∧ okP (unc xs) = true := by
  have hz : (xs.all (partL 12) = true ∧ 1 ≤ xs.length) ∧ xs.length ≤ 6 := by simpa [partsL] using h
  obtain ⟨⟨ha, h1⟩, h6⟩ := hz
  have hc := cut_unc xs (by intro e; rw [e] at h1; simp at h1) (fun x hx => part_no47 (List.all_eq_true.1 ha x hx))
  refine ⟨hc, ?_⟩
  unfold okP checkL
  rw [hc, ha]
  simp [h6]
/-- A path's parts may be joined. -/
theorem ok_parts {l : List UInt8} (h : okP l = true) : partsL (cutL l) = true ∧ unc (cutL l) = l := by
  unfold okP checkL at h
  simp only [Bool.and_eq_true, decide_eq_true_eq] at h
  refine ⟨?_, unc_cut l []⟩
  unfold partsL
  have := List.length_pos_iff.2 (cutA_ne [] l)
  have h1 : 1 ≤ (cutL l).length := this
  rw [h.2]
  simp [h.1, h1]
/-- A path that has a parent is the parent, the byte 47 and its last part. -/
theorem parent_base {l : List UInt8} (h : hasParent l = true) : parentL l ++ 47 :: baseL l = l ∧ underL (parentL l) l = true := by
  unfold hasParent at h
  simp only [Bool.and_eq_true, decide_eq_true_eq] at h
  have hne : cutL l ≠ [] := cutA_ne [] l
  have hp : parentL l = unc (cutL l).dropLast := by unfold parentL; simp [h.1, h.2]
  have hb : baseL l = (cutL l).getLast hne := by unfold baseL; rw [if_pos h.1]
  have hd : (cutL l).dropLast ≠ [] := by
    intro e
    have := congrArg List.length e
    rw [List.length_dropLast] at this
    simp at this
    omega
  have e1 : (cutL l).dropLast ++ [(cutL l).getLast hne] = cutL l := List.dropLast_concat_getLast hne
  have e2 : unc (cutL l) = l := unc_cut l []
  have key : parentL l ++ 47 :: baseL l = l := by
    rw [hp, hb, ← unc_snoc _ _ hd, e1, e2]
  refine ⟨key, ?_⟩
  obtain ⟨hpl, _⟩ := ok_parts h.1
  have hz : ((cutL l).all (partL 12) = true ∧ 1 ≤ (cutL l).length) ∧ (cutL l).length ≤ 6 := by simpa [partsL] using hpl
  have hall : (cutL l).dropLast.all (partL 12) = true := by
    rw [List.all_eq_true]
    intro x hx
    exact List.all_eq_true.1 hz.1.1 x (List.dropLast_subset _ hx)
  have hpd : partsL (cutL l).dropLast = true := by
    unfold partsL
    rw [hall, List.length_dropLast]
    have h2 := h.2
    simp
    omega
  unfold underL
  rw [hp, (parts_cut hpd).2, h.1]
  have h3 : (unc (cutL l).dropLast ++ [47]).isPrefixOf l = true := by
    rw [List.isPrefixOf_iff_prefix]
    refine ⟨baseL l, ?_⟩
    rw [← hp]
    have := key
    simpa using this
  rw [h3]
  rfl
end
section
open Go.RowKit

/-- Which of two numbers is less: -1, 0, 1. -/
def cmpI (a b : Int) : Int := if a < b then -1 else if b < a then 1 else 0

set_option maxHeartbeats 400000 in
theorem isnan_any (x : Int) (w : World) : Calls Tryz.prog 135 #[.int .i64 x] w fun e w' => e = .returned (.bool false) ∧ w = w' := by
  have h : (x != x) = false := by simp
  go_enter Tryz.func135, Tryz.ntmps135
  go_wp2
  go_ret
  exact ⟨rfl, rfl⟩
set_option maxHeartbeats 400000 in
theorem cmpint_any (a b : Int) (w : World) : Calls Tryz.prog 115 #[.int .i64 a, .int .i64 b] w fun e w' => e = .returned (.int .i64 (cmpI a b)) ∧ w = w' := by
  unfold cmpI
  rcases Int.lt_trichotomy a b with h | h | h
  · rw [if_pos h]
    go_enter Tryz.func115, Tryz.ntmps115
    go_wp2_with (go_at_call 135; refine (isnan_any _ _).mono ?_; rintro e w' ⟨rfl, rfl⟩)
    go_ret
    exact ⟨rfl, rfl⟩
  · subst h
    rw [if_neg (by omega), if_neg (by omega)]
    go_enter Tryz.func115, Tryz.ntmps115
    go_wp2_with (go_at_call 135; refine (isnan_any _ _).mono ?_; rintro e w' ⟨rfl, rfl⟩)
    go_ret
    exact ⟨rfl, rfl⟩
  · rw [if_neg (by omega), if_pos h]
    have h' : ¬ a < b := by omega
    go_enter Tryz.func115, Tryz.ntmps115
    go_wp2_with (go_at_call 135; refine (isnan_any _ _).mono ?_; rintro e w' ⟨rfl, rfl⟩)
    go_ret
    exact ⟨rfl, rfl⟩

/-- What the model's reader of bytes reads. -/
theorem run_loadBs (w : World) {A : Option Addr} {n c : Nat} {xs : List UInt8} (h : Bs w A n xs) :
    (Extern.Bytes.bytesOf (.slice A n c)).run Tryz.prog w = .ok ⟨xs.toArray⟩ w := by
  have hl := h.len
  subst hl
  rcases A with _ | a
  · have hx : xs = [] := by
      cases xs with
      | nil => rfl
      | cons y ys => obtain ⟨a, h, _⟩ := h.cells 0 y rfl; cases h
    subst hx
    simp [Extern.Bytes.bytesOf]
    rfl
  · have e := Lib.run_loadBytesX (P := Tryz.prog) w (xs.map (fun c => (c.toNat : Int))) a .empty (fun j x hj => by
      rw [List.getElem?_map, Option.map_eq_some_iff] at hj
      obtain ⟨c, hc, rfl⟩ := hj
      obtain ⟨a', ea, h2⟩ := h.cells j c hc
      cases ea
      exact h2)
    rw [List.length_map] at e
    have eb : Lib.bytesOf (xs.map (fun c => (c.toNat : Int))) = xs := by
      unfold Lib.bytesOf
      rw [List.map_map]
      have : ((fun n : Int => UInt8.ofNat n.toNat) ∘ fun c : UInt8 => (c.toNat : Int)) = id := by
        funext c
        simp
      rw [this, List.map_id]
    rw [eb] at e
    show (Extern.Bytes.loadBytes a xs.length .empty).run Tryz.prog w = _
    rw [e]
    congr 1
    apply ByteArray.ext
    show (#[] : Array UInt8) ++ xs.toArray = xs.toArray
    simp

theorem run_bcmp (w : World) {A B : Option Addr} {n m c d : Nat} {xs ys : List UInt8} (h : Bs w A n xs) (k : Bs w B m ys) :
    (callFunc 136 #[.slice A n c, .slice B m d]).run Tryz.prog w = .ok (.value (.int .i64 (Lib.compareBytes xs ys))) w := by
  rw [run_callFunc_extern (e := Extern.BytealgCompare.compare) Tryz.func136 (by kernel_rfl) (by kernel_rfl) (by kernel_rfl) (by kernel_rfl)]
  have e : (Extern.BytealgCompare.compare #[.slice A n c, .slice B m d]).run Tryz.prog w = .ok (.int .i64 (Lib.compareBytes xs ys)) w := by
    change Sem.run Tryz.prog (do pure (goInt (Extern.BytealgCompare.cmp (← Extern.Bytes.bytesOf (.slice A n c)) (← Extern.Bytes.bytesOf (.slice B m d))))) w = _
    simp only [Sem.run_bind, run_loadBs w h, run_loadBs w k, Result.andThen, Sem.run_pure]
    rw [Lib.cmp_eq]
    simp [goInt]
  rw [e]
  rfl
set_option maxHeartbeats 400000 in
theorem bcmp_any (w : World) (A B : Option Addr) (n m c d : Nat) (xs ys : List UInt8) (h : Bs w A n xs) (k : Bs w B m ys) :
    Calls Tryz.prog 116 #[.slice A n c, .slice B m d] w fun e w' => e = .returned (.int .i64 (Lib.compareBytes xs ys)) ∧ w = w' := by
  have e := run_bcmp w (c := c) (d := d) h k
  clear h k
  go_enter Tryz.func116, Tryz.ntmps116
  go_wp2
  go_ret
  exact ⟨rfl, rfl⟩

/-- The first of three numbers that is none 0. -/
def or3 (a b c : Int) : Int := if a ≠ 0 then a else if b ≠ 0 then b else c
set_option maxHeartbeats 1000000 in
theorem or3_any (w : World) (g : Nat) (a b c : Int) (h : w.heap[g]? = some (.cells #[.int .i64 a, .int .i64 b, .int .i64 c] 122 (0, 0))) :
    Calls Tryz.prog 117 #[.slice (some ⟨g, 0, none⟩) 3 3] w fun e w' => e = .returned (.int .i64 (or3 a b c)) ∧ w = w' := by
  have k0 := cell_of h 0
  have k1 := cell_of h 1
  have k2 := cell_of h 2
  simp only [List.getElem?_toArray, List.getElem?_cons_succ, List.getElem?_cons_zero] at k0 k1 k2
  have H := Lib.hid h
  clear h H
  unfold or3
  by_cases ha : a = 0
  · subst ha
    by_cases hb : b = 0
    · subst hb
      by_cases hc : c = 0
      · subst hc
        go_enter Tryz.func117, Tryz.ntmps117
        go_wp2
        refine wp_loop_rounds 4 ?_
        rw [rounds_succ]
        go_wp2
        rw [rounds_succ]
        go_wp2
        rw [rounds_succ]
        go_wp2
        rw [rounds_succ]
        go_wp2
        go_ret
        exact ⟨rfl, rfl⟩
      · have hc' : (c != 0) = true := by simpa using hc
        go_enter Tryz.func117, Tryz.ntmps117
        go_wp2
        refine wp_loop_rounds 3 ?_
        rw [rounds_succ]
        go_wp2
        rw [rounds_succ]
        go_wp2
        rw [rounds_succ]
        go_wp2
        go_ret
        exact ⟨rfl, rfl⟩
    · have hb' : (b != 0) = true := by simpa using hb
      rw [if_neg (by simp), if_pos hb]
      clear hb
      go_enter Tryz.func117, Tryz.ntmps117
      go_wp2
      refine wp_loop_rounds 2 ?_
      rw [rounds_succ]
      go_wp2
      rw [rounds_succ]
      go_wp2
      go_ret
      exact ⟨rfl, rfl⟩
  · have ha' : (a != 0) = true := by simpa using ha
    rw [if_pos ha]
    clear ha
    go_enter Tryz.func117, Tryz.ntmps117
    go_wp2
    refine wp_loop_rounds 1 ?_
    rw [rounds_succ]
    go_wp2
    go_ret
    exact ⟨rfl, rfl⟩
end
section
open Go.RowKit

set_option maxHeartbeats 400000 in
theorem kinds_any (w : World) : Calls Tryz.prog 110 #[] w fun e w' => e = .returned (.agg #[.bool false, .int .i64 0, .int .i64 0, .bool true, .int .i64 511, .int .i64 1000, .bool true, .int .i64 511, .int .i64 0, .bool true, .int .i64 0, .int .i64 0]) ∧ Chg [] w w' := by
  go_enter Tryz.func110, Tryz.ntmps110
  go_wp2
  refine bodyPost_ret (v := .agg #[.bool false, .int .i64 0, .int .i64 0, .bool true, .int .i64 511, .int .i64 1000, .bool true, .int .i64 511, .int .i64 0, .bool true, .int .i64 0, .int .i64 0]) (by simp [results, Tryz.results110, go_sem]) rfl ?_
  exact ⟨rfl, (Chg.refl _ _).alloc _⟩

/-- Which effects may be. -/
def Fine (k m : Int) (n : Nat) : Prop := k = 1 ∧ 0 ≤ m ∧ m ≤ 511 ∧ n ≤ 1000 ∨ k = 2 ∧ 0 ≤ m ∧ m ≤ 511 ∧ n = 0 ∨ k = 3 ∧ m = 0 ∧ n = 0
instance (k m : Int) (n : Nat) : Decidable (Fine k m n) := by unfold Fine; exact inferInstance
/-- Why an effect may not be. -/
def chkE (k m : Int) (n : Nat) : Int := if Fine k m n then 0 else 2
theorem chkE_fine {k m : Int} {n : Nat} (h : Fine k m n) : chkE k m n = 0 := if_pos h
theorem chkE_odd {k m : Int} {n : Nat} (h : ¬ Fine k m n) : chkE k m n = 2 := if_neg h

set_option maxHeartbeats 4000000 in
theorem check_any (w : World) (k m : Int) (A : Option Addr) (n c : Nat) (hn : n ≤ 140737488351232) :
    Calls Tryz.prog 84 #[.agg #[.int .i64 k, .int .i64 m, .slice A n c]] w fun e w' => e = .returned (.int .i64 (chkE k m n)) ∧ Chg [] w w' := by
  have hk : k < 0 ∨ 4 ≤ k ∨ k = 0 ∨ k = 1 ∨ k = 2 ∨ k = 3 := by omega
  have go : ∀ v, chkE k m n = v → Calls Tryz.prog 84 #[.agg #[.int .i64 k, .int .i64 m, .slice A n c]] w (fun e w' => e = .returned (.int .i64 v) ∧ Chg [] w w') → Calls Tryz.prog 84 #[.agg #[.int .i64 k, .int .i64 m, .slice A n c]] w fun e w' => e = .returned (.int .i64 (chkE k m n)) ∧ Chg [] w w' := fun v hv h => hv ▸ h
  rcases hk with h | h | h | h | h | h
  · refine go 2 (chkE_odd (by unfold Fine; omega)) ?_
    clear go
    go_enter Tryz.func84, Tryz.ntmps84
    go_wp2_with fail
    refine (kinds_any _).mono ?_
    rintro e w1 ⟨rfl, hc⟩
    have q := hc.at_ (heap_alloc_new w (.cells #[_, _, _] 25)) (by simp)
    have q0 := cell_of q 0
    have q1 := cell_of q 1
    have q2 := cell_of q 2
    simp only [List.getElem?_toArray, List.getElem?_cons_succ, List.getElem?_cons_zero] at q0 q1 q2
    have hz : w.heap.size < w1.heap.size := lt_of_cell q0
    have C1 := Lib.hid (((Chg.refl [] w).alloc _).trans hc)
    clear hc q
    generalize w.heap.size = s at *
    go_wp2
    go_ret
    exact ⟨rfl, C1.out.alloc _⟩
  · refine go 2 (chkE_odd (by unfold Fine; omega)) ?_
    clear go
    have h' : ¬ k < 0 := by omega
    go_enter Tryz.func84, Tryz.ntmps84
    go_wp2_with fail
    refine (kinds_any _).mono ?_
    rintro e w1 ⟨rfl, hc⟩
    have q := hc.at_ (heap_alloc_new w (.cells #[_, _, _] 25)) (by simp)
    have q0 := cell_of q 0
    have q1 := cell_of q 1
    have q2 := cell_of q 2
    simp only [List.getElem?_toArray, List.getElem?_cons_succ, List.getElem?_cons_zero] at q0 q1 q2
    have hz : w.heap.size < w1.heap.size := lt_of_cell q0
    have C1 := Lib.hid (((Chg.refl [] w).alloc _).trans hc)
    clear hc q
    generalize w.heap.size = s at *
    go_wp2
    go_ret
    exact ⟨rfl, C1.out.alloc _⟩
  · refine go 2 (chkE_odd (by unfold Fine; omega)) ?_
    subst h
    clear go
    go_enter Tryz.func84, Tryz.ntmps84
    go_wp2_with fail
    refine (kinds_any _).mono ?_
    rintro e w1 ⟨rfl, hc⟩
    have q := hc.at_ (heap_alloc_new w (.cells #[_, _, _] 25)) (by simp)
    have q0 := cell_of q 0
    have q1 := cell_of q 1
    have q2 := cell_of q 2
    simp only [List.getElem?_toArray, List.getElem?_cons_succ, List.getElem?_cons_zero] at q0 q1 q2
    have hz : w.heap.size < w1.heap.size := lt_of_cell q0
    have C1 := Lib.hid (((Chg.refl [] w).alloc _).trans hc)
    clear hc q
    generalize w.heap.size = s at *
    go_wp2
    go_ret
    exact ⟨rfl, (C1.out.alloc _).alloc _⟩
  · subst h
    by_cases m0 : m < 0
    · refine go 2 (chkE_odd (by unfold Fine; omega)) ?_
      clear go
      go_enter Tryz.func84, Tryz.ntmps84
      go_wp2_with fail
      refine (kinds_any _).mono ?_
      rintro e w1 ⟨rfl, hc⟩
      have q := hc.at_ (heap_alloc_new w (.cells #[_, _, _] 25)) (by simp)
      have q0 := cell_of q 0
      have q1 := cell_of q 1
      have q2 := cell_of q 2
      simp only [List.getElem?_toArray, List.getElem?_cons_succ, List.getElem?_cons_zero] at q0 q1 q2
      have hz : w.heap.size < w1.heap.size := lt_of_cell q0
      have C1 := Lib.hid (((Chg.refl [] w).alloc _).trans hc)
      clear hc q
      generalize w.heap.size = s at *
      go_wp2
      go_ret
      exact ⟨rfl, (C1.out.alloc _).alloc _⟩
    by_cases m1 : 511 < m
    · refine go 2 (chkE_odd (by unfold Fine; omega)) ?_
      clear go
      go_enter Tryz.func84, Tryz.ntmps84
      go_wp2_with fail
      refine (kinds_any _).mono ?_
      rintro e w1 ⟨rfl, hc⟩
      have q := hc.at_ (heap_alloc_new w (.cells #[_, _, _] 25)) (by simp)
      have q0 := cell_of q 0
      have q1 := cell_of q 1
      have q2 := cell_of q 2
      simp only [List.getElem?_toArray, List.getElem?_cons_succ, List.getElem?_cons_zero] at q0 q1 q2
      have hz : w.heap.size < w1.heap.size := lt_of_cell q0
      have C1 := Lib.hid (((Chg.refl [] w).alloc _).trans hc)
      clear hc q
      generalize w.heap.size = s at *
      go_wp2
      go_ret
      exact ⟨rfl, (C1.out.alloc _).alloc _⟩
    by_cases n1 : 1000 < n
    · refine go 2 (chkE_odd (by unfold Fine; omega)) ?_
      clear go
      go_enter Tryz.func84, Tryz.ntmps84
      go_wp2_with fail
      refine (kinds_any _).mono ?_
      rintro e w1 ⟨rfl, hc⟩
      have q := hc.at_ (heap_alloc_new w (.cells #[_, _, _] 25)) (by simp)
      have q0 := cell_of q 0
      have q1 := cell_of q 1
      have q2 := cell_of q 2
      simp only [List.getElem?_toArray, List.getElem?_cons_succ, List.getElem?_cons_zero] at q0 q1 q2
      have hz : w.heap.size < w1.heap.size := lt_of_cell q0
      have C1 := Lib.hid (((Chg.refl [] w).alloc _).trans hc)
      clear hc q
      generalize w.heap.size = s at *
      go_wp2
      go_ret
      exact ⟨rfl, (C1.out.alloc _).alloc _⟩
    · refine go 0 (chkE_fine (by unfold Fine; omega)) ?_
      clear go
      go_enter Tryz.func84, Tryz.ntmps84
      go_wp2_with fail
      refine (kinds_any _).mono ?_
      rintro e w1 ⟨rfl, hc⟩
      have q := hc.at_ (heap_alloc_new w (.cells #[_, _, _] 25)) (by simp)
      have q0 := cell_of q 0
      have q1 := cell_of q 1
      have q2 := cell_of q 2
      simp only [List.getElem?_toArray, List.getElem?_cons_succ, List.getElem?_cons_zero] at q0 q1 q2
      have hz : w.heap.size < w1.heap.size := lt_of_cell q0
      have C1 := Lib.hid (((Chg.refl [] w).alloc _).trans hc)
      clear hc q
      generalize w.heap.size = s at *
      go_wp2
      go_ret
      exact ⟨rfl, (C1.out.alloc _).alloc _⟩
  · subst h
    by_cases m0 : m < 0
    · refine go 2 (chkE_odd (by unfold Fine; omega)) ?_
      clear go
      go_enter Tryz.func84, Tryz.ntmps84
      go_wp2_with fail
      refine (kinds_any _).mono ?_
      rintro e w1 ⟨rfl, hc⟩
      have q := hc.at_ (heap_alloc_new w (.cells #[_, _, _] 25)) (by simp)
      have q0 := cell_of q 0
      have q1 := cell_of q 1
      have q2 := cell_of q 2
      simp only [List.getElem?_toArray, List.getElem?_cons_succ, List.getElem?_cons_zero] at q0 q1 q2
      have hz : w.heap.size < w1.heap.size := lt_of_cell q0
      have C1 := Lib.hid (((Chg.refl [] w).alloc _).trans hc)
      clear hc q
      generalize w.heap.size = s at *
      go_wp2
      go_ret
      exact ⟨rfl, (C1.out.alloc _).alloc _⟩
    by_cases m1 : 511 < m
    · refine go 2 (chkE_odd (by unfold Fine; omega)) ?_
      clear go
      go_enter Tryz.func84, Tryz.ntmps84
      go_wp2_with fail
      refine (kinds_any _).mono ?_
      rintro e w1 ⟨rfl, hc⟩
      have q := hc.at_ (heap_alloc_new w (.cells #[_, _, _] 25)) (by simp)
      have q0 := cell_of q 0
      have q1 := cell_of q 1
      have q2 := cell_of q 2
      simp only [List.getElem?_toArray, List.getElem?_cons_succ, List.getElem?_cons_zero] at q0 q1 q2
      have hz : w.heap.size < w1.heap.size := lt_of_cell q0
      have C1 := Lib.hid (((Chg.refl [] w).alloc _).trans hc)
      clear hc q
      generalize w.heap.size = s at *
      go_wp2
      go_ret
      exact ⟨rfl, (C1.out.alloc _).alloc _⟩
    by_cases n1 : 0 < n
    · refine go 2 (chkE_odd (by unfold Fine; omega)) ?_
      clear go
      go_enter Tryz.func84, Tryz.ntmps84
      go_wp2_with fail
      refine (kinds_any _).mono ?_
      rintro e w1 ⟨rfl, hc⟩
      have q := hc.at_ (heap_alloc_new w (.cells #[_, _, _] 25)) (by simp)
      have q0 := cell_of q 0
      have q1 := cell_of q 1
      have q2 := cell_of q 2
      simp only [List.getElem?_toArray, List.getElem?_cons_succ, List.getElem?_cons_zero] at q0 q1 q2
      have hz : w.heap.size < w1.heap.size := lt_of_cell q0
      have C1 := Lib.hid (((Chg.refl [] w).alloc _).trans hc)
      clear hc q
      generalize w.heap.size = s at *
      go_wp2
      go_ret
      exact ⟨rfl, (C1.out.alloc _).alloc _⟩
    · obtain rfl : n = 0 := by omega
      refine go 0 (chkE_fine (by unfold Fine; omega)) ?_
      clear go
      go_enter Tryz.func84, Tryz.ntmps84
      go_wp2_with fail
      refine (kinds_any _).mono ?_
      rintro e w1 ⟨rfl, hc⟩
      have q := hc.at_ (heap_alloc_new w (.cells #[_, _, _] 25)) (by simp)
      have q0 := cell_of q 0
      have q1 := cell_of q 1
      have q2 := cell_of q 2
      simp only [List.getElem?_toArray, List.getElem?_cons_succ, List.getElem?_cons_zero] at q0 q1 q2
      have hz : w.heap.size < w1.heap.size := lt_of_cell q0
      have C1 := Lib.hid (((Chg.refl [] w).alloc _).trans hc)
      clear hc q
      generalize w.heap.size = s at *
      go_wp2
      go_ret
      exact ⟨rfl, (C1.out.alloc _).alloc _⟩
  · subst h
    by_cases m0 : m < 0
    · refine go 2 (chkE_odd (by unfold Fine; omega)) ?_
      clear go
      go_enter Tryz.func84, Tryz.ntmps84
      go_wp2_with fail
      refine (kinds_any _).mono ?_
      rintro e w1 ⟨rfl, hc⟩
      have q := hc.at_ (heap_alloc_new w (.cells #[_, _, _] 25)) (by simp)
      have q0 := cell_of q 0
      have q1 := cell_of q 1
      have q2 := cell_of q 2
      simp only [List.getElem?_toArray, List.getElem?_cons_succ, List.getElem?_cons_zero] at q0 q1 q2
      have hz : w.heap.size < w1.heap.size := lt_of_cell q0
      have C1 := Lib.hid (((Chg.refl [] w).alloc _).trans hc)
      clear hc q
      generalize w.heap.size = s at *
      go_wp2
      go_ret
      exact ⟨rfl, (C1.out.alloc _).alloc _⟩
    by_cases m1 : 0 < m
    · refine go 2 (chkE_odd (by unfold Fine; omega)) ?_
      clear go
      go_enter Tryz.func84, Tryz.ntmps84
      go_wp2_with fail
      refine (kinds_any _).mono ?_
      rintro e w1 ⟨rfl, hc⟩
      have q := hc.at_ (heap_alloc_new w (.cells #[_, _, _] 25)) (by simp)
      have q0 := cell_of q 0
      have q1 := cell_of q 1
      have q2 := cell_of q 2
      simp only [List.getElem?_toArray, List.getElem?_cons_succ, List.getElem?_cons_zero] at q0 q1 q2
      have hz : w.heap.size < w1.heap.size := lt_of_cell q0
      have C1 := Lib.hid (((Chg.refl [] w).alloc _).trans hc)
      clear hc q
      generalize w.heap.size = s at *
      go_wp2
      go_ret
      exact ⟨rfl, (C1.out.alloc _).alloc _⟩
    obtain rfl : m = 0 := by omega
    by_cases n1 : 0 < n
    · refine go 2 (chkE_odd (by unfold Fine; omega)) ?_
      clear go
      go_enter Tryz.func84, Tryz.ntmps84
      go_wp2_with fail
      refine (kinds_any _).mono ?_
      rintro e w1 ⟨rfl, hc⟩
      have q := hc.at_ (heap_alloc_new w (.cells #[_, _, _] 25)) (by simp)
      have q0 := cell_of q 0
      have q1 := cell_of q 1
      have q2 := cell_of q 2
      simp only [List.getElem?_toArray, List.getElem?_cons_succ, List.getElem?_cons_zero] at q0 q1 q2
      have hz : w.heap.size < w1.heap.size := lt_of_cell q0
      have C1 := Lib.hid (((Chg.refl [] w).alloc _).trans hc)
      clear hc q
      generalize w.heap.size = s at *
      go_wp2
      go_ret
      exact ⟨rfl, (C1.out.alloc _).alloc _⟩
    · obtain rfl : n = 0 := by omega
      refine go 0 (chkE_fine (by unfold Fine; omega)) ?_
      clear go
      go_enter Tryz.func84, Tryz.ntmps84
      go_wp2_with fail
      refine (kinds_any _).mono ?_
      rintro e w1 ⟨rfl, hc⟩
      have q := hc.at_ (heap_alloc_new w (.cells #[_, _, _] 25)) (by simp)
      have q0 := cell_of q 0
      have q1 := cell_of q 1
      have q2 := cell_of q 2
      simp only [List.getElem?_toArray, List.getElem?_cons_succ, List.getElem?_cons_zero] at q0 q1 q2
      have hz : w.heap.size < w1.heap.size := lt_of_cell q0
      have C1 := Lib.hid (((Chg.refl [] w).alloc _).trans hc)
      clear hc q
      generalize w.heap.size = s at *
      go_wp2
      go_ret
      exact ⟨rfl, (C1.out.alloc _).alloc _⟩
end
section
open Go.RowKit Go.Lib
set_option linter.unusedSimpArgs false
set_option linter.unusedVariables false

/-- In order, and of the same members: the same list. -/
theorem sorted_ext {α : Type} {r : α → α → Prop} (irr : ∀ a, ¬ r a a) (tr : ∀ a b c, r a b → r b c → r a c) : ∀ {l m : List α}, l.Pairwise r → m.Pairwise r → (∀ x, x ∈ l ↔ x ∈ m) → l = m
  | [], [], _, _, _ => rfl
  | [], y :: m, _, _, h => absurd ((h y).2 (by simp)) (by simp)
  | x :: l, [], _, _, h => absurd ((h x).1 (by simp)) (by simp)
  | x :: l, y :: m, hl, hm, h => by
    have pl := List.pairwise_cons.1 hl
    have pm := List.pairwise_cons.1 hm
    have e : x = y := by
      rcases List.mem_cons.1 ((h x).1 (by simp)) with a | a
      · exact a
      · rcases List.mem_cons.1 ((h y).2 (by simp)) with b | b
        · exact b.symm
        · exact absurd (tr _ _ _ (pl.1 y b) (pm.1 x a)) (irr x)
    subst e
    congr 1
    refine sorted_ext irr tr pl.2 pm.2 (fun z => ?_)
    constructor
    · intro hz
      rcases List.mem_cons.1 ((h z).1 (by simp [hz])) with a | a
      · exact absurd (a ▸ pl.1 z hz) (irr z)
      · exact a
    · intro hz
      rcases List.mem_cons.1 ((h z).2 (by simp [hz])) with a | a
      · exact absurd (a ▸ pm.1 z hz) (irr z)
      · exact a
theorem less_ne {a b : List UInt8} (h : lessL a b = true) : a ≠ b := fun e => by
  rw [e, less_self] at h; cases h
theorem less_tri (a b : List UInt8) : a = b ∨ lessL a b = true ∨ lessL b a = true := by
  have h := less_eq a b
  by_cases q : a = b
  · exact .inl q
  · rcases h1 : lessL a b with _ | _
    · rcases h2 : lessL b a with _ | _
      · rw [h1, h2] at h
        simp at h
        exact absurd h q
      · exact .inr (.inr rfl)
    · exact .inr (.inl rfl)
end
section
open Go.RowKit Go.Lib
set_option linter.unusedSimpArgs false
set_option linter.unusedVariables false

/-! Paths. -/
theorem under_split {a b : List UInt8} (h : underL a b = true) : okP a = true ∧ okP b = true ∧ ∃ d, b = a ++ 47 :: d := by
  unfold underL at h
  simp only [Bool.and_eq_true] at h
  refine ⟨h.1.1, h.1.2, ?_⟩
  obtain ⟨t, ht⟩ := List.isPrefixOf_iff_prefix.1 h.2
  exact ⟨t, by rw [← ht]; simp⟩
theorem under_of {a d : List UInt8} (ha : okP a = true) (hb : okP (a ++ 47 :: d) = true) : underL a (a ++ 47 :: d) = true := by
  unfold underL
  rw [ha, hb]
  simp only [Bool.true_and]
  rw [List.isPrefixOf_iff_prefix]
  exact ⟨d, by simp⟩
theorem ok_no47 {l : List UInt8} (h : okP l = true) : ∀ x ∈ cutL l, 47 ∉ x := by
  unfold okP checkL at h
  simp only [Bool.and_eq_true, List.all_eq_true] at h
  exact fun x hx => part_no47 (h.2 x hx)
theorem base_no {l : List UInt8} (h : okP l = true) : 47 ∉ baseL l := by
  unfold baseL
  rw [if_pos h]
  exact ok_no47 h _ (List.getLast_mem _)
theorem parent_cut {l : List UInt8} (h : hasParent l = true) : cutL l = cutL (parentL l) ++ [baseL l] := by
  have ok : okP l = true := by unfold hasParent at h; simp only [Bool.and_eq_true] at h; exact h.1
  have e := (parent_base h).1
  conv => lhs; rw [← e]
  exact cut_last _ _ (base_no ok)
theorem under_parent {a b : List UInt8} (h : underL a b = true) : hasParent b = true ∧ (parentL b = a ∨ underL a (parentL b) = true) := by
  obtain ⟨ha, hb, d, rfl⟩ := under_split h
  have hp : hasParent (a ++ 47 :: d) = true := by
    unfold hasParent
    rw [hb]
    have e : cutL (a ++ 47 :: d) = cutL a ++ cutL d := cutA_app a [] d
    have n1 : 1 ≤ (cutL a).length := List.length_pos_iff.2 (cutA_ne [] a)
    have n2 : 1 ≤ (cutL d).length := List.length_pos_iff.2 (cutA_ne [] d)
    rw [Bool.true_and]
    exact decide_eq_true (by rw [e, List.length_append]; omega)
  refine ⟨hp, ?_⟩
  have e : cutL (a ++ 47 :: d) = cutL a ++ cutL d := cutA_app a [] d
  have c := parent_cut hp
  have hd : cutL d ≠ [] := cutA_ne [] d
  rw [e, ← List.dropLast_concat_getLast hd, ← List.append_assoc] at c
  have c2 := List.append_inj_left' c rfl
  have okp : okP (parentL (a ++ 47 :: d)) = true := (under_split (parent_base hp).2).1
  by_cases q : (cutL d).dropLast = []
  · rw [q, List.append_nil] at c2
    exact .inl (cut_inj c2).symm
  · right
    unfold underL
    rw [ha, okp]
    exact cut_pre q c2.symm
theorem parent_less {b : List UInt8} (h : hasParent b = true) : lessL (parentL b) b = true := under_less _ _ (parent_base h).2
theorem parent_short {b : List UInt8} (h : hasParent b = true) : (parentL b).length < b.length := by
  have := congrArg List.length (parent_base h).1
  simp at this
  omega
/-! Trees. -/
/-- What stands at a path. -/
structure EnP where
  p : List UInt8
  k : Int
  m : Int
  b : List UInt8
def Stands (e : EnP) : Prop := okP e.p = true ∧ chkE e.k e.m e.b.length = 0 ∧ e.k ≠ 3
instance (e : EnP) : Decidable (Stands e) := by unfold Stands; exact inferInstance
def ltT (a b : EnP) : Prop := lessL a.p b.p = true
instance (a b : EnP) : Decidable (ltT a b) := by unfold ltT; exact inferInstance
def getT (t : List EnP) (p : List UInt8) : Option EnP := t.find? (fun e => decide (e.p = p))
def HasDir (t : List EnP) (p : List UInt8) : Prop := ∃ f ∈ t, f.p = p ∧ f.k = 2
instance (t : List EnP) (p : List UInt8) : Decidable (HasDir t p) := by unfold HasDir; exact inferInstance
def TabOk (t : List EnP) : Prop := (∀ e ∈ t, Stands e) ∧ t.Pairwise ltT ∧ ∀ e ∈ t, hasParent e.p = true → HasDir t (parentL e.p)
instance (t : List EnP) : Decidable (TabOk t) := by unfold TabOk; exact inferInstance
def tabE (t : List EnP) : Int := if TabOk t then 0 else 2
def parT (t : List EnP) (p : List UInt8) : Int := if hasParent p = true then (match getT t (parentL p) with | none => 6 | some e => if e.k = 2 then 0 else 12) else 0
def layT (t : List EnP) (x : EnP) : List EnP := t.filter (fun e => lessL e.p x.p) ++ x :: t.filter (fun e => lessL x.p e.p)
def anyT (t : List EnP) (p : List UInt8) : Bool := t.any (fun e => underL p e.p)
def putT (t : List EnP) (x : EnP) : Int × List EnP :=
  if ¬ (TabOk t ∧ Stands x) then (2, []) else if parT t x.p ≠ 0 then (parT t x.p, []) else if x.k ≠ 2 ∧ anyT t x.p = true then (12, []) else (0, layT t x)
def removeT (t : List EnP) (p : List UInt8) : Int × List EnP :=
  if ¬ (TabOk t ∧ okP p = true) then (2, []) else if getT t p = none then (6, []) else (0, t.filter (fun e => !(decide (e.p = p) || underL p e.p)))
def mvP (f g p : List UInt8) : List UInt8 := if p = f ∨ underL f p = true then g ++ p.drop f.length else p
def mvE (f g : List UInt8) (e : EnP) : EnP := ⟨mvP f g e.p, e.k, e.m, e.b⟩
def sortTN (l : List EnP) : List EnP := l.foldl layT []
def moveT (t : List EnP) (f g : List UInt8) : Int × List EnP :=
  if ¬ (TabOk t ∧ okP f = true ∧ okP g = true) then (2, []) else if getT t f = none then (6, []) else if g = f ∨ underL f g = true then (13, []) else if getT t g ≠ none then (7, [])
  else if parT t g ≠ 0 then (parT t g, []) else if t.any (fun e => !okP (mvP f g e.p)) = true then (2, []) else (0, sortTN (t.map (mvE f g)))
theorem tabE_zero {t : List EnP} : tabE t = 0 ↔ TabOk t := by unfold tabE; split <;> simp_all
theorem tabE_two (t : List EnP) : tabE t = 0 ∨ tabE t = 2 := by unfold tabE; split <;> simp
theorem ltT_irr (a : EnP) : ¬ ltT a a := by unfold ltT; rw [less_self]; simp
theorem ltT_tr (a b c : EnP) (h : ltT a b) (k : ltT b c) : ltT a c := less_trans _ _ _ h k
theorem ltT_ne {a b : EnP} (h : ltT a b) : a.p ≠ b.p := less_ne h
theorem t_ext {l m : List EnP} (hl : l.Pairwise ltT) (hm : m.Pairwise ltT) (h : ∀ x, x ∈ l ↔ x ∈ m) : l = m := sorted_ext ltT_irr ltT_tr hl hm h
theorem same_path {t : List EnP} (h : t.Pairwise ltT) {a b : EnP} (ha : a ∈ t) (hb : b ∈ t) (e : a.p = b.p) : a = b := by
  obtain ⟨i, hi, rfl⟩ := List.getElem_of_mem ha
  obtain ⟨j, hj, rfl⟩ := List.getElem_of_mem hb
  rw [List.pairwise_iff_getElem] at h
  rcases Nat.lt_trichotomy i j with q | q | q
  · exact absurd e (ltT_ne (h i j hi hj q))
  · subst q; rfl
  · exact absurd e.symm (ltT_ne (h j i hj hi q))
theorem get_some {t : List EnP} {p : List UInt8} {e : EnP} (h : getT t p = some e) : e ∈ t ∧ e.p = p :=
  ⟨List.mem_of_find?_eq_some h, by have := List.find?_some h; simpa using this⟩
theorem get_none {t : List EnP} {p : List UInt8} : getT t p = none ↔ ∀ e ∈ t, e.p ≠ p := by
  unfold getT
  rw [List.find?_eq_none]
  simp
theorem get_iff {t : List EnP} (h : t.Pairwise ltT) {p : List UInt8} {e : EnP} : getT t p = some e ↔ e ∈ t ∧ e.p = p := by
  refine ⟨get_some, fun ⟨he, hp⟩ => ?_⟩
  rcases q : getT t p with _ | f
  · exact absurd hp (get_none.1 q e he)
  · obtain ⟨hf, hq⟩ := get_some q
    rw [same_path h hf he (hq.trans hp.symm)]
theorem hasDir_get {t : List EnP} (h : t.Pairwise ltT) {p : List UInt8} : HasDir t p ↔ ∃ e, getT t p = some e ∧ e.k = 2 :=
  ⟨fun ⟨f, hf, hp, hk⟩ => ⟨f, (get_iff h).2 ⟨hf, hp⟩, hk⟩, fun ⟨e, he, hk⟩ => ⟨e, (get_some he).1, (get_some he).2, hk⟩⟩
theorem parT_zero {t : List EnP} {p : List UInt8} (h : parT t p = 0) (hp : hasParent p = true) : HasDir t (parentL p) := by
  unfold parT at h
  rw [if_pos hp] at h
  rcases q : getT t (parentL p) with _ | e
  · rw [q] at h; simp at h
  · rw [q] at h
    simp only at h
    split at h
    · rename_i hk
      exact ⟨e, (get_some q).1, (get_some q).2, hk⟩
    · simp at h
theorem parT_of {t : List EnP} (hs : t.Pairwise ltT) {p : List UInt8} (h : hasParent p = true → HasDir t (parentL p)) : parT t p = 0 := by
  unfold parT
  by_cases hp : hasParent p = true
  · rw [if_pos hp]
    obtain ⟨e, he, hk⟩ := (hasDir_get hs).1 (h hp)
    rw [he]
    simp [hk]
  · rw [if_neg hp]
/-- Over what lies in a tree there is all that it lies in. -/
theorem chain {t : List EnP} (h : TabOk t) {a : List UInt8} : ∀ (n : Nat) (e : EnP), e.p.length ≤ n → e ∈ t → underL a e.p = true → HasDir t a
  | 0, e, hn, he, hu => by
    obtain ⟨_, _, d, hd⟩ := under_split hu
    rw [hd] at hn
    simp at hn
  | n + 1, e, hn, he, hu => by
    obtain ⟨hp, q⟩ := under_parent hu
    obtain ⟨f, hf, fp, fk⟩ := h.2.2 e he hp
    rcases q with q | q
    · exact ⟨f, hf, fp.trans q, fk⟩
    · exact chain h n f (by have := parent_short hp; rw [fp]; omega) hf (by rw [fp]; exact q)
theorem none_under {t : List EnP} (h : TabOk t) {a : List UInt8} (hn : getT t a = none) : ∀ e ∈ t, underL a e.p = false := fun e he => by
  rcases q : underL a e.p with _ | _
  · rfl
  · obtain ⟨f, hf, fp, _⟩ := chain h _ e (Nat.le_refl _) he q
    exact absurd fp (get_none.1 hn f hf)
theorem lay_mem {t : List EnP} {x e : EnP} : e ∈ layT t x ↔ e = x ∨ (e ∈ t ∧ e.p ≠ x.p) := by
  unfold layT
  rw [List.mem_append, List.mem_cons, List.mem_filter, List.mem_filter]
  constructor
  · rintro (⟨a, b⟩ | a | ⟨a, b⟩)
    · exact .inr ⟨a, less_ne b⟩
    · exact .inl a
    · exact .inr ⟨a, (less_ne b).symm⟩
  · rintro (a | ⟨a, b⟩)
    · exact .inr (.inl a)
    · rcases less_tri e.p x.p with q | q | q
      · exact absurd q b
      · exact .inl ⟨a, q⟩
      · exact .inr (.inr ⟨a, q⟩)
theorem lay_sorted {t : List EnP} (h : t.Pairwise ltT) (x : EnP) : (layT t x).Pairwise ltT := by
  unfold layT
  rw [List.pairwise_append]
  refine ⟨h.sublist List.filter_sublist, List.pairwise_cons.2 ⟨fun y hy => (List.mem_filter.1 hy).2, h.sublist List.filter_sublist⟩, fun a ha b hb => ?_⟩
  have al := (List.mem_filter.1 ha).2
  rcases List.mem_cons.1 hb with rfl | q
  · exact al
  · exact less_trans _ _ _ al (List.mem_filter.1 q).2
theorem lays_sorted : ∀ (l : List EnP) {t : List EnP}, t.Pairwise ltT → (l.foldl layT t).Pairwise ltT
  | [], _, h => h
  | x :: l, _, h => lays_sorted l (lay_sorted h x)
theorem lays_mem : ∀ (l : List EnP) {t : List EnP} {e : EnP}, (l ++ t).Pairwise (fun a b => a.p ≠ b.p) → (e ∈ l.foldl layT t ↔ e ∈ l ∨ e ∈ t)
  | [], t, e, _ => by simp
  | x :: l, t, e, h => by
    rw [List.cons_append, List.pairwise_cons] at h
    have hx : ∀ y ∈ t, y.p ≠ x.p := fun y hy q => h.1 y (by simp [hy]) q.symm
    have m : ∀ e, e ∈ layT t x ↔ e = x ∨ e ∈ t := fun e => lay_mem.trans ⟨fun q => q.imp id (fun r => r.1), fun q => q.imp id (fun r => ⟨r, hx e r⟩)⟩
    rw [List.foldl_cons, lays_mem l (t := layT t x) (e := e) ?_, m, List.mem_cons]
    · constructor
      · rintro (a | a | a)
        · exact .inl (.inr a)
        · exact .inl (.inl a)
        · exact .inr a
      · rintro ((a | a) | a)
        · exact .inr (.inl a)
        · exact .inl a
        · exact .inr (.inr a)
    · rw [List.pairwise_append] at h ⊢
      obtain ⟨h1, h2, h3, h4⟩ := h
      have ls : (layT t x).Pairwise (fun a b => a.p ≠ b.p) := by
        unfold layT
        rw [List.pairwise_append, List.pairwise_cons]
        refine ⟨h3.sublist List.filter_sublist, ⟨fun y hy => (less_ne (List.mem_filter.1 hy).2), h3.sublist List.filter_sublist⟩, fun a ha b hb => ?_⟩
        have al := (List.mem_filter.1 ha).2
        rcases List.mem_cons.1 hb with rfl | q
        · exact less_ne al
        · exact less_ne (less_trans _ _ _ al (List.mem_filter.1 q).2)
      refine ⟨h2, ls, fun a ha b hb => ?_⟩
      rcases (m b).1 hb with rfl | q
      · exact (h1 a (by simp [ha])).symm
      · exact h4 a ha b q
theorem sort_sorted (l : List EnP) : (sortTN l).Pairwise ltT := lays_sorted l List.Pairwise.nil
theorem sort_mem {l : List EnP} (h : l.Pairwise (fun a b => a.p ≠ b.p)) {e : EnP} : e ∈ sortTN l ↔ e ∈ l := by
  unfold sortTN
  rw [lays_mem l (by rw [List.append_nil]; exact h)]
  simp
/-- What is sorted by paths, none twice. -/
theorem sort_is {l ys : List EnP} (h : l.Pairwise (fun a b => a.p ≠ b.p)) (hp : ys.Perm l) (hs : ys.Pairwise (fun x y => lessL y.p x.p = false)) : ys = sortTN l := by
  have hd : ys.Pairwise (fun a b => a.p ≠ b.p) := (hp.pairwise_iff (fun {a b} q => q.symm)).2 h
  refine t_ext ((hs.and hd).imp (fun {a b} q => ?_)) (sort_sorted l) (fun x => hp.mem_iff.trans (sort_mem h).symm)
  rcases less_tri a.p b.p with r | r | r
  · exact absurd r q.2
  · exact r
  · rw [q.1] at r; cases r
end
section
set_option linter.unusedSimpArgs false
set_option linter.unusedVariables false
variable {α : Type} {R : RowTy α}
theorem flat_set (full : List α) (j i : Nat) (x x' : α) (v : Value) (hx : full[j]? = some x) (hi : i < R.k) (he : ∀ q, q < R.k → (R.enc x')[q]? = if q = i then some v else (R.enc x)[q]?) :
    (R.flat full).set (j * R.k + i) v = R.flat (full.set j x') := by
  have hj := (List.getElem?_eq_some_iff.1 hx).1
  have hb : j * R.k + i < full.length * R.k := by
    have : (j + 1) * R.k ≤ full.length * R.k := Nat.mul_le_mul_right _ hj
    rw [Nat.add_mul, Nat.one_mul] at this
    omega
  refine R.flat_ext _ _ (by rw [List.length_set, R.flat_len, List.length_set]) (fun q p y hy hp => ?_)
  rw [List.getElem?_set] at hy
  rw [List.getElem?_set, R.flat_len]
  by_cases e : j = q
  · subst e
    rw [if_pos rfl, if_pos hj] at hy
    cases hy
    rw [he p hp]
    by_cases e2 : p = i
    · subst e2
      rw [if_pos rfl, if_pos hb, if_pos rfl]
    · rw [if_neg (by omega), if_neg e2, R.flat_at full j p x hx hp]
  · rw [if_neg e] at hy
    rw [if_neg, R.flat_at full q p y hy hp]
    intro e3
    rcases Nat.lt_or_gt_of_ne e with h | h
    · have : (j + 1) * R.k ≤ q * R.k := Nat.mul_le_mul_right _ h
      rw [Nat.add_mul, Nat.one_mul] at this
      omega
    · have : (q + 1) * R.k ≤ j * R.k := Nat.mul_le_mul_right _ h
      rw [Nat.add_mul, Nat.one_mul] at this
      omega
theorem OwnK.setc {w : World} {g c : Nat} {xs : List α} (h : OwnK R w (some ⟨g, 0, none⟩) c xs) (j i : Nat) (x x' : α) (v : Value) (hx : xs[j]? = some x) (hi : i < R.k) (he : ∀ q, q < R.k → (R.enc x')[q]? = if q = i then some v else (R.enc x)[q]?) :
    OwnK R (w.setCell ⟨g, j * R.k + i, none⟩ v) (some ⟨g, 0, none⟩) c (xs.set j x') := by
  have hj := (List.getElem?_eq_some_iff.1 hx).1
  rcases h with ⟨h, _⟩ | ⟨g', full, e, hg, h1, h2, h3, h4⟩
  · cases h
  · cases e
    have hx' : full[j]? = some x := by
      rw [← h4, List.getElem?_take, if_pos hj] at hx
      exact hx
    refine OwnK.of (full := full.set j x') ?_ (by simpa using h3) h2 (by simpa using h1) ?_
    · have := heap_setCell_same w g (j * R.k + i) _ _ v hg
      rw [this, List.setIfInBounds_toArray, flat_set full j i x x' v hx' hi he]
    · rw [List.length_set, List.take_set, h4]
end
section
open Go.RowKit Go.Lib
set_option linter.unusedSimpArgs false
set_option linter.unusedVariables false

/-- An entry as it lies in memory: its path, effect (kind, mode, bytes). -/
structure EnT where
  p : ByteArray
  k : Int
  m : Int
  A : Option Addr
  l : Nat
  c : Nat
def enTy : RowTy EnT where
  enc := fun x => [.string x.p, .int .i64 x.k, .int .i64 x.m, .slice x.A x.l x.c]
  k := 4
  T := 55
  TS := 22
  z := ⟨⟨#[]⟩, 0, 0, none, 0, 0⟩
  zv := .agg #[.string ⟨#[]⟩, .int .i64 0, .int .i64 0, .slice none 0 0]
  bytes := 56
  klen := fun _ => rfl
  one := by intro x v hv; simp at hv; rcases hv with rfl | rfl | rfl | rfl <;> rfl
  zc := rfl
  kpos := by decide
  bpos := by decide
  under := by kernel_rfl
  info := by kernel_rfl
/-- It reads so. -/
structure EnR (w : World) (x : EnT) (e : EnP) : Prop where
  p : x.p = strOf e.p
  k : x.k = e.k
  m : x.m = e.m
  l : x.l = e.b.length
  A : Bs w x.A x.l e.b
theorem EnR.chg {w w' : World} {x : EnT} {e : EnP} (h : EnR w x e) (hc : Chg [] w w') : EnR w' x e := ⟨h.p, h.k, h.m, h.l, h.A.chg hc (by simp)⟩
theorem EnR.chgS {S : List Nat} {w w' : World} {x : EnT} {e : EnP} (h : EnR w x e) (hc : Chg S w w') (hA : ∀ a, x.A = some a → a.block ∉ S) : EnR w' x e := ⟨h.p, h.k, h.m, h.l, h.A.chg hc hA⟩
/-- The entry in a row of n cells at o. -/
theorem enCells {w : World} {g o n j : Nat} {xs : List EnT} (h : RdK enTy w (some ⟨g, o, none⟩) n xs) {x : EnT} (hx : xs[j]? = some x) : w.cell? ⟨g, o + j * 4, none⟩ = some (.string x.p) ∧ w.cell? ⟨g, o + j * 4 + 1, none⟩ = some (.int .i64 x.k) ∧ w.cell? ⟨g, o + j * 4 + 2, none⟩ = some (.int .i64 x.m) ∧ w.cell? ⟨g, o + j * 4 + 3, none⟩ = some (.slice x.A x.l x.c) :=
  ⟨h.at_ j 0 x _ hx rfl, h.at_ j 1 x _ hx rfl, h.at_ j 2 x _ hx rfl, h.at_ j 3 x _ hx rfl⟩
def EnsR (w : World) (xs : List EnT) (es : List EnP) : Prop := xs.length = es.length ∧ ∀ (i : Nat) (x : EnT) (e : EnP), xs[i]? = some x → es[i]? = some e → EnR w x e
theorem EnsR.chg {w w' : World} {xs : List EnT} {es : List EnP} (h : EnsR w xs es) (hc : Chg [] w w') : EnsR w' xs es := ⟨h.1, fun i x e hx he => (h.2 i x e hx he).chg hc⟩
theorem EnsR.chgS {S : List Nat} {w w' : World} {xs : List EnT} {es : List EnP} (h : EnsR w xs es) (hc : Chg S w w') (hS : ∀ x ∈ xs, ∀ a, x.A = some a → a.block ∉ S) : EnsR w' xs es :=
  ⟨h.1, fun i x e hx he => (h.2 i x e hx he).chgS hc (hS x (List.mem_of_getElem? hx))⟩
theorem EnsR.at_ {w : World} {xs : List EnT} {es : List EnP} (h : EnsR w xs es) {i : Nat} (hi : i < xs.length) : ∃ x e, xs[i]? = some x ∧ es[i]? = some e ∧ EnR w x e :=
  ⟨_, _, List.getElem?_eq_getElem hi, List.getElem?_eq_getElem (by rw [← h.1]; exact hi), h.2 i _ _ (List.getElem?_eq_getElem hi) (List.getElem?_eq_getElem (by rw [← h.1]; exact hi))⟩
theorem EnsR.nil (w : World) : EnsR w [] [] := ⟨rfl, fun i x e hx _ => by simp at hx⟩
theorem EnsR.snoc {w : World} {xs : List EnT} {es : List EnP} {x : EnT} {e : EnP} (h : EnsR w xs es) (r : EnR w x e) : EnsR w (xs ++ [x]) (es ++ [e]) := by
  refine ⟨by simp [h.1], fun i y f hy hf => ?_⟩
  by_cases q : i < xs.length
  · rw [List.getElem?_append_left q] at hy
    rw [List.getElem?_append_left (by rw [← h.1]; exact q)] at hf
    exact h.2 i y f hy hf
  · rw [List.getElem?_append_right (by omega)] at hy
    rw [List.getElem?_append_right (by rw [← h.1]; omega), ← h.1] at hf
    have hi := (List.getElem?_eq_some_iff.1 hy).1
    simp at hi
    rw [hi] at hy hf
    simp at hy hf
    subst hy hf
    exact r
theorem rd_oneEn {w : World} {g : Nat} {X : EnT} (h : w.heap[g]? = some (.cells #[.string X.p, .int .i64 X.k, .int .i64 X.m, .slice X.A X.l X.c] 55)) : RdK enTy w (some ⟨g, 0, none⟩) 1 [X] :=
  ⟨rfl, fun j v hj => ⟨_, rfl, by rw [add_zero_lit, cell_of h j]; simpa [RowTy.flat, enTy] using hj⟩⟩
theorem setN_k {xs : List EnT} {j : Nat} {y : EnT} (x : EnT) (h : xs[j]? = some y) : (xs.set j x)[j]? = some x := by
  rw [List.getElem?_set]
  simp [(List.getElem?_eq_some_iff.1 h).1]
end
section
open Go.RowKit Go.Lib
set_option linter.unusedSimpArgs false
set_option linter.unusedVariables false

/-- Its size in memory: what the walks want. -/
def EnSm (e : EnP) : Prop := e.p.length ≤ 10000000 ∧ e.b.length ≤ 140737488351232
theorem below_chgN {w w' : World} (h : Below w.heap.size w w') : Chg [] w w' := Chg.ofBelow h (by omega) []
set_option maxRecDepth 100000 in
set_option maxHeartbeats 4000000 in
theorem tbstands_any (w : World) (x : EnT) (e : EnP) (h : EnR w x e) (hs : EnSm e) :
    Calls Tryz.prog 42 #[.agg #[.string x.p, .int .i64 x.k, .int .i64 x.m, .slice x.A x.l x.c]] w fun r w' => r = .returned (.bool (decide (Stands e))) ∧ Chg [] w w' := by
  obtain ⟨w1, hw, hc, b0⟩ := news1 w (.cells #[.string x.p, .int .i64 x.k, .int .i64 x.m, .slice x.A x.l x.c] 55)
  have W1 := Lib.hid hw
  have C := Lib.hid hc
  have B0 := Lib.hid b0
  have PC : Hid (∀ w', Calls Tryz.prog 71 #[.string x.p] w' fun r w2 => r = .returned (.int .i64 (if checkL 6 12 e.p then 0 else 2)) ∧ Chg [] w' w2) := Lib.hid (fun w' => by
    rw [h.p]
    exact (phcheck_any w' e.p (by have := hs.1; omega)).mono fun r w2 ⟨a, b⟩ => ⟨a, below_chgN b⟩)
  have EC : Hid (∀ w', Calls Tryz.prog 84 #[.agg #[.int .i64 x.k, .int .i64 x.m, .slice x.A x.l x.c]] w' fun r w2 => r = .returned (.int .i64 (chkE e.k e.m e.b.length)) ∧ Chg [] w' w2) := Lib.hid (fun w' => by
    have q := check_any w' x.k x.m x.A x.l x.c (by rw [h.l]; exact hs.2)
    rw [h.k, h.m, h.l] at q
    rw [h.k, h.m, h.l]
    exact q)
  have KE : Hid (x.k = e.k) := Lib.hid h.k
  generalize hv : decide (Stands e) = v
  have HV := Lib.hid hv
  clear hv hw hc b0 h hs
  go_enter Tryz.func42, Tryz.ntmps42
  go_upto_region 1 with fail
  rw [← W1.out]
  generalize w.heap.size = g0 at *
  clear W1
  have z0 := cell_of B0.out 0
  have z1 := cell_of B0.out 1
  have z2 := cell_of B0.out 2
  have z3 := cell_of B0.out 3
  simp only [List.getElem?_toArray, List.getElem?_cons_succ, List.getElem?_cons_zero] at z0 z1 z2 z3
  go_wp2_with fail
  refine (PC.out w1).mono ?_
  rintro r w2 ⟨rfl, hc⟩
  replace B0 := Lib.hid (hc.at_ B0.out (by simp))
  replace C := Lib.hid (C.out.trans hc)
  clear z0 z1 z2 z3
  clear hc PC
  by_cases hp : checkL 6 12 e.p = true
  rotate_left
  · obtain rfl : v = false := by rw [← HV.out]; exact decide_eq_false (fun q => hp q.1)
    rw [if_neg hp]
    clear hp HV
    go_wp2
    go_ret
    exact ⟨rfl, C.out⟩
  rw [if_pos hp]
  have HP : Hid (okP e.p = true) := Lib.hid hp
  clear hp
  have z0 := cell_of B0.out 0
  have z1 := cell_of B0.out 1
  have z2 := cell_of B0.out 2
  have z3 := cell_of B0.out 3
  simp only [List.getElem?_toArray, List.getElem?_cons_succ, List.getElem?_cons_zero] at z0 z1 z2 z3
  go_wp2_with fail
  refine (EC.out w2).mono ?_
  rintro r w3 ⟨rfl, hc⟩
  replace B0 := Lib.hid (hc.at_ B0.out (by simp))
  replace C := Lib.hid (C.out.trans hc)
  clear z0 z1 z2 z3
  clear hc EC
  by_cases he : chkE e.k e.m e.b.length = 0
  rotate_left
  · obtain rfl : v = false := by rw [← HV.out]; exact decide_eq_false (fun q => he q.2.1)
    have h1 : ((chkE e.k e.m e.b.length == 0) : Bool) = false := by simpa using he
    have h2 : decide (chkE e.k e.m e.b.length = 0) = false := decide_eq_false he
    clear HV
    go_wp2
    go_ret
    exact ⟨rfl, C.out⟩
  rw [he]
  have HE := Lib.hid he
  clear he
  have z0 := cell_of B0.out 0
  have z1 := cell_of B0.out 1
  have z2 := cell_of B0.out 2
  have z3 := cell_of B0.out 3
  simp only [List.getElem?_toArray, List.getElem?_cons_succ, List.getElem?_cons_zero] at z0 z1 z2 z3
  by_cases hk : x.k = 3
  · obtain rfl : v = false := by rw [← HV.out]; exact decide_eq_false (fun q => q.2.2 (by rw [← KE.out]; exact hk))
    have h1 : ((x.k == 3) : Bool) = true := by simpa using hk
    have h2 : ((x.k != 3) : Bool) = false := by unfold bne; rw [h1]; rfl
    clear HV hk
    go_wp2
    go_ret
    exact ⟨rfl, C.out⟩
  · obtain rfl : v = true := by rw [← HV.out]; exact decide_eq_true ⟨HP.out, HE.out, fun q => hk (by rw [KE.out]; exact q)⟩
    have h1 : ((x.k == 3) : Bool) = false := by simpa using hk
    have h2 : ((x.k != 3) : Bool) = true := by unfold bne; rw [h1]; rfl
    clear HV hk
    go_wp2
    go_ret
    exact ⟨rfl, C.out⟩
end
section
open Go.RowKit

set_option maxHeartbeats 400000 in
theorem same_any (w : World) (A B : Option Addr) (n m c d : Nat) (xs ys : List UInt8) (h : Bs w A n xs) (k : Bs w B m ys) :
    Calls Tryz.prog 48 #[.slice A n c, .slice B m d] w fun e w' => e = .returned (.bool (xs == ys)) ∧ w = w' := by
  have h1 := run_str w (c := c) h
  have k1 := run_str w (c := d) k
  go_enter Tryz.func48, Tryz.ntmps48
  go_wp2
  go_ret
  exact ⟨rfl, rfl⟩
end
end Go.Proofs.YtimdfpejgaidhaaGreatDoor
