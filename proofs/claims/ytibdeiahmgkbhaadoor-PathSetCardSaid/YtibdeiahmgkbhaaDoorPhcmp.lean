/- path.compare, path.Less: texts held against one another by their parts. -/
import Derived.Test.YtibdeiahmgkbhaaDoorPhsplit
import Derived.Shelf.Small.Strs
namespace Go.Proofs.YtibdeiahmgkbhaaDoor
open Go.RowKit
set_option linter.unusedSimpArgs false
set_option linter.unusedVariables false
theorem cb_self : ∀ x : List UInt8, Lib.compareBytes x x = 0
  | [] => rfl
  | b :: x => by simp [Lib.compareBytes, UInt8.lt_irrefl, cb_self x]
theorem cb_zero : ∀ x y : List UInt8, Lib.compareBytes x y = 0 → x = y
  | [], [], _ => rfl
  | [], _ :: _, h => by simp [Lib.compareBytes] at h
  | _ :: _, [], h => by simp [Lib.compareBytes] at h
  | a :: x, b :: y, h => by
    unfold Lib.compareBytes at h
    split at h
    · simp at h
    · split at h
      · simp at h
      · rename_i h1 h2
        have : a = b := UInt8.le_antisymm (UInt8.not_lt.1 h2) (UInt8.not_lt.1 h1)
        rw [this, cb_zero x y h]
theorem cb_less : ∀ x y : List UInt8, Op.bytesLess x y = decide (Lib.compareBytes x y < 0)
  | [], [] => rfl
  | [], _ :: _ => rfl
  | _ :: _, [] => rfl
  | a :: x, b :: y => by
    unfold Op.bytesLess Lib.compareBytes
    by_cases h1 : a < b
    · simp [h1]
    · by_cases h2 : b < a
      · have : ¬ a = b := fun e => by rw [e] at h2; exact UInt8.lt_irrefl _ h2
        simp [h1, h2, this]
      · have : a = b := UInt8.le_antisymm (UInt8.not_lt.1 h2) (UInt8.not_lt.1 h1)
        subst this
        simp [h1, cb_less x y]
def cmpT : List (List UInt8) → List (List UInt8) → Int
  | [], [] => 0
  | [], _ :: _ => -1
  | _ :: _, [] => 1
  | x :: xs, y :: ys => if Lib.compareBytes x y = 0 then cmpT xs ys else Lib.compareBytes x y
theorem cmpT_self : ∀ xs : List (List UInt8), cmpT xs xs = 0
  | [] => rfl
  | x :: xs => by rw [cmpT, if_pos (cb_self x), cmpT_self xs]
theorem cmpT_at (xs ys : List (List UInt8)) (k : Nat) (h1 : k < xs.length) (h2 : k < ys.length) :
    cmpT (xs.drop k) (ys.drop k) = if Lib.compareBytes xs[k] ys[k] = 0 then cmpT (xs.drop (k + 1)) (ys.drop (k + 1)) else Lib.compareBytes xs[k] ys[k] := by
  rw [List.drop_eq_getElem_cons h1, List.drop_eq_getElem_cons h2, cmpT]
theorem cmpT_end1 (xs ys : List (List UInt8)) (k : Nat) (h1 : k < xs.length) (h2 : ys.length ≤ k) : cmpT (xs.drop k) (ys.drop k) = 1 := by
  rw [List.drop_eq_getElem_cons h1, List.drop_of_length_le h2]
  rfl
theorem cmpT_end0 (xs ys : List (List UInt8)) (k : Nat) (h1 : xs.length ≤ k) (h2 : ys.length ≤ k) : cmpT (xs.drop k) (ys.drop k) = 0 := by
  rw [List.drop_of_length_le h1, List.drop_of_length_le h2]
  rfl
theorem cmpT_endm (xs ys : List (List UInt8)) (k : Nat) (h1 : xs.length ≤ k) (h2 : k < ys.length) : cmpT (xs.drop k) (ys.drop k) = -1 := by
  rw [List.drop_of_length_le h1, List.drop_eq_getElem_cons h2]
  rfl
theorem stCompare_any (w : World) (x y : List UInt8) : Calls Tryd.prog 62 #[.string (strOf x), .string (strOf y)] w fun e w' => e = .returned (.int .i64 (Lib.compareBytes x y)) ∧ w' = w := by
  refine (Any.strings_Compare Tryd.lays106 (strOf x) (strOf y) w).mono ?_
  rintro e w' ⟨rfl, rfl⟩
  rw [strOf_data, strOf_data]
  exact ⟨rfl, rfl⟩
set_option maxRecDepth 100000 in
set_option maxHeartbeats 4000000 in
theorem compareFunc_any (w : World) (A B : Option Addr) (c d : Nat) (xs ys : List (List UInt8)) (h : RdK textTy w A xs.length xs) (h' : RdK textTy w B ys.length ys) (hx : xs.length ≤ 100000000) (hy : ys.length ≤ 100000000) :
    Calls Tryd.prog 61 #[.slice A xs.length c, .slice B ys.length d, .func (.func 62) #[] #[]] w fun e w' => e = .returned (.int .i64 (cmpT xs ys)) ∧ w' = w := by
  obtain ⟨R, hR⟩ : ∃ R, cmpT xs ys = R := ⟨_, rfl⟩
  rw [hR]
  have HA := Lib.hid h
  have HB := Lib.hid h'
  have HR := Lib.hid hR
  clear h h' hR
  go_enter Tryd.func61, Tryd.ntmps61
  go_wp2
  go_loopw [7, 8, 9, 10, 13] (fun v7 v8 v9 v10 v13 wr => ∃ k : Nat, k ≤ xs.length ∧ k ≤ ys.length ∧ v13 = .int .i64 (k : Int) ∧ Hid (cmpT (xs.drop k) (ys.drop k) = R) ∧ wr = w) (fun _ _ _ _ v13 _ => xs.length - (RowKit.intOf v13).toNat)
  case atStart => exact ⟨0, Nat.zero_le _, Nat.zero_le _, rfl, HR, rfl⟩
  case round =>
    obtain ⟨k, hk, hk2, rfl, HC, rfl⟩ := hrel
    have k1 : IntKind.i64.wrap ((k : Int) + 1) = (k : Int) + 1 := IntWalk.i64_in _ (by omega)
    have i0 : (0 : Int) ≤ (k : Int) := by omega
    by_cases hlt : k < xs.length
    · have i1 : (k : Int) < (xs.length : Int) := by omega
      obtain ⟨g, o, eA, _⟩ := HA.out.line (by omega)
      subst eA
      have ex := List.getElem?_eq_getElem hlt
      have z := textCells HA.out ex
      by_cases hlt2 : k < ys.length
      · have i2 : (k : Int) < (ys.length : Int) := by omega
        have i3 : ¬ ((ys.length : Int) ≤ (k : Int)) := by omega
        obtain ⟨g2, o2, eB, _⟩ := HB.out.line (by omega)
        subst eB
        have ey := List.getElem?_eq_getElem hlt2
        have z2 := textCells HB.out ey
        have HT := Lib.hid (cmpT_at xs ys k hlt hlt2)
        generalize xs[k] = x at *
        generalize ys[k] = y at *
        have CS := Lib.hid (fun w => stCompare_any w x y)
        generalize Lib.compareBytes x y = q at *
        clear ex ey
        by_cases hq : q = 0
        · have HQ := Lib.hid (HC.out.symm.trans (HT.out.trans (if_pos hq)))
          subst hq
          go_wp2_with fail
          refine (CS.out _).mono ?_
          rintro e w2 ⟨rfl, rfl⟩
          go_wp2
          exact ⟨⟨k + 1, by omega, by omega, by simp, Lib.hid HQ.out.symm, trivial⟩, by simp [RowKit.intOf]; omega⟩
        · have HQ := Lib.hid (HC.out.symm.trans (HT.out.trans (if_neg hq)))
          go_wp2_with fail
          refine (CS.out _).mono ?_
          rintro e w2 ⟨rfl, rfl⟩
          go_wp2
          go_ret
          exact ⟨congrArg (fun v => Ending.returned (Value.int .i64 v)) HQ.out.symm, rfl⟩
      · have i3 : ((ys.length : Int) ≤ (k : Int)) := by omega
        have HQ := Lib.hid (HC.out.symm.trans (cmpT_end1 xs ys k hlt (by omega)))
        generalize xs[k] = x at *
        go_wp2
        go_ret
        exact ⟨congrArg (fun v => Ending.returned (Value.int .i64 v)) HQ.out.symm, rfl⟩
    · have i1 : ¬ ((k : Int) < (xs.length : Int)) := by omega
      by_cases hl2 : xs.length < ys.length
      · have i4 : (xs.length : Int) < (ys.length : Int) := by omega
        have HQ := Lib.hid (HC.out.symm.trans (cmpT_endm xs ys k (by omega) (by omega)))
        go_wp2
        go_ret
        exact ⟨congrArg (fun v => Ending.returned (Value.int .i64 v)) HQ.out.symm, rfl⟩
      · have i4 : ¬ ((xs.length : Int) < (ys.length : Int)) := by omega
        have HQ := Lib.hid (HC.out.symm.trans (cmpT_end0 xs ys k (by omega) (by omega)))
        go_wp2
        go_ret
        exact ⟨congrArg (fun v => Ending.returned (Value.int .i64 v)) HQ.out.symm, rfl⟩
theorem split_any (w : World) (l : List UInt8) (hlen : l.length ≤ 10000000) :
    Calls Tryd.prog 35 #[.string (strOf l), .string ⟨#[47]⟩] w fun e w' => e = .returned (.slice (some ⟨w.heap.size, 0, none⟩) (cutL l).length (cutL l).length) ∧ w'.heap[w.heap.size]? = some (.cells ((cutL l).map tv).toArray 9 (0, 0)) ∧ Chg [] w w' := by
  have CG := Lib.hid (fun w => genSplit_any w l hlen)
  generalize cutL l = xs at *
  go_enter Tryd.func35, Tryd.ntmps35
  go_wp2_with fail
  refine (CG.out _).mono ?_
  rintro e w1 ⟨rfl, hq, hc⟩
  have HQ := Lib.hid hq
  clear hq
  go_wp2
  go_ret
  exact ⟨rfl, HQ.out, hc⟩
theorem rd_text {w : World} {g : Nat} {xs : List (List UInt8)} (h : w.heap[g]? = some (.cells (xs.map tv).toArray 9 (0, 0))) (hm : xs.length ≤ maxLen) : RdK textTy w (some ⟨g, 0, none⟩) xs.length xs := by
  rw [← flat_text] at h
  exact (OwnK.of (R := textTy) (c := xs.length) (full := xs) (xs := xs) h (Nat.le_refl _) hm rfl (List.take_length ..)).reads
def lessL (a b : List UInt8) : Bool := decide (cmpT (cutL a) (cutL b) < 0)
set_option maxHeartbeats 2000000 in
theorem phcompare_any (w : World) (a b : List UInt8) (ha : a.length ≤ 10000000) (hb : b.length ≤ 10000000) :
    Calls Tryd.prog 46 #[.string (strOf a), .string (strOf b)] w fun e w' => e = .returned (.int .i64 (cmpT (cutL a) (cutL b))) ∧ Chg [] w w' := by
  by_cases hab : a = b
  · subst hab
    rw [cmpT_self]
    have h1 : (a == a) = true := by simp
    go_enter Tryd.func46, Tryd.ntmps46
    go_wp2
    go_ret
    exact ⟨rfl, Chg.refl _ _⟩
  · have h1 : (a == b) = false := by simpa using hab
    have h2 := str_ne hab
    have S1 := Lib.hid (fun w => split_any w a ha)
    have S2 := Lib.hid (fun w => split_any w b hb)
    have L1 := Lib.hid (show (cutL a).length ≤ 100000000 by have := cutA_len a []; show (cutA [] a).length ≤ _; omega)
    have L2 := Lib.hid (show (cutL b).length ≤ 100000000 by have := cutA_len b []; show (cutA [] b).length ≤ _; omega)
    generalize cutL a = xs at *
    generalize cutL b = ys at *
    go_enter Tryd.func46, Tryd.ntmps46
    go_wp2_with fail
    refine (S1.out _).mono ?_
    rintro e w1 ⟨rfl, hq1, hc1⟩
    have Q1 := Lib.hid hq1
    have C1 := Lib.hid hc1
    have hg := lt_of_heap hq1
    clear hq1 hc1
    go_wp2_with fail
    refine (S2.out _).mono ?_
    rintro e w2 ⟨rfl, hq2, hc2⟩
    have RA := Lib.hid (rd_text (hc2.at_ Q1.out (by simp)) (by have := L1.out; unfold maxLen; omega))
    have RB := Lib.hid (rd_text hq2 (by have := L2.out; unfold maxLen; omega))
    have C2 := Lib.hid (C1.out.trans hc2)
    clear hq2 hc2
    go_wp2_with fail
    refine (compareFunc_any _ _ _ _ _ xs ys RA.out RB.out L1.out L2.out).mono ?_
    rintro e w3 ⟨rfl, rfl⟩
    go_wp2
    go_ret
    exact ⟨rfl, C2.out⟩
theorem phless_any (w : World) (a b : List UInt8) (ha : a.length ≤ 10000000) (hb : b.length ≤ 10000000) :
    Calls Tryd.prog 30 #[.string (strOf a), .string (strOf b)] w fun e w' => e = .returned (.bool (lessL a b)) ∧ Chg [] w w' := by
  have CC := Lib.hid (fun w => phcompare_any w a b ha hb)
  unfold lessL
  generalize cmpT (cutL a) (cutL b) = q at *
  go_enter Tryd.func30, Tryd.ntmps30
  go_wp2_with fail
  refine (CC.out _).mono ?_
  rintro e w1 ⟨rfl, hc⟩
  go_wp2
  go_ret
  exact ⟨rfl, hc⟩
end Go.Proofs.YtibdeiahmgkbhaaDoor
