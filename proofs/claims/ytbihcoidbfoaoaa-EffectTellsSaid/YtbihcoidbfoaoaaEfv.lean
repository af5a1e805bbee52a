/- The document's effects: Check, Same, Less, Size, Bytes. -/
import Derived.Test.YtbihcoidbfoaoaaEff2
import Derived.Test.YtbihcoidbfoaoaaVsince
namespace Go.Proofs.Ytbihcoidbfoaoaa
open Go.RowKit

set_option maxHeartbeats 4000000 in
theorem fcheck_any (w : World) (k m : Int) (A : Option Addr) (n c : Nat) (hn : n ≤ 140737488351232) :
    Calls Try.prog 15 #[.agg #[.int .i64 k, .int .i64 m, .slice A n c]] w fun e w' => e = .returned (.int .i64 (chkE k m n)) ∧ Chg [] w w' := by
  have go : ∀ v, chkE k m n = v → Calls Try.prog 15 #[.agg #[.int .i64 k, .int .i64 m, .slice A n c]] w (fun e w' => e = .returned (.int .i64 v) ∧ Chg [] w w') → Calls Try.prog 15 #[.agg #[.int .i64 k, .int .i64 m, .slice A n c]] w fun e w' => e = .returned (.int .i64 (chkE k m n)) ∧ Chg [] w w' := fun v hv h => hv ▸ h
  by_cases h1 : k = 1
  · subst h1
    by_cases m0 : m < 0
    · refine go 2 (chkE_odd (by unfold Fine; omega)) ?_
      have m0' : ¬ 0 ≤ m := by omega
      clear go
      go_enter Try.func15, Try.ntmps15
      go_wp2
      go_ret
      exact ⟨rfl, (Chg.refl _ _).alloc _⟩
    have m0' : 0 ≤ m := by omega
    by_cases m1 : 511 < m
    · refine go 2 (chkE_odd (by unfold Fine; omega)) ?_
      have m1' : ¬ m ≤ 511 := by omega
      clear go
      go_enter Try.func15, Try.ntmps15
      go_wp2
      go_ret
      exact ⟨rfl, (Chg.refl _ _).alloc _⟩
    have m1' : m ≤ 511 := by omega
    by_cases n1 : 1000 < n
    · refine go 2 (chkE_odd (by unfold Fine; omega)) ?_
      have n1' : decide ((n : Int) ≤ 1000) = false := by simp; omega
      clear go
      go_enter Try.func15, Try.ntmps15
      go_wp2
      go_ret
      exact ⟨rfl, (Chg.refl _ _).alloc _⟩
    · refine go 0 (chkE_fine (by unfold Fine; omega)) ?_
      have n1' : decide ((n : Int) ≤ 1000) = true := by simp; omega
      clear go
      go_enter Try.func15, Try.ntmps15
      go_wp2
      go_ret
      exact ⟨rfl, (Chg.refl _ _).alloc _⟩
  have h1' : (k == 1) = false := by simpa using h1
  by_cases h2 : k = 2
  · subst h2
    by_cases m0 : m < 0
    · refine go 2 (chkE_odd (by unfold Fine; omega)) ?_
      have m0' : ¬ 0 ≤ m := by omega
      clear go
      go_enter Try.func15, Try.ntmps15
      go_wp2
      go_ret
      exact ⟨rfl, (Chg.refl _ _).alloc _⟩
    have m0' : 0 ≤ m := by omega
    by_cases m1 : 511 < m
    · refine go 2 (chkE_odd (by unfold Fine; omega)) ?_
      have m1' : ¬ m ≤ 511 := by omega
      clear go
      go_enter Try.func15, Try.ntmps15
      go_wp2
      go_ret
      exact ⟨rfl, (Chg.refl _ _).alloc _⟩
    have m1' : m ≤ 511 := by omega
    by_cases n1 : n = 0
    · subst n1
      refine go 0 (chkE_fine (by unfold Fine; omega)) ?_
      clear go
      go_enter Try.func15, Try.ntmps15
      go_wp2
      go_ret
      exact ⟨rfl, (Chg.refl _ _).alloc _⟩
    · refine go 2 (chkE_odd (by unfold Fine; omega)) ?_
      have n1' : ((n : Int) == 0) = false := by simp; omega
      clear go
      go_enter Try.func15, Try.ntmps15
      go_wp2
      go_ret
      exact ⟨rfl, (Chg.refl _ _).alloc _⟩
  have h2' : (k == 2) = false := by simpa using h2
  by_cases h3 : k = 3
  · subst h3
    by_cases m0 : m = 0
    · subst m0
      by_cases n1 : n = 0
      · subst n1
        refine go 0 (chkE_fine (by unfold Fine; omega)) ?_
        clear go
        go_enter Try.func15, Try.ntmps15
        go_wp2
        go_ret
        exact ⟨rfl, (Chg.refl _ _).alloc _⟩
      · refine go 2 (chkE_odd (by unfold Fine; omega)) ?_
        have n1' : ((n : Int) == 0) = false := by simp; omega
        clear go
        go_enter Try.func15, Try.ntmps15
        go_wp2
        go_ret
        exact ⟨rfl, (Chg.refl _ _).alloc _⟩
    · refine go 2 (chkE_odd (by unfold Fine; omega)) ?_
      have m0' : (m == 0) = false := by simpa using m0
      clear go
      go_enter Try.func15, Try.ntmps15
      go_wp2
      go_ret
      exact ⟨rfl, (Chg.refl _ _).alloc _⟩
  have h3' : (k == 3) = false := by simpa using h3
  refine go 2 (chkE_odd (by unfold Fine; omega)) ?_
  clear go
  go_enter Try.func15, Try.ntmps15
  go_wp2
  go_ret
  exact ⟨rfl, (Chg.refl _ _).alloc _⟩

set_option maxHeartbeats 400000 in
theorem fsize_any (w : World) (k m : Int) (A : Option Addr) (n c : Nat) (hn : n ≤ 140737488351232) :
    Calls Try.prog 17 #[.agg #[.int .i64 k, .int .i64 m, .slice A n c]] w fun e w' => e = .returned (.int .i64 (16 + n)) ∧ Chg [] w w' := by
  go_enter Try.func17, Try.ntmps17
  go_wp2
  go_ret
  exact ⟨rfl, (Chg.refl _ _).alloc _⟩

theorem cmpI_zero {a b : Int} : cmpI a b = 0 ↔ a = b := by
  unfold cmpI
  split
  · constructor <;> omega
  · split
    · constructor <;> omega
    · constructor <;> omega
theorem cmpB_zero : ∀ (a b : List UInt8), Lib.compareBytes a b = 0 ↔ a = b
  | [], [] => by simp [Lib.compareBytes]
  | [], _ :: _ => by simp [Lib.compareBytes]
  | _ :: _, [] => by simp [Lib.compareBytes]
  | x :: a, y :: b => by
    unfold Lib.compareBytes
    have ih := cmpB_zero a b
    by_cases h : x < y
    · rw [if_pos h]
      constructor
      · intro e; simp at e
      · intro e; cases e; exact absurd h (UInt8.lt_irrefl _)
    · by_cases h' : y < x
      · rw [if_neg h, if_pos h']
        constructor
        · intro e; simp at e
        · intro e; cases e; exact absurd h' (UInt8.lt_irrefl _)
      · rw [if_neg h, if_neg h', ih]
        have : x = y := UInt8.le_antisymm (UInt8.not_lt.1 h') (UInt8.not_lt.1 h)
        subst this
        simp
theorem or3_zero {a b c : Int} : or3 a b c = 0 ↔ a = 0 ∧ b = 0 ∧ c = 0 := by
  unfold or3
  split
  · constructor <;> omega
  · split
    · constructor <;> omega
    · constructor <;> omega
theorem cmpE_zero {k m k' m' : Int} {xs ys : List UInt8} : cmpE k m xs k' m' ys = 0 ↔ k = k' ∧ m = m' ∧ xs = ys := by
  unfold cmpE
  rw [or3_zero, cmpI_zero, cmpI_zero, cmpB_zero]
theorem bytesLess_cmp : ∀ (a b : List UInt8), Op.bytesLess a b = decide (Lib.compareBytes a b < 0)
  | [], [] => by simp [Lib.compareBytes, Op.bytesLess]
  | [], _ :: _ => by simp [Lib.compareBytes, Op.bytesLess]
  | _ :: _, [] => by simp [Lib.compareBytes, Op.bytesLess]
  | x :: a, y :: b => by
    have ih := bytesLess_cmp a b
    unfold Lib.compareBytes Op.bytesLess
    by_cases h : x < y
    · simp [h]
    · by_cases h' : y < x
      · have : x ≠ y := fun e => by subst e; exact UInt8.lt_irrefl _ h'
        simp [h, h', this]
      · have : x = y := UInt8.le_antisymm (UInt8.not_lt.1 h') (UInt8.not_lt.1 h)
        subst this
        simp [h, ih]

set_option maxHeartbeats 1000000 in
theorem fsame_any (w : World) (k m k' m' : Int) (A B : Option Addr) (n c n' d : Nat) (xs ys : List UInt8) (h : Bs w A n xs) (h' : Bs w B n' ys) :
    Calls Try.prog 19 #[.agg #[.int .i64 k, .int .i64 m, .slice A n c], .agg #[.int .i64 k', .int .i64 m', .slice B n' d]] w fun e w' => e = .returned (.bool (cmpE k m xs k' m' ys == 0)) ∧ Chg [] w w' := by
  have c0 := ((Chg.refl [] w).alloc (.cells #[.int .i64 k, .int .i64 m, .slice A n c] 24)).alloc (.cells #[.int .i64 k', .int .i64 m', .slice B n' d] 24)
  have C0 := Lib.hid c0
  have s1 := run_str _ (c := c) (h.chg c0 (by simp))
  have s2 := run_str _ (c := d) (h'.chg c0 (by simp))
  clear c0 h h'
  generalize hr : (cmpE k m xs k' m' ys == 0) = R
  have HR := Lib.hid hr
  clear hr
  by_cases e1 : k = k'
  · subst e1
    by_cases e2 : m = m'
    · subst e2
      go_enter Try.func19, Try.ntmps19
      go_wp2
      go_ret
      refine ⟨?_, C0.out⟩
      show Ending.returned (.bool (xs == ys)) = Ending.returned (.bool R)
      rw [← HR.out]
      congr 2
      rw [Bool.eq_iff_iff, beq_iff_eq, beq_iff_eq, cmpE_zero]
      simp
    · have e2' : (m == m') = false := by simpa using e2
      clear s1 s2
      go_enter Try.func19, Try.ntmps19
      go_wp2
      go_ret
      refine ⟨?_, C0.out⟩
      show Ending.returned (.bool false) = Ending.returned (.bool R)
      rw [← HR.out]
      congr 2
      rw [Bool.eq_iff_iff, beq_iff_eq, cmpE_zero]
      simp [e2]
  · have e1' : (k == k') = false := by simpa using e1
    clear s1 s2
    go_enter Try.func19, Try.ntmps19
    go_wp2
    go_ret
    refine ⟨?_, C0.out⟩
    show Ending.returned (.bool false) = Ending.returned (.bool R)
    rw [← HR.out]
    congr 2
    rw [Bool.eq_iff_iff, beq_iff_eq, cmpE_zero]
    simp [e1]

theorem cmpE_kind {k m k' m' : Int} {xs ys : List UInt8} (h : k ≠ k') : decide (cmpE k m xs k' m' ys < 0) = decide (k < k') := by
  rw [decide_eq_decide]
  unfold cmpE or3 cmpI
  rcases Int.lt_trichotomy k k' with h1 | h1 | h1
  · simp [h1]
  · exact absurd h1 h
  · have : ¬ k < k' := by omega
    simp [h1, this]
theorem cmpE_mode {k m m' : Int} {xs ys : List UInt8} (h : m ≠ m') : decide (cmpE k m xs k m' ys < 0) = decide (m < m') := by
  rw [decide_eq_decide]
  unfold cmpE or3 cmpI
  rcases Int.lt_trichotomy m m' with h1 | h1 | h1
  · simp [h1]
  · exact absurd h1 h
  · have : ¬ m < m' := by omega
    simp [h1, this]
theorem cmpE_bytes {k m : Int} {xs ys : List UInt8} : cmpE k m xs k m ys = Lib.compareBytes xs ys := by
  unfold cmpE or3 cmpI
  simp

set_option maxHeartbeats 1000000 in
theorem fless_any (w : World) (k m k' m' : Int) (A B : Option Addr) (n c n' d : Nat) (xs ys : List UInt8) (h : Bs w A n xs) (h' : Bs w B n' ys) :
    Calls Try.prog 21 #[.agg #[.int .i64 k, .int .i64 m, .slice A n c], .agg #[.int .i64 k', .int .i64 m', .slice B n' d]] w fun e w' => e = .returned (.bool (decide (cmpE k m xs k' m' ys < 0))) ∧ Chg [] w w' := by
  have c0 := ((Chg.refl [] w).alloc (.cells #[.int .i64 k, .int .i64 m, .slice A n c] 24)).alloc (.cells #[.int .i64 k', .int .i64 m', .slice B n' d] 24)
  have C0 := Lib.hid c0
  have s1 := run_str _ (c := c) (h.chg c0 (by simp))
  have s2 := run_str _ (c := d) (h'.chg c0 (by simp))
  clear c0 h h'
  by_cases e1 : k = k'
  · subst e1
    by_cases e2 : m = m'
    · subst e2
      rw [cmpE_bytes, ← bytesLess_cmp]
      have e1' : (k != k) = false := by simp
      have e2' : (m != m) = false := by simp
      go_enter Try.func21, Try.ntmps21
      go_wp2
      go_ret
      exact ⟨rfl, C0.out⟩
    · have e1' : (k != k) = false := by simp
      have e2' : (m != m') = true := by simpa using e2
      rw [cmpE_mode e2]
      clear s1 s2 e2
      go_enter Try.func21, Try.ntmps21
      go_wp2
      go_ret
      exact ⟨rfl, C0.out⟩
  · have e1' : (k != k') = true := by simpa using e1
    rw [cmpE_kind e1]
    clear s1 s2 e1
    go_enter Try.func21, Try.ntmps21
    go_wp2
    go_ret
    exact ⟨rfl, C0.out⟩

set_option maxHeartbeats 1000000 in
theorem fbytes_any (w : World) (k m : Int) (A : Option Addr) (n c : Nat) (ys : List UInt8) (h : Bs w A n ys) (hn : n ≤ 140737488351232) :
    Calls Try.prog 12 #[.agg #[.int .i64 k, .int .i64 m, .slice A n c]] w fun e w' => ∃ A' c', e = .returned (.tuple #[.slice A' (effO k m ys).length c', .int .i64 (chkE k m n)]) ∧ Fresh w w' A' c' (effO k m ys) := by
  have hl := h.len
  subst hl
  obtain ⟨w0, hw0⟩ : ∃ w0 : World, w0 = w.alloc (.cells #[.int .i64 k, .int .i64 m, .slice A ys.length c] 24) := ⟨_, rfl⟩
  have c0 : Chg [] w w0 := hw0 ▸ (Chg.refl [] w).alloc _
  have b0 : w0.heap[w.heap.size]? = some (.cells #[.int .i64 k, .int .i64 m, .slice A ys.length c] 24 (0, 0)) := hw0 ▸ heap_alloc_new w _
  have k0 := cell_of b0 0
  have k1 := cell_of b0 1
  have k2 := cell_of b0 2
  simp only [List.getElem?_toArray, List.getElem?_cons_succ, List.getElem?_cons_zero] at k0 k1 k2
  have H := Lib.hid (h.chg c0 (by simp))
  have W0 := Lib.hid hw0
  have C0 := Lib.hid c0
  clear hw0 c0 b0 h
  unfold effO
  by_cases hf : Fine k m ys.length
  · rw [if_pos hf, chkE_fine hf]
    obtain ⟨e1, e2, e3, l1, l2, l3⟩ := eff_writes hf
    have hb := fine_len hf
    have E1 := Lib.hid e1
    have E2 := Lib.hid e2
    have E3 := Lib.hid e3
    have hc := fcheck_any w0 k m A ys.length c hn
    rw [chkE_fine hf] at hc
    have HC := Lib.hid hc
    clear e1 e2 e3 hf hc
    go_enter Try.func12, Try.ntmps12
    go_wp2_with fail
    rw [← W0.out]
    refine HC.out.mono ?_
    rintro e w1 ⟨rfl, c1⟩
    have C1 := Lib.hid c1
    have hv := vs_new w0 w1 c1
    have p0 := (hv.chg).cell k0 (by simp)
    have K2 := Lib.hid hv
    clear c1 hv
    generalize w.heap.size = s at *
    go_wp2_with fail
    refine (vs_num w0 _ _ [] 0 k K2.out (by simp) (by omega) (by omega)).mono ?_
    rintro e w3 ⟨rfl, h3⟩
    rw [E1.out] at h3
    have p1 := h3.chg.cell k1 (by simp)
    have K3 := Lib.hid h3
    clear h3 p0 K2
    generalize w1.heap.size = b at *
    go_wp2_with fail
    refine (vs_num w0 w3 b _ 0 m K3.out (by omega) (by omega) (by omega)).mono ?_
    rintro e w4 ⟨rfl, h4⟩
    rw [E2.out] at h4
    have p2 := h4.chg.cell k2 (by simp)
    have K4 := Lib.hid h4
    clear h4 p1 K3
    go_wp2_with fail
    refine (vs_raw w0 w4 b _ 0 A ys.length c ys K4.out (by omega) hn H.out).mono ?_
    rintro e w5 ⟨rfl, h5⟩
    rw [E3.out] at h5
    have K5 := Lib.hid h5
    clear h5 p2 K4
    go_wp2_with fail
    refine (vs_out w0 w5 b _ 0 K5.out (by omega)).mono ?_
    rintro e w6 ⟨A', c', rfl, h6⟩
    have e0 : outs (effB k m ys) 0 = effB k m ys := by simp [outs]
    rw [e0] at h6 ⊢
    have K6 := Lib.hid (h6.since C0.out)
    clear h6 e0 k0 k1 k2 K5
    go_wp2
    go_ret2
    exact ⟨A', c', rfl, K6.out⟩
  · rw [if_neg hf, chkE_odd hf]
    have hc := fcheck_any w0 k m A ys.length c hn
    rw [chkE_odd hf] at hc
    have HC := Lib.hid hc
    clear hf hc
    go_enter Try.func12, Try.ntmps12
    go_wp2_with fail
    rw [← W0.out]
    refine HC.out.mono ?_
    rintro e w1 ⟨rfl, c1⟩
    have C1 := Lib.hid (C0.out.trans c1)
    clear c1
    go_wp2
    go_ret2
    exact ⟨none, 0, rfl, Fresh.none_ C1.out⟩
end Go.Proofs.Ytbihcoidbfoaoaa
