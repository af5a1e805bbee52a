/- Package effect: Read. -/
import Derived.Test.YtbihcoidbfoaoaaEff2
import Derived.Deep.Cut
import Derived.Deep.CutRange
namespace Go.Proofs.Ytbihcoidbfoaoaa
open Go.RowKit
set_option linter.unusedSimpArgs false

/-- What is read of an effect's bytes: its kind, its mode, its bytes, the end. -/
def eN1 (xs : List UInt8) : Int × Nat × Int × Int := rNum xs 0 0 0 1 3
def eN2 (xs : List UInt8) : Int × Nat × Int × Int := rNum xs (eN1 xs).2.1 (eN1 xs).2.2.1 (eN1 xs).2.2.2 0 511
def eR3 (xs : List UInt8) : List UInt8 × Nat × Int × Int := rRaw xs (eN2 xs).2.1 (eN2 xs).2.2.1 (eN2 xs).2.2.2 1000
def eF (xs : List UInt8) : Int × Int := endR xs (eR3 xs).2.1 (eR3 xs).2.2.1 (eR3 xs).2.2.2
/-- What an effect's bytes read as: the effect; the fault. -/
def readE (xs : List UInt8) : (Int × Int × List UInt8) × Int × Int :=
  if (eF xs).1 ≠ 0 then ((0, 0, []), eF xs) else if Fine (eN1 xs).1 (eN2 xs).1 (eR3 xs).1.length then (((eN1 xs).1, (eN2 xs).1, (eR3 xs).1), (0, 0)) else ((0, 0, []), (2, 0))

/-- What Read leaves. -/
def ReadEPost (w : World) (r : (Int × Int × List UInt8) × Int × Int) (e : Ending) (w' : World) : Prop :=
  ∃ A c, e = .returned (.tuple #[.agg #[.int .i64 r.1.1, .int .i64 r.1.2.1, .slice A r.1.2.2.length c], .agg #[.int .i64 r.2.1, .int .i64 r.2.2]]) ∧ Fresh w w' A c r.1.2.2

theorem rNum_calm {xs : List UInt8} {p : Nat} {fe fa low high : Int} (he : (rNum xs p fe fa low high).2.2.1 = 0) : fe = 0 ∧ (rNum xs p fe fa low high).2.2.2 = fa := by
  unfold rNum at he ⊢
  split at he
  · rename_i h; exact absurd he h
  · rename_i h
    have hz : fe = 0 := by simpa using h
    rw [if_neg h]
    cases hn : numAt xs p low high with
    | error x => obtain ⟨f, q⟩ := x; simp only [hn] at he; have := numAt_err hn; omega
    | ok x => exact ⟨hz, rfl⟩
theorem rRaw_calm {xs : List UInt8} {p : Nat} {fe fa most : Int} (he : (rRaw xs p fe fa most).2.2.1 = 0) : fe = 0 ∧ (rRaw xs p fe fa most).2.2.2 = fa := by
  unfold rRaw at he ⊢
  split at he
  · rename_i h; exact absurd he h
  · rename_i h
    have hz : fe = 0 := by simpa using h
    rw [if_neg h]
    cases hn : numAt xs p 0 4611686018427387903 with
    | error x => obtain ⟨f, q⟩ := x; simp only [hn] at he; have := numAt_err hn; omega
    | ok x =>
      obtain ⟨n, q⟩ := x
      simp only [hn] at he ⊢
      split at he
      · simp at he
      · rename_i h1
        rw [if_neg h1]
        split at he
        · simp at he
        · rename_i h2; rw [if_neg h2]; exact ⟨hz, rfl⟩
theorem endR_calm {xs : List UInt8} {p : Nat} {fe fa : Int} (he : (endR xs p fe fa).1 = 0) : fe = 0 ∧ (endR xs p fe fa).2 = fa ∧ xs.length ≤ p := by
  unfold endR at he ⊢
  split at he
  · simp at he
  · rename_i h
    rw [if_neg h]
    exact ⟨he, rfl, by omega⟩
/-- Without a fault none is told at any place. -/
theorem eF_zero {xs : List UInt8} (h : (eF xs).1 = 0) : (eF xs).2 = 0 := by
  unfold eF at h ⊢
  obtain ⟨h1, h2, _⟩ := endR_calm h
  rw [h2]
  unfold eR3 at h1 ⊢
  obtain ⟨h3, h4⟩ := rRaw_calm h1
  rw [h4]
  unfold eN2 at h3 ⊢
  obtain ⟨h5, h6⟩ := rNum_calm h3
  rw [h6]
  unfold eN1 at h5 ⊢
  obtain ⟨_, h8⟩ := rNum_calm h5
  rw [h8]

theorem bs_apart2 {A : Option Addr} {s0 s1 n : Nat} (h : ∀ a, A = some a → n ≤ a.block) (h0 : s0 < n) (h1 : s1 < n) : ∀ a, A = some a → a.block ∉ [s0, s1] := by
  intro a e
  have := h a e
  simp
  omega

set_option maxHeartbeats 4000000 in
theorem eread_any (w : World) (A : Option Addr) (n c : Nat) (xs : List UInt8) (h : Bs w A n xs) (hn : n ≤ 140737488351232) :
    Calls Try.prog 24 #[.slice A n c] w (ReadEPost w (readE xs)) := by
  have hl := h.len
  subst hl
  obtain ⟨w0, hw0⟩ : ∃ w0 : World, w0 = (w.alloc (.cells #[.int .i64 0, .int .i64 0, .slice none 0 0] 24)).alloc (.cells #[.int .i64 0, .int .i64 0] 37) := ⟨_, rfl⟩
  have c0 : Chg [] w w0 := hw0 ▸ ((Chg.refl [] w).alloc _).alloc _
  have b0 : w0.heap[w.heap.size]? = some (.cells #[.int .i64 0, .int .i64 0, .slice none 0 0] 24 (0, 0)) := hw0 ▸ ((Chg.refl [] _).alloc _).at_ (heap_alloc_new w _) (by simp)
  have b1 : w0.heap[w.heap.size + 1]? = some (.cells #[.int .i64 0, .int .i64 0] 37 (0, 0)) := hw0 ▸ heap_alloc_two w _ _
  have g0 := lt_of_heap b0
  have g1 := lt_of_heap b1
  have hp0 : ∀ w' j v, Chg [] w w' → Chg [] w (w'.setCell ⟨w.heap.size, j, none⟩ v) := fun _ _ _ h => h.setCell (.inr (Nat.le_refl _)) _
  have hp1 : ∀ w' j v, Chg [] w w' → Chg [] w (w'.setCell ⟨w.heap.size + 1, j, none⟩ v) := fun _ _ _ h => h.setCell (.inr (Nat.le_succ _)) _
  have HP0 := Lib.hid hp0
  have HP1 := Lib.hid hp1
  have hb0 : ∀ (A : Option Addr) c ys w', OwnB w' A c ys → (∀ a, A = some a → w0.heap.size ≤ a.block) → Chg [] w w' → Fresh w w' A c ys := fun A c ys w' ho h hc => ⟨ho, fun a e => by have := h a e; omega, hc⟩
  have HB0 := Lib.hid hb0
  clear hp0 hp1 hb0
  have hs2 : ¬ w.heap.size = w.heap.size + 1 := by omega
  have H := Lib.hid (h.chg c0 (by simp))
  have W0 := Lib.hid hw0
  have C0 := Lib.hid c0
  have B0 := Lib.hid b0
  have B1 := Lib.hid b1
  clear hw0 c0 b0 b1 h
  have hchk := fun w1 A c => check_any w1 (eN1 xs).1 (eN2 xs).1 A (eR3 xs).1.length c (by have := rRaw_le (xs := xs) (fe := (eN2 xs).2.2.1) (fa := (eN2 xs).2.2.2) (most := 1000) (p := (eN2 xs).2.1) (by unfold eN2; exact rNum_le (by unfold eN1; exact rNum_le (by omega))); unfold eR3; omega)
  have HCk := Lib.hid hchk
  have hr : readE xs = readE xs := rfl
  conv at hr => rhs; unfold readE
  have hz := @eF_zero xs
  have HZ := Lib.hid hz
  have HR := Lib.hid hr
  generalize readE xs = RR at *
  clear hchk hz hr
  go_enter Try.func24, Try.ntmps24
  go_wp2_with fail
  rw [← W0.out]
  generalize w.heap.size + 1 = s1 at *
  generalize w.heap.size = s0 at *
  refine (rs_open w0 w0 A xs.length c xs (Chg.refl _ _) H.out hn).mono ?_
  rintro e w1 ⟨b, rfl, h1⟩
  have K1 := Lib.hid h1
  clear h1
  go_wp2_with fail
  have r1 := rs_num w0 w1 b xs 0 0 0 1 3 K1.out
  change Calls _ _ _ _ (fun r w' => r = .returned (.int .i64 (eN1 xs).1) ∧ Rs w0 w' b xs (eN1 xs).2.1 (eN1 xs).2.2.1 (eN1 xs).2.2.2 ∧ _) at r1
  refine r1.mono ?_
  rintro e w2 ⟨rfl, h2, -⟩
  have K2 := Lib.hid h2
  clear h2 K1 r1
  go_wp2_with fail
  have r1 := rs_num w0 w2 b xs _ _ _ 0 511 K2.out
  change Calls _ _ _ _ (fun r w' => r = .returned (.int .i64 (eN2 xs).1) ∧ Rs w0 w' b xs (eN2 xs).2.1 (eN2 xs).2.2.1 (eN2 xs).2.2.2 ∧ _) at r1
  refine r1.mono ?_
  rintro e w3 ⟨rfl, h3, -⟩
  have K3 := Lib.hid h3
  clear h3 K2 r1
  go_wp2_with fail
  have r1 := rs_raw w0 w3 b xs _ _ _ 1000 K3.out
  change Calls _ _ _ _ (fun r w' => ∃ A c, r = .returned (.slice A (eR3 xs).1.length c) ∧ OwnB w' A c (eR3 xs).1 ∧ (∀ a, A = some a → w3.heap.size ≤ a.block) ∧ Rs w0 w' b xs (eR3 xs).2.1 (eR3 xs).2.2.1 (eR3 xs).2.2.2 ∧ _) at r1
  refine r1.mono ?_
  rintro e w4 ⟨A4, c4, rfl, o4, n4, h4, -⟩
  have n4' : ∀ a, A4 = some a → w0.heap.size ≤ a.block := fun a e => Nat.le_trans K3.out.chg.size (n4 a e)
  have N4 := Lib.hid n4'
  have O4 := Lib.hid o4
  have K4 := Lib.hid h4
  clear o4 n4 n4' h4 K3 r1
  obtain ⟨w5, hw5⟩ : ∃ w5 : World, w5 = w4.alloc (.cells #[.int .i64 (eN1 xs).1, .int .i64 (eN2 xs).1, .slice A4 (eR3 xs).1.length c4] 24) := ⟨_, rfl⟩
  have c5 : Chg [] w4 w5 := hw5 ▸ (Chg.refl [] w4).alloc _
  have b5 : w5.heap[w4.heap.size]? = some (.cells #[.int .i64 (eN1 xs).1, .int .i64 (eN2 xs).1, .slice A4 (eR3 xs).1.length c4] 24 (0, 0)) := hw5 ▸ heap_alloc_new w4 _
  have K5 := Lib.hid (K4.out.past c5)
  have O5 := Lib.hid (O4.out.chg c5 (by simp))
  have B5 := Lib.hid b5
  have W5 := Lib.hid hw5
  clear hw5 c5 b5 O4
  go_wp2_with fail
  rw [← W5.out]
  have r1 := rs_end w0 w5 b xs _ _ _ K5.out
  change Calls _ _ _ _ (fun r w' => r = .returned (.agg #[.int .i64 (eF xs).1, .int .i64 (eF xs).2]) ∧ _) at r1
  refine r1.mono ?_
  rintro e w6 ⟨rfl, c6⟩
  have B6 := Lib.hid (c6.at_ B5.out (by simp))
  have O6 := Lib.hid (O5.out.chg c6 (by simp))
  have K6 := Lib.hid (K5.out.past c6)
  clear c6 r1 K5 O5 B5 K4 W5
  generalize w4.heap.size = s5 at *
  have t6 := K6.out.chg.size
  have d1 : ¬ w6.heap.size = s0 := by omega
  have d2 : ¬ w6.heap.size = s1 := by omega
  have d3 : ¬ s0 = w6.heap.size := by omega
  have d4 : ¬ s1 = w6.heap.size := by omega
  have d5 : ¬ s1 = s0 := by omega
  clear t6
  obtain ⟨w7, hw7⟩ : ∃ w7 : World, w7 = w6.alloc (.cells #[.int .i64 (eF xs).1, .int .i64 (eF xs).2] 37) := ⟨_, rfl⟩
  have c7 : Chg [] w6 w7 := hw7 ▸ (Chg.refl [] w6).alloc _
  have b7 : w7.heap[w6.heap.size]? = some (.cells #[.int .i64 (eF xs).1, .int .i64 (eF xs).2] 37 (0, 0)) := hw7 ▸ heap_alloc_new w6 _
  have K7 := Lib.hid (K6.out.past c7)
  have O7 := Lib.hid (O6.out.chg c7 (by simp))
  have b5 := c7.at_ B6.out (by simp)
  have W7 := Lib.hid hw7
  have q0 := K7.out.chg.at_ B0.out (by simp)
  have q1 := K7.out.chg.at_ B1.out (by simp)
  have z0 := cell_of q0 0
  have z1 := cell_of q0 1
  have z2 := cell_of q0 2
  have z3 := cell_of q1 0
  have z4 := cell_of q1 1
  have f0 := free_of q0 0
  have f1 := free_of q0 1
  have f2 := free_of q0 2
  have f3 := free_of q1 0
  have f4 := free_of q1 1
  simp only [List.getElem?_toArray, List.getElem?_cons_succ, List.getElem?_cons_zero] at z0 z1 z2 z3 z4
  clear q0 q1
  have y0 := cell_of b7 0
  have y1 := cell_of b7 1
  have x0 := cell_of b5 0
  have x1 := cell_of b5 1
  have x2 := cell_of b5 2
  simp only [List.getElem?_toArray, List.getElem?_cons_succ, List.getElem?_cons_zero] at y0 y1 x0 x1 x2
  have B5 := Lib.hid b5
  clear hw7 c7 b7 b5 K6 O6 B6
  have C7 := Lib.hid (C0.out.trans K7.out.chg)
  by_cases he : (eF xs).1 = 0
  · have hr := HR.out
    rw [if_neg (by simpa using he)] at hr
    have he2 := HZ.out he
    have he' : ((eF xs).1 != 0) = false := by simpa using he
    by_cases hf : Fine (eN1 xs).1 (eN2 xs).1 (eR3 xs).1.length
    · rw [if_pos hf] at hr
      have HR2 := Lib.hid hr
      have hc := HCk.out w7 A4 c4
      rw [chkE_fine hf] at hc
      have HC := Lib.hid hc
      clear he he2 hf hc hr HR HCk
      go_upto_region 4 with fail
      rw [← W7.out]
      generalize w6.heap.size = s6 at *
      go_wp2_with fail
      refine HC.out.mono ?_
      rintro e w8 ⟨rfl, c8⟩
      have z0 := c8.cell z0 (by simp)
      have z1 := c8.cell z1 (by simp)
      have z2 := c8.cell z2 (by simp)
      have z3 := c8.cell z3 (by simp)
      have z4 := c8.cell z4 (by simp)
      have x0 := c8.cell x0 (by simp)
      have x1 := c8.cell x1 (by simp)
      have x2 := c8.cell x2 (by simp)
      have q0 := (K7.out.chg.trans c8).at_ B0.out (by simp)
      have q1 := (K7.out.chg.trans c8).at_ B1.out (by simp)
      have f0 := free_of q0 0
      have f1 := free_of q0 1
      have f2 := free_of q0 2
      have f3 := free_of q1 0
      have f4 := free_of q1 1
      have O8 := Lib.hid (O7.out.chg c8 (by simp))
      have C8 := Lib.hid (C7.out.trans c8)
      clear c8 q0 q1 y0 y1
      go_wp2
      refine bodyPost_ret (v := .tuple #[.agg #[.int .i64 (eN1 xs).1, .int .i64 (eN2 xs).1, .slice A4 (eR3 xs).1.length c4], .agg #[.int .i64 0, .int .i64 0]]) (by simp [results, Try.results24, go_sem, z0, z1, z2, z3, z4, hs2, d5]) rfl ?_
      rw [HR2.out]
      exact ⟨A4, c4, rfl, HB0.out _ _ _ _ (O8.out.chg (S := [s0, s1]) (((((((Chg.refl [s0, s1] w8).setCell (.inl (by simp)) _).setCell (.inl (by simp)) _).setCell (.inl (by simp)) _).setCell (.inl (by simp)) _).setCell (.inl (by simp)) _)) (bs_apart2 N4.out g0 g1)) N4.out (HP1.out _ _ _ (HP1.out _ _ _ (HP0.out _ _ _ (HP0.out _ _ _ (HP0.out _ _ _ C8.out)))))⟩
    · rw [if_neg hf] at hr
      have HR2 := Lib.hid hr
      have hc := HCk.out w7 A4 c4
      rw [chkE_odd hf] at hc
      have HC := Lib.hid hc
      clear he he2 hf hc hr HR HCk
      go_upto_region 4 with fail
      rw [← W7.out]
      generalize w6.heap.size = s6 at *
      go_wp2_with fail
      refine HC.out.mono ?_
      rintro e w8 ⟨rfl, c8⟩
      have z0 := c8.cell z0 (by simp)
      have z1 := c8.cell z1 (by simp)
      have z2 := c8.cell z2 (by simp)
      have z3 := c8.cell z3 (by simp)
      have z4 := c8.cell z4 (by simp)
      have q0 := (K7.out.chg.trans c8).at_ B0.out (by simp)
      have q1 := (K7.out.chg.trans c8).at_ B1.out (by simp)
      have f0 := free_of q0 0
      have f1 := free_of q0 1
      have f2 := free_of q0 2
      have f3 := free_of q1 0
      have f4 := free_of q1 1
      have C8 := Lib.hid (C7.out.trans c8)
      clear c8 q0 q1 y0 y1 x0 x1 x2
      go_wp2
      refine bodyPost_ret (v := .tuple #[.agg #[.int .i64 0, .int .i64 0, .slice none 0 0], .agg #[.int .i64 2, .int .i64 0]]) (by simp [results, Try.results24, go_sem, z0, z1, z2, z3, z4, hs2, d5]) rfl ?_
      rw [HR2.out]
      exact ⟨none, 0, rfl, Fresh.none_ (HP1.out _ _ _ (HP1.out _ _ _ (HP0.out _ _ _ (HP0.out _ _ _ (HP0.out _ _ _ C8.out)))))⟩
  · have hr := HR.out
    rw [if_pos he] at hr
    have HR2 := Lib.hid hr
    have he' : ((eF xs).1 != 0) = true := by simpa using he
    clear he hr HR
    go_upto_region 4 with fail
    rw [← W7.out]
    generalize w6.heap.size = s6 at *
    go_wp2
    go_region
    all_goals
      go_wp2
      refine bodyPost_ret (v := .tuple #[.agg #[.int .i64 0, .int .i64 0, .slice none 0 0], .agg #[.int .i64 (eF xs).1, .int .i64 (eF xs).2]]) (by simp [results, Try.results24, go_sem, z0, z1, z2, z3, z4, hs2, d5]) rfl ?_
      rw [HR2.out]
      exact ⟨none, 0, rfl, Fresh.none_ (HP1.out _ _ _ (HP1.out _ _ _ (HP0.out _ _ _ (HP0.out _ _ _ (HP0.out _ _ _ C7.out))))).drew⟩
end Go.Proofs.Ytbihcoidbfoaoaa
