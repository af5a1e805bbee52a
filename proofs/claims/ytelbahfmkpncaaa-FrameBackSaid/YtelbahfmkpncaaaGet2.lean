/- Package frame: GetPacket of bytes that are whole. -/
import Derived.Test.YtelbahfmkpncaaaGet
namespace Go.Proofs.Ytelbahfmkpncaaa
open Go.RowKit
set_option linter.unusedSimpArgs false
set_option linter.unusedVariables false

theorem rNum_calm {xs : List UInt8} {p : Nat} {fe fa low high : Int} (he : (rNum xs p fe fa low high).2.2.1 = 0) : fe = 0 ∧ (rNum xs p fe fa low high).2.2.2 = fa := by
  unfold rNum at he ⊢
  split at he
  · rename_i h; exact absurd he h
  · rename_i h
    have hz : fe = 0 := by simpa using h
    rw [if_neg h]
    cases hn : numAt xs p low high with
    | error x => obtain ⟨f, q⟩ := x; simp only [hn] at he; have := numAt_err hn; omega
    | ok x => exact ⟨hz, rfl⟩
theorem rRaw_calm {xs : List UInt8} {p : Nat} {fe fa most : Int} (he : (rRaw xs p fe fa most).2.2.1 = 0) : fe = 0 ∧ (rRaw xs p fe fa most).2.2.2 = fa := by
  unfold rRaw at he ⊢
  split at he
  · rename_i h; exact absurd he h
  · rename_i h
    have hz : fe = 0 := by simpa using h
    rw [if_neg h]
    cases hn : numAt xs p 0 4611686018427387903 with
    | error x => obtain ⟨f, q⟩ := x; simp only [hn] at he; have := numAt_err hn; omega
    | ok x =>
      obtain ⟨n, q⟩ := x
      simp only [hn] at he ⊢
      split at he
      · simp at he
      · rename_i h1
        rw [if_neg h1]
        split at he
        · simp at he
        · rename_i h2; rw [if_neg h2]; exact ⟨hz, rfl⟩
theorem endR_calm {xs : List UInt8} {p : Nat} {fe fa : Int} (he : (endR xs p fe fa).1 = 0) : fe = 0 ∧ (endR xs p fe fa).2 = fa ∧ xs.length ≤ p := by
  unfold endR at he ⊢
  split at he
  · simp at he
  · rename_i h
    rw [if_neg h]
    exact ⟨he, rfl, by omega⟩
theorem pF_zero {xs : List UInt8} (h : (pF xs).1 = 0) : (pF xs).2 = 0 := by
  unfold pF at h ⊢
  obtain ⟨h1, h2, _⟩ := endR_calm h
  rw [h2]
  unfold pR5 at h1 ⊢
  obtain ⟨h3, h4⟩ := rRaw_calm h1
  rw [h4]
  unfold pN4 at h3 ⊢
  obtain ⟨h5, h6⟩ := rNum_calm h3
  rw [h6]
  unfold pN3 at h5 ⊢
  obtain ⟨h5, h6⟩ := rNum_calm h5
  rw [h6]
  unfold pN2 at h5 ⊢
  obtain ⟨h5, h6⟩ := rNum_calm h5
  rw [h6]
  unfold pN1 at h5 ⊢
  obtain ⟨_, h8⟩ := rNum_calm h5
  rw [h8]
theorem pR5_small (xs : List UInt8) : (pR5 xs).1.length ≤ xs.length := by
  have h1 : (pN1 xs).2.1 ≤ xs.length := rNum_le (by omega)
  have h2 : (pN2 xs).2.1 ≤ xs.length := rNum_le h1
  have h3 : (pN3 xs).2.1 ≤ xs.length := rNum_le h2
  have h4 : (pN4 xs).2.1 ≤ xs.length := rNum_le h3
  have h5 := rRaw_le (xs := xs) (fe := (pN4 xs).2.2.1) (fa := (pN4 xs).2.2.2) (most := 400) h4
  unfold pR5
  omega
theorem bs_apart2 {A : Option Addr} {s0 s1 n : Nat} (h : ∀ a, A = some a → n ≤ a.block) (h0 : s0 < n) (h1 : s1 < n) : ∀ a, A = some a → a.block ∉ [s0, s1] := by
  intro a e
  have := h a e
  simp
  omega

set_option maxHeartbeats 8000000 in
theorem pget_good (w : World) (g o c m : Nat) (xs : List UInt8) (h : Bs w (some ⟨g, o, none⟩) (m + 8) xs) (hn : m + 8 ≤ 140737488351232) (hc1 : m + 8 ≤ c) (hc2 : c ≤ 9223372036854775807) (hs : (sumB (xs.take m) == xs.drop m) = true) :
    Calls Try.prog 13 #[.slice (some ⟨g, o, none⟩) (m + 8) c] w (ReadPPost w (readQ (xs.take m))) := by
  obtain ⟨w0, hw0⟩ : ∃ w0 : World, w0 = (w.alloc (.cells #[.int .i64 0, .int .i64 0, .int .i64 0, .int .i64 0, .slice none 0 0] 24)).alloc (.cells #[.int .i64 0, .int .i64 0] 32) := ⟨_, rfl⟩
  have c0 : Chg [] w w0 := hw0 ▸ ((Chg.refl [] w).alloc _).alloc _
  have b0 : w0.heap[w.heap.size]? = some (.cells #[.int .i64 0, .int .i64 0, .int .i64 0, .int .i64 0, .slice none 0 0] 24 (0, 0)) := hw0 ▸ ((Chg.refl [] _).alloc _).at_ (heap_alloc_new w _) (by simp)
  have b1 : w0.heap[w.heap.size + 1]? = some (.cells #[.int .i64 0, .int .i64 0] 32 (0, 0)) := hw0 ▸ heap_alloc_two w _ _
  have h1 : Bs w0 (some ⟨g, o, none⟩) m (xs.take m) := (h.head m (by omega)).chg c0 (by simp)
  have h2 : Bs w0 (some ⟨g, o + m, none⟩) 8 (xs.drop m) := by
    have := (h.tail m (by omega)).chg c0 (by simp)
    rwa [show m + 8 - m = 8 by omega] at this
  have H1 := Lib.hid h1
  have H2 := Lib.hid h2
  have HS := Lib.hid hs
  have W0 := Lib.hid hw0
  have C0 := Lib.hid c0
  have B0 := Lib.hid b0
  have B1 := Lib.hid b1
  have hs2 : ¬ w.heap.size = w.heap.size + 1 := by omega
  have d5 : ¬ w.heap.size + 1 = w.heap.size := by omega
  have hp0 : ∀ w' j v, Chg [] w w' → Chg [] w (w'.setCell ⟨w.heap.size, j, none⟩ v) := fun _ _ _ h => h.setCell (.inr (Nat.le_refl _)) _
  have hp1 : ∀ w' j v, Chg [] w w' → Chg [] w (w'.setCell ⟨w.heap.size + 1, j, none⟩ v) := fun _ _ _ h => h.setCell (.inr (Nat.le_succ _)) _
  have HP0 := Lib.hid hp0
  have HP1 := Lib.hid hp1
  clear hp0 hp1
  have hk : ∀ w', Chg [] w0 w' → True ∧ Chg [] w0 w' := fun _ h => ⟨trivial, h⟩
  have HK := Lib.hid hk
  have g0 := lt_of_heap b0
  have g1 := lt_of_heap b1
  have hb0 : ∀ (A : Option Addr) c ys w', OwnB w' A c ys → (∀ a, A = some a → w0.heap.size ≤ a.block) → Chg [] w w' → Fresh w w' A c ys := fun A c ys w' ho h hc => ⟨ho, fun a e => by have := h a e; omega, hc⟩
  have HB0 := Lib.hid hb0
  clear hb0
  have hlz : (xs.take m).length = m := h1.len
  have HLZ := Lib.hid hlz
  have hchk := fun w1 A c => pcheckp_any w1 (pN1 (xs.take m)).1 (pN2 (xs.take m)).1 (pN3 (xs.take m)).1 (pN4 (xs.take m)).1 A (pR5 (xs.take m)).1.length c (by have := pR5_small (xs.take m); omega)
  have HCk := Lib.hid hchk
  have hr : readQ (xs.take m) = readQ (xs.take m) := rfl
  conv at hr => rhs; unfold readQ
  have HZ := Lib.hid (@pF_zero (xs.take m))
  have HR := Lib.hid hr
  generalize readQ (xs.take m) = RR at *
  clear hchk hr hlz
  have ht : decide ((m : Int) < 0) = false := by simp
  have i0 : (0 : Int) ≤ (m : Int) := by omega
  have i1 : (m : Int) ≤ (c : Int) := by omega
  have i2 : (m : Int) ≤ (m : Int) + 8 := by omega
  have i3 : ¬ c = m := by omega
  have i4 : (m : Int) + 8 ≤ (c : Int) := by omega
  clear hw0 c0 b0 b1 h h1 h2 hk hs
  go_enter Try.func13, Try.ntmps13
  go_wp2_with fail
  rw [← W0.out]
  go_region_held3 (fun w' => True ∧ Chg [] w0 w')
    (first | exact HK.out _ hC | exact HK.out _ (Chg.refl [] w0).drew | (have hC := last1 ‹True ∧ Chg [] w0 _›; first | exact HK.out _ (hC.allocD _) | exact HK.out _ (hC.alloc _) | exact HK.out _ hC))
    (((have hC := last1 ‹True ∧ Chg [] w0 _›); (first
      | (go_at_call 36; refine (pcheck_any _ _ _ _ _ (H1.out.chg hC (by simp)) (by omega)).mono ?_; rintro e w9 ⟨A9, c9, rfl, f9⟩; have hC := hC.trans f9.2.2)
      | (go_at_call 41; refine (bequal_any _ A9 (some ⟨g, o + m, none⟩) 8 8 c9 _ (sumB (xs.take m)) (xs.drop m) (sumB_len (xs.take m) ▸ f9.1.reads) (H2.out.chg hC (by simp))).mono ?_; rw [HS.out]; rintro e w9 ⟨rfl, rfl⟩))))
  all_goals
    have hC := last1 ‹True ∧ Chg [] w0 _›
    have C9 := Lib.hid hC
    clear hC
    generalize w.heap.size + 1 = s1 at *
    generalize w.heap.size = s0 at *
    generalize xs.take m = zs at *
    go_wp2_with fail
    refine (rs_open w0 w9 _ m c zs C9.out H1.out (by omega)).mono ?_
    rintro e w1 ⟨b, rfl, h1⟩
    have K1 := Lib.hid h1
    clear h1
    go_wp2_with fail
    have r1 := rs_num w0 w1 b zs 0 0 0 1 1099511627776 K1.out
    change Calls _ _ _ _ (fun r w' => r = .returned (.int .i64 (pN1 zs).1) ∧ Rs w0 w' b zs (pN1 zs).2.1 (pN1 zs).2.2.1 (pN1 zs).2.2.2 ∧ _) at r1
    refine r1.mono ?_
    rintro e w2 ⟨rfl, h2, -⟩
    have K2 := Lib.hid h2
    clear h2 K1 r1
    go_wp2_with fail
    have r1 := rs_num w0 w2 b zs _ _ _ 0 1099511627776 K2.out
    change Calls _ _ _ _ (fun r w' => r = .returned (.int .i64 (pN2 zs).1) ∧ Rs w0 w' b zs (pN2 zs).2.1 (pN2 zs).2.2.1 (pN2 zs).2.2.2 ∧ _) at r1
    refine r1.mono ?_
    rintro e w3 ⟨rfl, h3, -⟩
    have K3 := Lib.hid h3
    clear h3 K2 r1
    go_wp2_with fail
    have r1 := rs_num w0 w3 b zs _ _ _ 0 1099511627776 K3.out
    change Calls _ _ _ _ (fun r w' => r = .returned (.int .i64 (pN3 zs).1) ∧ Rs w0 w' b zs (pN3 zs).2.1 (pN3 zs).2.2.1 (pN3 zs).2.2.2 ∧ _) at r1
    refine r1.mono ?_
    rintro e w4 ⟨rfl, h4, -⟩
    have K4 := Lib.hid h4
    clear h4 K3 r1
    go_wp2_with fail
    have r1 := rs_num w0 w4 b zs _ _ _ 0 1099511627776 K4.out
    change Calls _ _ _ _ (fun r w' => r = .returned (.int .i64 (pN4 zs).1) ∧ Rs w0 w' b zs (pN4 zs).2.1 (pN4 zs).2.2.1 (pN4 zs).2.2.2 ∧ _) at r1
    refine r1.mono ?_
    rintro e w5 ⟨rfl, h5, -⟩
    have K5 := Lib.hid h5
    clear h5 K4 r1
    go_wp2_with fail
    have r1 := rs_raw w0 w5 b zs _ _ _ 400 K5.out
    change Calls _ _ _ _ (fun r w' => ∃ A c, r = .returned (.slice A (pR5 zs).1.length c) ∧ OwnB w' A c (pR5 zs).1 ∧ (∀ a, A = some a → w5.heap.size ≤ a.block) ∧ Rs w0 w' b zs (pR5 zs).2.1 (pR5 zs).2.2.1 (pR5 zs).2.2.2 ∧ _) at r1
    refine r1.mono ?_
    rintro e w6 ⟨A4, c4, rfl, o4, n4, h4, -⟩
    have n4' : ∀ a, A4 = some a → w0.heap.size ≤ a.block := fun a e => Nat.le_trans K5.out.chg.size (n4 a e)
    have N4 := Lib.hid n4'
    have O4 := Lib.hid o4
    have K6 := Lib.hid h4
    clear o4 n4 n4' h4 K5 r1
    obtain ⟨w7, hw7⟩ : ∃ w7 : World, w7 = w6.alloc (.cells #[.int .i64 (pN1 zs).1, .int .i64 (pN2 zs).1, .int .i64 (pN3 zs).1, .int .i64 (pN4 zs).1, .slice A4 (pR5 zs).1.length c4] 24) := ⟨_, rfl⟩
    have c7 : Chg [] w6 w7 := hw7 ▸ (Chg.refl [] w6).alloc _
    have b7 : w7.heap[w6.heap.size]? = some (.cells #[.int .i64 (pN1 zs).1, .int .i64 (pN2 zs).1, .int .i64 (pN3 zs).1, .int .i64 (pN4 zs).1, .slice A4 (pR5 zs).1.length c4] 24 (0, 0)) := hw7 ▸ heap_alloc_new w6 _
    have K7 := Lib.hid (K6.out.past c7)
    have O7 := Lib.hid (O4.out.chg c7 (by simp))
    have B7 := Lib.hid b7
    have W7 := Lib.hid hw7
    clear hw7 c7 b7 O4 K6
    go_wp2_with fail
    rw [← W7.out]
    have r1 := rs_end w0 w7 b zs _ _ _ K7.out
    change Calls _ _ _ _ (fun r w' => r = .returned (.agg #[.int .i64 (pF zs).1, .int .i64 (pF zs).2]) ∧ _) at r1
    refine r1.mono ?_
    rintro e w8 ⟨rfl, c8⟩
    have B8 := Lib.hid (c8.at_ B7.out (by simp))
    have O8 := Lib.hid (O7.out.chg c8 (by simp))
    have K8 := Lib.hid (K7.out.past c8)
    clear c8 r1 K7 O7 B7 W7
    generalize w6.heap.size = s5 at *
    obtain ⟨wa, hwa⟩ : ∃ wa : World, wa = w8.alloc (.cells #[.int .i64 (pF zs).1, .int .i64 (pF zs).2] 32) := ⟨_, rfl⟩
    have ca : Chg [] w8 wa := hwa ▸ (Chg.refl [] w8).alloc _
    have ba : wa.heap[w8.heap.size]? = some (.cells #[.int .i64 (pF zs).1, .int .i64 (pF zs).2] 32 (0, 0)) := hwa ▸ heap_alloc_new w8 _
    have t6 := K8.out.chg.size
    have d1 : ¬ w8.heap.size = s0 := by omega
    have d2 : ¬ w8.heap.size = s1 := by omega
    have d3 : ¬ s0 = w8.heap.size := by omega
    have d4 : ¬ s1 = w8.heap.size := by omega
    clear t6
    have Ka := Lib.hid (K8.out.past ca)
    have Oa := Lib.hid (O8.out.chg ca (by simp))
    have bb := ca.at_ B8.out (by simp)
    have Wa := Lib.hid hwa
    have y0 := cell_of ba 0
    have y1 := cell_of ba 1
    have x0 := cell_of bb 0
    have x1 := cell_of bb 1
    have x2 := cell_of bb 2
    have x3 := cell_of bb 3
    have x4 := cell_of bb 4
    simp only [List.getElem?_toArray, List.getElem?_cons_succ, List.getElem?_cons_zero] at y0 y1 x0 x1 x2 x3 x4
    have hlt := lt_of_heap B8.out
    have C7 := Lib.hid (C0.out.trans Ka.out.chg)
    clear hwa ca ba bb K8 O8 B8
    go_upto_region 7 with fail
    rw [← Wa.out]
    generalize w8.heap.size = s6 at *
    by_cases he : (pF zs).1 = 0
    · have hr := HR.out
      rw [if_neg (by simpa using he)] at hr
      have he' : ((pF zs).1 != 0) = false := by simpa using he
      clear he
      by_cases hf : FineP (pN1 zs).1 (pN2 zs).1 (pN3 zs).1 (pN4 zs).1 (pR5 zs).1.length
      · rw [if_pos hf] at hr
        have HR2 := Lib.hid hr
        have hc := HCk.out wa A4 c4
        rw [chkP_fine hf] at hc
        have HC := Lib.hid hc
        clear hf hc hr HR HCk
        go_wp2_with fail
        refine HC.out.mono ?_
        rintro e wb ⟨rfl, cb⟩
        have x0 := cb.cell x0 (by simp)
        have x1 := cb.cell x1 (by simp)
        have x2 := cb.cell x2 (by simp)
        have x3 := cb.cell x3 (by simp)
        have x4 := cb.cell x4 (by simp)
        have QC := Lib.hid (Ka.out.chg.trans cb)
        have O8 := Lib.hid (Oa.out.chg cb (by simp))
        have C8 := Lib.hid (C7.out.trans cb)
        clear cb y0 y1
        have q0 := QC.out.at_ B0.out (by simp)
        have q1 := QC.out.at_ B1.out (by simp)
        have z0 := cell_of q0 0
        have z1 := cell_of q0 1
        have z2 := cell_of q0 2
        have z3 := cell_of q0 3
        have z4 := cell_of q0 4
        have z5 := cell_of q1 0
        have z6 := cell_of q1 1
        have f0 := free_of q0 0
        have f1 := free_of q0 1
        have f2 := free_of q0 2
        have f3 := free_of q0 3
        have f4 := free_of q0 4
        have f5 := free_of q1 0
        have f6 := free_of q1 1
        simp only [List.getElem?_toArray, List.getElem?_cons_succ, List.getElem?_cons_zero] at z0 z1 z2 z3 z4 z5 z6
        have P := put7 (.int .i64 (pN1 zs).1) (.int .i64 (pN2 zs).1) (.int .i64 (pN3 zs).1) (.int .i64 (pN4 zs).1) (.slice A4 (pR5 zs).1.length c4) (.int .i64 0) (.int .i64 0) q0 q1 hs2
        have cW := (HP1.out _ 1 (.int .i64 0) (HP1.out _ 0 (.int .i64 0) (HP0.out _ 4 (.slice A4 (pR5 zs).1.length c4) (HP0.out _ 3 (.int .i64 (pN4 zs).1) (HP0.out _ 2 (.int .i64 (pN3 zs).1) (HP0.out _ 1 (.int .i64 (pN2 zs).1) (HP0.out _ 0 (.int .i64 (pN1 zs).1) C8.out)))))))
        have FW := Lib.hid (HB0.out _ _ _ _ (O8.out.chg (S := [s0, s1]) ((((((((Chg.refl [s0, s1] wb).setCell (.inl (by simp)) _).setCell (.inl (by simp)) _).setCell (.inl (by simp)) _).setCell (.inl (by simp)) _).setCell (.inl (by simp)) _).setCell (.inl (by simp)) _).setCell (.inl (by simp)) _) (bs_apart2 N4.out g0 g1)) N4.out cW)
        have HPP := Lib.hid P
        clear P cW q0 q1
        go_wp2
        clear z0 z1 z2 z3 z4 z5 z6 f0 f1 f2 f3 f4 f5 f6
        generalize (((((((wb.setCell ⟨s0, 0, none⟩ (.int .i64 (pN1 zs).1)).setCell ⟨s0, 1, none⟩ (.int .i64 (pN2 zs).1)).setCell ⟨s0, 2, none⟩ (.int .i64 (pN3 zs).1)).setCell ⟨s0, 3, none⟩ (.int .i64 (pN4 zs).1)).setCell ⟨s0, 4, none⟩ (.slice A4 (pR5 zs).1.length c4)).setCell ⟨s1, 0, none⟩ (.int .i64 0)).setCell ⟨s1, 1, none⟩ (.int .i64 0)) = W at *
        have z0 := cell_of HPP.out.1 0
        have z1 := cell_of HPP.out.1 1
        have z2 := cell_of HPP.out.1 2
        have z3 := cell_of HPP.out.1 3
        have z4 := cell_of HPP.out.1 4
        have z5 := cell_of HPP.out.2 0
        have z6 := cell_of HPP.out.2 1
        simp only [List.getElem?_toArray, List.getElem?_cons_succ, List.getElem?_cons_zero] at z0 z1 z2 z3 z4 z5 z6
        refine bodyPost_ret (v := .tuple #[.agg #[.int .i64 (pN1 zs).1, .int .i64 (pN2 zs).1, .int .i64 (pN3 zs).1, .int .i64 (pN4 zs).1, .slice A4 (pR5 zs).1.length c4], .agg #[.int .i64 0, .int .i64 0]]) (by simp [results, Try.results13, go_sem, z0, z1, z2, z3, z4, z5, z6]) rfl ?_
        rw [HR2.out]
        exact ⟨A4, c4, rfl, FW.out⟩
      · rw [if_neg hf] at hr
        have HR2 := Lib.hid hr
        have hc := HCk.out wa A4 c4
        rw [chkP_odd hf] at hc
        have HC := Lib.hid hc
        clear hf hc hr HR HCk
        go_wp2_with fail
        refine HC.out.mono ?_
        rintro e wb ⟨rfl, cb⟩
        have QC := Lib.hid (Ka.out.chg.trans cb)
        have C8 := Lib.hid (C7.out.trans cb)
        clear cb y0 y1 x0 x1 x2 x3 x4
        have q0 := QC.out.at_ B0.out (by simp)
        have q1 := QC.out.at_ B1.out (by simp)
        have z0 := cell_of q0 0
        have z1 := cell_of q0 1
        have z2 := cell_of q0 2
        have z3 := cell_of q0 3
        have z4 := cell_of q0 4
        have z5 := cell_of q1 0
        have z6 := cell_of q1 1
        have f0 := free_of q0 0
        have f1 := free_of q0 1
        have f2 := free_of q0 2
        have f3 := free_of q0 3
        have f4 := free_of q0 4
        have f5 := free_of q1 0
        have f6 := free_of q1 1
        simp only [List.getElem?_toArray, List.getElem?_cons_succ, List.getElem?_cons_zero] at z0 z1 z2 z3 z4 z5 z6
        have P := put7 (.int .i64 0) (.int .i64 0) (.int .i64 0) (.int .i64 0) (.slice none 0 0) (.int .i64 2) (.int .i64 0) q0 q1 hs2
        have cW := (HP1.out _ 1 (.int .i64 0) (HP1.out _ 0 (.int .i64 2) (HP0.out _ 4 (.slice none 0 0) (HP0.out _ 3 (.int .i64 0) (HP0.out _ 2 (.int .i64 0) (HP0.out _ 1 (.int .i64 0) (HP0.out _ 0 (.int .i64 0) C8.out)))))))
        have FW := Lib.hid (Fresh.none_ cW)
        have HPP := Lib.hid P
        clear P cW q0 q1
        go_wp2
        clear z0 z1 z2 z3 z4 z5 z6 f0 f1 f2 f3 f4 f5 f6
        generalize (((((((wb.setCell ⟨s0, 0, none⟩ (.int .i64 0)).setCell ⟨s0, 1, none⟩ (.int .i64 0)).setCell ⟨s0, 2, none⟩ (.int .i64 0)).setCell ⟨s0, 3, none⟩ (.int .i64 0)).setCell ⟨s0, 4, none⟩ (.slice none 0 0)).setCell ⟨s1, 0, none⟩ (.int .i64 2)).setCell ⟨s1, 1, none⟩ (.int .i64 0)) = W at *
        have z0 := cell_of HPP.out.1 0
        have z1 := cell_of HPP.out.1 1
        have z2 := cell_of HPP.out.1 2
        have z3 := cell_of HPP.out.1 3
        have z4 := cell_of HPP.out.1 4
        have z5 := cell_of HPP.out.2 0
        have z6 := cell_of HPP.out.2 1
        simp only [List.getElem?_toArray, List.getElem?_cons_succ, List.getElem?_cons_zero] at z0 z1 z2 z3 z4 z5 z6
        refine bodyPost_ret (v := .tuple #[.agg #[.int .i64 0, .int .i64 0, .int .i64 0, .int .i64 0, .slice none 0 0], .agg #[.int .i64 2, .int .i64 0]]) (by simp [results, Try.results13, go_sem, z0, z1, z2, z3, z4, z5, z6]) rfl ?_
        rw [HR2.out]
        exact ⟨none, 0, rfl, FW.out⟩
    · have hr := HR.out
      rw [if_pos he] at hr
      have HR2 := Lib.hid hr
      have he' : ((pF zs).1 != 0) = true := by simpa using he
      have QC := Lib.hid Ka.out.chg
      have C8 := C7
      clear he hr HR HCk x0 x1 x2 x3 x4
      have e1 : ¬ s6 = s0 := d1
      have e2 : ¬ s6 = s1 := d2
      have q0 := QC.out.at_ B0.out (by simp)
      have q1 := QC.out.at_ B1.out (by simp)
      have z0 := cell_of q0 0
      have z1 := cell_of q0 1
      have z2 := cell_of q0 2
      have z3 := cell_of q0 3
      have z4 := cell_of q0 4
      have z5 := cell_of q1 0
      have z6 := cell_of q1 1
      have f0 := free_of q0 0
      have f1 := free_of q0 1
      have f2 := free_of q0 2
      have f3 := free_of q0 3
      have f4 := free_of q0 4
      have f5 := free_of q1 0
      have f6 := free_of q1 1
      simp only [List.getElem?_toArray, List.getElem?_cons_succ, List.getElem?_cons_zero] at z0 z1 z2 z3 z4 z5 z6
      have P := put7 (.int .i64 0) (.int .i64 0) (.int .i64 0) (.int .i64 0) (.slice none 0 0) (.int .i64 (pF zs).1) (.int .i64 (pF zs).2) q0 q1 hs2
      have cW := (HP1.out _ 1 (.int .i64 (pF zs).2) (HP1.out _ 0 (.int .i64 (pF zs).1) (HP0.out _ 4 (.slice none 0 0) (HP0.out _ 3 (.int .i64 0) (HP0.out _ 2 (.int .i64 0) (HP0.out _ 1 (.int .i64 0) (HP0.out _ 0 (.int .i64 0) C8.out)))))))
      have FW := Lib.hid (Fresh.none_ (Chg.drew cW))
      have HPP := Lib.hid P
      clear P cW q0 q1
      go_wp2
      go_region
      go_wp2
      clear z0 z1 z2 z3 z4 z5 z6 f0 f1 f2 f3 f4 f5 f6
      generalize (((((((wa.setCell ⟨s0, 0, none⟩ (.int .i64 0)).setCell ⟨s0, 1, none⟩ (.int .i64 0)).setCell ⟨s0, 2, none⟩ (.int .i64 0)).setCell ⟨s0, 3, none⟩ (.int .i64 0)).setCell ⟨s0, 4, none⟩ (.slice none 0 0)).setCell ⟨s1, 0, none⟩ (.int .i64 (pF zs).1)).setCell ⟨s1, 1, none⟩ (.int .i64 (pF zs).2)) = W at *
      have z0 := cell_of HPP.out.1 0
      have z1 := cell_of HPP.out.1 1
      have z2 := cell_of HPP.out.1 2
      have z3 := cell_of HPP.out.1 3
      have z4 := cell_of HPP.out.1 4
      have z5 := cell_of HPP.out.2 0
      have z6 := cell_of HPP.out.2 1
      simp only [List.getElem?_toArray, List.getElem?_cons_succ, List.getElem?_cons_zero] at z0 z1 z2 z3 z4 z5 z6
      refine bodyPost_ret (v := .tuple #[.agg #[.int .i64 0, .int .i64 0, .int .i64 0, .int .i64 0, .slice none 0 0], .agg #[.int .i64 (pF zs).1, .int .i64 (pF zs).2]]) (by simp [results, Try.results13, go_sem, z0, z1, z2, z3, z4, z5, z6]) rfl ?_
      rw [HR2.out]
      exact ⟨none, 0, rfl, FW.out⟩
end Go.Proofs.Ytelbahfmkpncaaa
