/- The document's effects: Read. -/
import Derived.Test.YtbihcoidbfoaoaaErd
import Derived.Test.YtbihcoidbfoaoaaEfv
namespace Go.Proofs.Ytbihcoidbfoaoaa
open Go.RowKit
set_option linter.unusedSimpArgs false

theorem Us.set {w w1 : World} {v : Nat} {A : Option Addr} {c : Nat} {xs : List UInt8} {p : Nat} {fe fa : Int} (h : Us w w1 v A c xs p fe fa) {s : Nat} (j : Nat) (u : Value) (hs : w.heap.size ≤ s) (hne : ¬ s = v) : Us w (w1.setCell ⟨s, j, none⟩ u) v A c xs p fe fa := by
  refine ⟨h.1.chg ((Chg.refl [s] w1).setCell (.inl (by simp)) _) (by simp; exact fun e => hne e.symm) ?_, h.2.1, h.chg.setCell (.inr hs) _, h.2.2.2⟩
  rcases h.2.2.2.1.old with hh | hh
  · exact .inl hh
  · exact .inr fun a e => by have := hh a e; simp; omega

set_option maxHeartbeats 4000000 in
theorem fread_any (w : World) (A : Option Addr) (n c : Nat) (xs : List UInt8) (h : Bs w A n xs) (hn : n ≤ 140737488351232) (hn1 : n ≤ c) (hn2 : c ≤ 9223372036854775807) :
    Calls Try.prog 25 #[.slice A n c] w (ReadEPost w (readE xs)) := by
  have hl := h.len
  subst hl
  obtain ⟨w0, hw0⟩ : ∃ w0 : World, w0 = (w.alloc (.cells #[.int .i64 0, .int .i64 0, .slice none 0 0] 24)).alloc (.cells #[.int .i64 0, .int .i64 0] 37) := ⟨_, rfl⟩
  have c0 : Chg [] w w0 := hw0 ▸ ((Chg.refl [] w).alloc _).alloc _
  have b0 : w0.heap[w.heap.size]? = some (.cells #[.int .i64 0, .int .i64 0, .slice none 0 0] 24 (0, 0)) := hw0 ▸ ((Chg.refl [] _).alloc _).at_ (heap_alloc_new w _) (by simp)
  have b1 : w0.heap[w.heap.size + 1]? = some (.cells #[.int .i64 0, .int .i64 0] 37 (0, 0)) := hw0 ▸ heap_alloc_two w _ _
  have g0 := lt_of_heap b0
  have g1 := lt_of_heap b1
  have hp0 : ∀ w' j v, Chg [] w w' → Chg [] w (w'.setCell ⟨w.heap.size, j, none⟩ v) := fun _ _ _ h => h.setCell (.inr (Nat.le_refl _)) _
  have hp1 : ∀ w' j v, Chg [] w w' → Chg [] w (w'.setCell ⟨w.heap.size + 1, j, none⟩ v) := fun _ _ _ h => h.setCell (.inr (Nat.le_succ _)) _
  have HP0 := Lib.hid hp0
  have HP1 := Lib.hid hp1
  have hb0 : ∀ (A : Option Addr) c ys w', OwnB w' A c ys → (∀ a, A = some a → w0.heap.size ≤ a.block) → Chg [] w w' → Fresh w w' A c ys := fun A c ys w' ho h hc => ⟨ho, fun a e => by have := h a e; omega, hc⟩
  have HB0 := Lib.hid hb0
  clear hp0 hp1 hb0
  have hs2 : ¬ w.heap.size = w.heap.size + 1 := by omega
  have H := Lib.hid (h.chg c0 (by simp))
  have W0 := Lib.hid hw0
  have C0 := Lib.hid c0
  have B0 := Lib.hid b0
  have B1 := Lib.hid b1
  clear hw0 c0 b0 b1 h
  have hchk := fun w1 A c => fcheck_any w1 (eN1 xs).1 (eN2 xs).1 A (eR3 xs).1.length c (by have := rRaw_le (xs := xs) (fe := (eN2 xs).2.2.1) (fa := (eN2 xs).2.2.2) (most := 1000) (p := (eN2 xs).2.1) (by unfold eN2; exact rNum_le (by unfold eN1; exact rNum_le (by omega))); unfold eR3; omega)
  have HCk := Lib.hid hchk
  have hr : readE xs = readE xs := rfl
  conv at hr => rhs; unfold readE
  have hz := @eF_zero xs
  have HZ := Lib.hid hz
  have HR := Lib.hid hr
  generalize readE xs = RR at *
  clear hchk hz hr
  go_enter Try.func25, Try.ntmps25
  go_wp2_with fail
  rw [← W0.out]
  generalize w.heap.size + 1 = s1 at *
  generalize w.heap.size = s0 at *
  refine (us_open w0 w0 A c xs (Chg.refl _ _) H.out hn1 hn2 hn).mono ?_
  rintro e w1 ⟨v, rfl, h1⟩
  have K1 := Lib.hid h1
  have hv := lt_of_heap h1.1.1
  have hv1 : ¬ w1.heap.size = v := by omega
  have hv2 : ¬ v = w1.heap.size := by omega
  have hs5 : w0.heap.size ≤ w1.heap.size := h1.chg.size
  have b5 := heap_alloc_new w1 (.cells #[.int .i64 0, .int .i64 0, .slice none 0 0] 24)
  have k5 := h1.past ((Chg.refl [] w1).alloc (.cells #[.int .i64 0, .int .i64 0, .slice none 0 0] 24))
  have B5 := Lib.hid b5
  have K5 := Lib.hid k5
  clear h1 hv b5 k5 K1
  go_wp2_with fail
  generalize w1.alloc (.cells #[.int .i64 0, .int .i64 0, .slice none 0 0] 24) = w1' at *
  generalize w1.heap.size = s5 at *
  have r1 := us_num w0 w1' v A c xs 0 0 0 1 3 K5.out
  change Calls _ _ _ _ (fun r w' => r = .returned (.int .i64 (eN1 xs).1) ∧ Us w0 w' v A c xs (eN1 xs).2.1 (eN1 xs).2.2.1 (eN1 xs).2.2.2 ∧ _) at r1
  refine r1.mono ?_
  rintro e w2 ⟨rfl, h2, c2⟩
  have b5 := c2.at_ B5.out (by simpa using hv1)
  have m0 := cell_of b5 0
  have m1 := free_of b5 0
  simp only [List.getElem?_toArray, List.getElem?_cons_succ, List.getElem?_cons_zero] at m0
  have K2 := Lib.hid (h2.set (s := s5) 0 (.int .i64 (eN1 xs).1) hs5 hv1)
  have b6 := heap_setCell_same w2 s5 0 _ _ (.int .i64 (eN1 xs).1) b5
  have B6 := Lib.hid b6
  clear h2 c2 b5 b6 K5 B5 r1
  go_wp2_with fail
  generalize w2.setCell ⟨s5, 0, none⟩ (.int .i64 (eN1 xs).1) = w2' at *
  clear m0 m1
  have r1 := us_num w0 w2' v A c xs _ _ _ 0 511 K2.out
  change Calls _ _ _ _ (fun r w' => r = .returned (.int .i64 (eN2 xs).1) ∧ Us w0 w' v A c xs (eN2 xs).2.1 (eN2 xs).2.2.1 (eN2 xs).2.2.2 ∧ _) at r1
  refine r1.mono ?_
  rintro e w3 ⟨rfl, h3, c3⟩
  have b5 := c3.at_ B6.out (by simpa using hv1)
  have m0 := cell_of b5 1
  have m1 := free_of b5 1
  simp only [List.setIfInBounds_toArray, List.set_cons_zero, List.getElem?_toArray, List.getElem?_cons_succ, List.getElem?_cons_zero] at m0
  have K3 := Lib.hid (h3.set (s := s5) 1 (.int .i64 (eN2 xs).1) hs5 hv1)
  have b6 := heap_setCell_same w3 s5 1 _ _ (.int .i64 (eN2 xs).1) b5
  have B7 := Lib.hid b6
  clear h3 c3 b5 b6 K2 B6 r1
  go_wp2_with fail
  generalize w3.setCell ⟨s5, 1, none⟩ (.int .i64 (eN2 xs).1) = w3' at *
  clear m0 m1
  have r1 := us_raw w0 w3' v A c xs _ _ _ 1000 K3.out
  change Calls _ _ _ _ (fun r w' => ∃ A' c', r = .returned (.slice A' (eR3 xs).1.length c') ∧ OwnB w' A' c' (eR3 xs).1 ∧ (∀ a, A' = some a → w3'.heap.size ≤ a.block) ∧ Us w0 w' v A c xs (eR3 xs).2.1 (eR3 xs).2.2.1 (eR3 xs).2.2.2 ∧ _) at r1
  refine r1.mono ?_
  rintro e w4 ⟨A4, c4, rfl, o4, n4, h4, c4'⟩
  have hlt := lt_of_heap B7.out
  have n4' : ∀ a, A4 = some a → w0.heap.size ≤ a.block := fun a e => Nat.le_trans K3.out.chg.size (n4 a e)
  have n4s : ∀ a, A4 = some a → a.block ∉ [s5] := fun a e => by have := n4 a e; simp; omega
  have N4 := Lib.hid n4'
  have b5 := c4'.at_ B7.out (by simpa using hv1)
  have m0 := cell_of b5 2
  have m1 := free_of b5 2
  simp only [List.setIfInBounds_toArray, List.set_cons_zero, List.set_cons_succ, List.getElem?_toArray, List.getElem?_cons_succ, List.getElem?_cons_zero] at m0
  have K4 := Lib.hid (h4.set (s := s5) 2 (.slice A4 (eR3 xs).1.length c4) hs5 hv1)
  have O4 := Lib.hid (o4.chg ((Chg.refl [s5] w4).setCell (p := ⟨s5, 2, none⟩) (.inl (by simp)) (.slice A4 (eR3 xs).1.length c4)) n4s)
  have b6 := heap_setCell_same w4 s5 2 _ _ (.slice A4 (eR3 xs).1.length c4) b5
  simp only [List.setIfInBounds_toArray, List.set_cons_zero, List.set_cons_succ] at b6
  have B8 := Lib.hid b6
  clear h4 c4' b5 b6 K3 B7 r1 n4 n4' n4s o4 hlt
  go_wp2_with fail
  generalize w4.setCell ⟨s5, 2, none⟩ (.slice A4 (eR3 xs).1.length c4) = w5 at *
  clear m0 m1
  have r1 := us_end w0 w5 v A c xs _ _ _ K4.out
  change Calls _ _ _ _ (fun r w' => r = .returned (.agg #[.int .i64 (eF xs).1, .int .i64 (eF xs).2]) ∧ _) at r1
  refine r1.mono ?_
  rintro e w6 ⟨rfl, c6⟩
  have B6 := Lib.hid (c6.at_ B8.out (by simp))
  have O6 := Lib.hid (O4.out.chg c6 (by simp))
  have K6 := Lib.hid (K4.out.past c6)
  clear c6 r1 K4 O4 B8
  have t6 := K6.out.chg.size
  have d1 : ¬ w6.heap.size = s0 := by omega
  have d2 : ¬ w6.heap.size = s1 := by omega
  have d3 : ¬ s0 = w6.heap.size := by omega
  have d4 : ¬ s1 = w6.heap.size := by omega
  have d5 : ¬ s1 = s0 := by omega
  clear t6
  obtain ⟨w7, hw7⟩ : ∃ w7 : World, w7 = w6.alloc (.cells #[.int .i64 (eF xs).1, .int .i64 (eF xs).2] 37) := ⟨_, rfl⟩
  have c7 : Chg [] w6 w7 := hw7 ▸ (Chg.refl [] w6).alloc _
  have b7 : w7.heap[w6.heap.size]? = some (.cells #[.int .i64 (eF xs).1, .int .i64 (eF xs).2] 37 (0, 0)) := hw7 ▸ heap_alloc_new w6 _
  have K7 := Lib.hid (K6.out.past c7)
  have O7 := Lib.hid (O6.out.chg c7 (by simp))
  have b5 := c7.at_ B6.out (by simp)
  have W7 := Lib.hid hw7
  have q0 := K7.out.chg.at_ B0.out (by simp)
  have q1 := K7.out.chg.at_ B1.out (by simp)
  have z0 := cell_of q0 0
  have z1 := cell_of q0 1
  have z2 := cell_of q0 2
  have z3 := cell_of q1 0
  have z4 := cell_of q1 1
  have f0 := free_of q0 0
  have f1 := free_of q0 1
  have f2 := free_of q0 2
  have f3 := free_of q1 0
  have f4 := free_of q1 1
  simp only [List.getElem?_toArray, List.getElem?_cons_succ, List.getElem?_cons_zero] at z0 z1 z2 z3 z4
  clear q0 q1
  have y0 := cell_of b7 0
  have y1 := cell_of b7 1
  have x0 := cell_of b5 0
  have x1 := cell_of b5 1
  have x2 := cell_of b5 2
  simp only [List.getElem?_toArray, List.getElem?_cons_succ, List.getElem?_cons_zero] at y0 y1 x0 x1 x2
  have B5 := Lib.hid b5
  clear hw7 c7 b7 b5 K6 O6 B6
  have C7 := Lib.hid (C0.out.trans K7.out.chg)
  by_cases he : (eF xs).1 = 0
  · have hr := HR.out
    rw [if_neg (by simpa using he)] at hr
    have he2 := HZ.out he
    have he' : ((eF xs).1 != 0) = false := by simpa using he
    by_cases hf : Fine (eN1 xs).1 (eN2 xs).1 (eR3 xs).1.length
    · rw [if_pos hf] at hr
      have HR2 := Lib.hid hr
      have hc := HCk.out w7 A4 c4
      rw [chkE_fine hf] at hc
      have HC := Lib.hid hc
      have HE := Lib.hid (And.intro he he2)
      clear he he2 hf hc hr HR HCk
      go_upto_region 7 with fail
      rw [← W7.out]
      generalize w6.heap.size = s6 at *
      go_wp2_with fail
      refine HC.out.mono ?_
      rintro e w8 ⟨rfl, c8⟩
      have z0 := c8.cell z0 (by simp)
      have z1 := c8.cell z1 (by simp)
      have z2 := c8.cell z2 (by simp)
      have z3 := c8.cell z3 (by simp)
      have z4 := c8.cell z4 (by simp)
      have x0 := c8.cell x0 (by simp)
      have x1 := c8.cell x1 (by simp)
      have x2 := c8.cell x2 (by simp)
      have y0 := c8.cell y0 (by simp)
      have y1 := c8.cell y1 (by simp)
      have q0 := (K7.out.chg.trans c8).at_ B0.out (by simp)
      have q1 := (K7.out.chg.trans c8).at_ B1.out (by simp)
      have f0 := free_of q0 0
      have f1 := free_of q0 1
      have f2 := free_of q0 2
      have f3 := free_of q1 0
      have f4 := free_of q1 1
      have O8 := Lib.hid (O7.out.chg c8 (by simp))
      have C8 := Lib.hid (C7.out.trans c8)
      clear c8 q0 q1
      have e5 : ¬ s5 = s0 := by have := g0; omega
      have e6 : ¬ s5 = s1 := by have := g1; omega
      have e7 : ¬ s0 = s5 := fun e => e5 e.symm
      have e8 : ¬ s1 = s5 := fun e => e6 e.symm
      go_wp2
      go_region
      all_goals
        go_wp2
        refine bodyPost_ret (v := .tuple #[.agg #[.int .i64 (eN1 xs).1, .int .i64 (eN2 xs).1, .slice A4 (eR3 xs).1.length c4], .agg #[.int .i64 (eF xs).1, .int .i64 (eF xs).2]]) (by simp [results, Try.results25, go_sem, z0, z1, z2, z3, z4, hs2, d5]) rfl ?_
        rw [HR2.out]
        exact ⟨A4, c4, by rw [HE.out.1, HE.out.2], HB0.out _ _ _ _ (O8.out.chg (S := [s0, s1]) (((((((Chg.refl [s0, s1] w8).setCell (.inl (by simp)) _).setCell (.inl (by simp)) _).setCell (.inl (by simp)) _).setCell (.inl (by simp)) _).setCell (.inl (by simp)) _).drew) (bs_apart2 N4.out g0 g1)) N4.out (HP1.out _ _ _ (HP1.out _ _ _ (HP0.out _ _ _ (HP0.out _ _ _ (HP0.out _ _ _ C8.out))))).drew⟩
    · rw [if_neg hf] at hr
      have HR2 := Lib.hid hr
      have hc := HCk.out w7 A4 c4
      rw [chkE_odd hf] at hc
      have HC := Lib.hid hc
      clear he he2 hf hc hr HR HCk
      go_upto_region 7 with fail
      rw [← W7.out]
      generalize w6.heap.size = s6 at *
      go_wp2_with fail
      refine HC.out.mono ?_
      rintro e w8 ⟨rfl, c8⟩
      have z0 := c8.cell z0 (by simp)
      have z1 := c8.cell z1 (by simp)
      have z2 := c8.cell z2 (by simp)
      have z3 := c8.cell z3 (by simp)
      have z4 := c8.cell z4 (by simp)
      have q0 := (K7.out.chg.trans c8).at_ B0.out (by simp)
      have q1 := (K7.out.chg.trans c8).at_ B1.out (by simp)
      have f0 := free_of q0 0
      have f1 := free_of q0 1
      have f2 := free_of q0 2
      have f3 := free_of q1 0
      have f4 := free_of q1 1
      have C8 := Lib.hid (C7.out.trans c8)
      clear c8 q0 q1 y0 y1 x0 x1 x2
      go_wp2
      refine bodyPost_ret (v := .tuple #[.agg #[.int .i64 0, .int .i64 0, .slice none 0 0], .agg #[.int .i64 2, .int .i64 0]]) (by simp [results, Try.results25, go_sem, z0, z1, z2, z3, z4, hs2, d5]) rfl ?_
      rw [HR2.out]
      exact ⟨none, 0, rfl, Fresh.none_ (HP1.out _ _ _ (HP1.out _ _ _ (HP0.out _ _ _ (HP0.out _ _ _ (HP0.out _ _ _ C8.out)))))⟩
  · have hr := HR.out
    rw [if_pos he] at hr
    have HR2 := Lib.hid hr
    have he' : ((eF xs).1 != 0) = true := by simpa using he
    clear he hr HR
    go_upto_region 7 with fail
    rw [← W7.out]
    generalize w6.heap.size = s6 at *
    go_wp2
    go_region
    all_goals
      go_wp2
      refine bodyPost_ret (v := .tuple #[.agg #[.int .i64 0, .int .i64 0, .slice none 0 0], .agg #[.int .i64 (eF xs).1, .int .i64 (eF xs).2]]) (by simp [results, Try.results25, go_sem, z0, z1, z2, z3, z4, hs2, d5]) rfl ?_
      rw [HR2.out]
      exact ⟨none, 0, rfl, Fresh.none_ (HP1.out _ _ _ (HP1.out _ _ _ (HP0.out _ _ _ (HP0.out _ _ _ (HP0.out _ _ _ C7.out))))).drew⟩
end Go.Proofs.Ytbihcoidbfoaoaa
