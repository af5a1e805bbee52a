/- The document's Sort. -/
import Derived.Test.YtmcnfopiilplnaaDoorHsmath
import Derived.Deep.Cut
import Derived.Deep.RegionHeld3
import Derived.BigQuiet
namespace Go.Proofs.YtmcnfopiilplnaaDoor
open Go.RowKit Go.Sort Go.Lib
set_option linter.unusedSimpArgs false
set_option linter.unusedVariables false


theorem own_empty {w : World} {g : Nat} (h : w.heap[g]? = some (.cells #[] 23)) : OwnK dotTy w (some ⟨g, 0, none⟩) 0 [] := .of (full := []) h (Nat.le_refl _) (Nat.zero_le _) rfl rfl
theorem rd_one {w : World} {g : Nat} {x : Int × Int} (h : w.heap[g]? = some (.cells #[.int .i64 x.1, .int .i64 x.2] 23)) : RdK dotTy w (some ⟨g, 0, none⟩) 1 [x] :=
  ⟨rfl, fun j v hj => ⟨_, rfl, by rw [add_zero_lit, cell_of h j]; simpa [RowTy.flat, dotTy] using hj⟩⟩
theorem fresh_appK {w2 w w' : World} {A A' : Option Addr} (hA : ∀ a, A = some a → w2.heap.size ≤ a.block) (hC : Chg [] w2 w) (g : w.grownBy w' (A.map (·.block))) (e : A' = A ∨ A' = some ⟨w.heap.size, 0, none⟩) :
    (∀ a, A' = some a → w2.heap.size ≤ a.block) ∧ Chg [] w2 w' := by
  refine ⟨?_, hC.grown g ?_⟩
  · rintro a rfl
    rcases e with h | h
    · exact hA a h.symm
    · cases h; exact hC.size
  · intro k hk
    cases A with
    | none => simp at hk
    | some a => simp at hk; subst hk; exact .inr (hA a rfl)
theorem rd_over {w w' : World} {g0 gx : Nat} {x : Int × Int} (h : w.heap[gx]? = some (.cells #[.int .i64 x.1, .int .i64 x.2] 23)) (hne : gx ≠ g0) (g : w.grownBy w' ((some (⟨g0, 0, none⟩ : Addr)).map (·.block))) : RdK dotTy w' (some ⟨gx, 0, none⟩) 1 [x] :=
  (rd_one h).chg ((Chg.refl [g0] w).grown g (by simp)) (by rintro a h; cases h; simpa using hne)
theorem own_e {w : World} {g : Nat} (hg : w.heap.size = g) : OwnK dotTy (w.alloc (.cells #[] 23)) (some ⟨g, 0, none⟩) 0 [] := by subst hg; exact own_empty (heap_alloc_new _ _)
theorem rd_e {w : World} {g : Nat} (x : Int × Int) (hg : w.heap.size = g) : RdK dotTy (w.alloc (.cells #[.int .i64 x.1, .int .i64 x.2] 23)) (some ⟨g, 0, none⟩) 1 [x] := by subst hg; exact rd_one (heap_alloc_new _ _)
theorem size_e (w : World) (o : Obj) : (w.alloc o).heap.size = w.heap.size + 1 := by
  show (w.heap.push o).size = _
  simp
theorem own_2 {w w' : World} {g : Nat} (hc : Chg [] (w.alloc (.cells #[] 23)) w') (hg : w.heap.size = g) : OwnK dotTy w' (some ⟨g, 0, none⟩) 0 [] := (own_e hg).chg hc (by simp)
/-- The element's row, made ahead of the append or in its middle, is still there behind it. -/
theorem rd_2 {w w' w4 : World} {g0 gx : Nat} (x : Int × Int) (g : w'.grownBy w4 ((some (⟨g0, 0, none⟩ : Addr)).map (·.block))) (hc : Chg [] (w.alloc (.cells #[.int .i64 x.1, .int .i64 x.2] 23)) w') (hg : w.heap.size = gx) (hne : gx ≠ g0) : RdK dotTy w4 (some ⟨gx, 0, none⟩) 1 [x] :=
  ((rd_e x hg).chg hc (by simp)).chg ((Chg.refl [g0] w').grown g (by simp)) (by rintro a h; cases h; simpa using hne)
theorem above_0 {w2 : World} {n : Nat} : ∀ a : Addr, some (⟨w2.heap.size + n, 0, none⟩ : Addr) = some a → w2.heap.size ≤ a.block := by rintro a h; cases h; simp

set_option maxHeartbeats 16000000 in
set_option maxRecDepth 100000 in
theorem hsort_any (w : World) (A : Option Addr) (n c : Nat) (xs : List (Int × Int)) (h : RdK dotTy w A n xs) (hn : n ≤ 1000) :
    Calls Tryd.prog 13 #[.slice A n c] w fun e w' => ∃ A' c', e = .returned (.slice A' (insAll xs).length c') ∧ OwnK dotTy w' A' c' (insAll xs) ∧ Chg [] w w' := by
  have hl := h.len
  subst hl
  have HX := Lib.hid h
  clear h
  go_enter Tryd.func13, Tryd.ntmps13
  go_wp2
  go_loopw [3, 4] (fun o i wr => ∃ (k : Nat) (B : Option Addr) (d : Nat), k ≤ xs.length ∧ i = .int .i64 k ∧ o = .slice B (insAll (xs.take k)).length d ∧ Hid (OwnK dotTy wr B d (insAll (xs.take k)) ∧ (∀ a, B = some a → w.heap.size ≤ a.block) ∧ Chg [] w wr)) (fun _ i _ => xs.length - (RowKit.intOf i).toNat)
  case atStart => exact ⟨0, none, 0, Nat.zero_le _, rfl, rfl, OwnK.none_ _, by simp, Chg.refl _ _⟩
  case round =>
    obtain ⟨i, B, d, hi, rfl, rfl, HI⟩ := hrel
    generalize wr = w1 at *
    clear wr
    by_cases hlt : i < xs.length
    · skip
      obtain ⟨g, o, eA, _⟩ := HX.out.line (by omega)
      subst eA
      have ex := List.getElem?_eq_getElem hlt
      have hts : xs.take (i + 1) = xs.take i ++ [xs[i]] := List.take_succ_eq_append_getElem hlt
      have hins : insAll (xs.take (i + 1)) = insD xs[i] (insAll (xs.take i)) := by rw [hts, insAll_snoc]
      have hol : (insAll (xs.take i)).length ≤ 1000 := by have := (insAll_props (xs.take i)).2.2; rw [List.length_take] at this; omega
      generalize xs[i] = x at *
      generalize insAll (xs.take i) = out at *
      have EX := Lib.hid ex
      have HINS := Lib.hid hins
      clear ex hts hins
      have i0 : (0 : Int) ≤ (i : Int) := by omega
      have i1 : (i : Int) < (xs.length : Int) := by omega
      have hcap := HI.out.1.cap
      have hcl := hcap.1
      have hcm := hcap.2
      unfold maxLen at hcm
      clear hcap
      have HL := Lib.hid (fun (w' : World) (hc : Chg [] w1 w') => dotCells ((HX.out.chg HI.out.2.2 (by simp)).chg hc (by simp)) EX.out)
      go_wp2
      go_loopw [5] (fun j wq => ∃ (k : Nat), k ≤ out.length ∧ j = .int .i64 k ∧ Hid (Chg [] w1 wq ∧ ∀ p y, out[p]? = some y → p < k → LtP y x)) (fun j _ => out.length - (RowKit.intOf j).toNat)
      case atStart => exact ⟨0, Nat.zero_le _, rfl, Chg.refl _ _, by intros; omega⟩
      case round =>
        obtain ⟨k, hk, rfl, HJ⟩ := hrel
        by_cases hkl : k < out.length
        · skip
          obtain ⟨g2, o2, eB, _⟩ := HI.out.1.reads.line (by omega)
          have eo : o2 = 0 := by
            rcases HI.out.1.shape with ⟨h, _⟩ | ⟨g', h, _⟩
            · rw [h] at eB; cases eB
            · rw [h] at eB; cases eB; rfl
          subst eo
          subst eB
          have ey := List.getElem?_eq_getElem hkl
          generalize out[k] = y at *
          have EY := Lib.hid ey
          clear ey
          have HM := Lib.hid (fun (w' : World) (hc : Chg [] w1 w') => dotCells ((HI.out.1.reads).chg hc (by simp)) EY.out)
          have j0 : (0 : Int) ≤ (k : Int) := by omega
          have j1 : (k : Int) < (out.length : Int) := by omega
          have hg1 : decide ((k : Int) < (out.length : Int)) = true := by simp; omega
          have hg2 : decide (k < out.length) = true := by simpa using hkl
          have hkk : ∀ w', Chg [] wr w' → w'.cell? ⟨g, o + i * 2, none⟩ = some (.int .i64 x.1) ∧ w'.cell? ⟨g, o + i * 2 + 1, none⟩ = some (.int .i64 x.2) ∧ w'.cell? ⟨g2, 0 + k * 2, none⟩ = some (.int .i64 y.1) ∧ w'.cell? ⟨g2, 0 + k * 2 + 1, none⟩ = some (.int .i64 y.2) ∧ Chg [] wr w' := fun w' hc => ⟨(HL.out _ (HJ.out.1.trans hc)).1, (HL.out _ (HJ.out.1.trans hc)).2, (HM.out _ (HJ.out.1.trans hc)).1, (HM.out _ (HJ.out.1.trans hc)).2, hc⟩
          simp only [Nat.zero_add] at hkk
          have HK := Lib.hid hkk
          clear hkk
          have LS := Lib.hid (fun w => hless_any w y.1 y.2 x.1 x.2)
          by_cases hly : LtP y x
          · have hd : decide (LtD y.1 y.2 x.1 x.2) = true := decide_eq_true hly
            have HLY := Lib.hid hly
            rw [hd] at LS
            clear hly hd
            go_wp2
            go_region_held3 (fun w' => w'.cell? ⟨g, o + i * 2, none⟩ = some (.int .i64 x.1) ∧ w'.cell? ⟨g, o + i * 2 + 1, none⟩ = some (.int .i64 x.2) ∧ w'.cell? ⟨g2, k * 2, none⟩ = some (.int .i64 y.1) ∧ w'.cell? ⟨g2, k * 2 + 1, none⟩ = some (.int .i64 y.2) ∧ Chg [] wr w')
              (first | exact HK.out _ hC | exact HK.out _ (Chg.refl [] wr).drew | (have hC := (‹_ ∧ _ ∧ _ ∧ _ ∧ Chg [] wr _›).2.2.2.2; exact HK.out _ hC))
              (((have hC := (‹_ ∧ _ ∧ _ ∧ _ ∧ Chg [] wr _›).2.2.2.2); (go_at_call 20; (with_reducible refine (LS.out _).mono ?_); rintro e w9 ⟨rfl, hc⟩; have hC := hC.trans hc)))
            all_goals
              have hC := (‹_ ∧ _ ∧ _ ∧ _ ∧ Chg [] wr _›).2.2.2.2
              have HC := Lib.hid (HJ.out.1.trans hC)
              clear hC HK
              go_wp2
              go_round
              case rel =>
                refine ⟨k + 1, by omega, by go_num, HC.out, fun p z hz hp => ?_⟩
                by_cases e : p = k
                · subst e; rw [EY.out] at hz; cases hz; exact HLY.out
                · exact HJ.out.2 p z hz (by omega)
              case measure => simp [RowKit.intOf]; omega
          · have hd : decide (LtD y.1 y.2 x.1 x.2) = false := decide_eq_false hly
            have hcnt : cntD x out = k := cntD_is x out k HJ.out.2 hk (fun z hz => by rw [EY.out] at hz; cases hz; exact hly)
            have HCN := Lib.hid hcnt
            rw [hd] at LS
            clear hly hd hcnt
            go_wp2
            go_region_held3 (fun w' => w'.cell? ⟨g, o + i * 2, none⟩ = some (.int .i64 x.1) ∧ w'.cell? ⟨g, o + i * 2 + 1, none⟩ = some (.int .i64 x.2) ∧ w'.cell? ⟨g2, k * 2, none⟩ = some (.int .i64 y.1) ∧ w'.cell? ⟨g2, k * 2 + 1, none⟩ = some (.int .i64 y.2) ∧ Chg [] wr w')
              (first | exact HK.out _ hC | exact HK.out _ (Chg.refl [] wr).drew | (have hC := (‹_ ∧ _ ∧ _ ∧ _ ∧ Chg [] wr _›).2.2.2.2; exact HK.out _ hC))
              (((have hC := (‹_ ∧ _ ∧ _ ∧ _ ∧ Chg [] wr _›).2.2.2.2); (go_at_call 20; (with_reducible refine (LS.out _).mono ?_); rintro e w9 ⟨rfl, hc⟩; have hC := hC.trans hc)))
            all_goals
              have hC := (‹_ ∧ _ ∧ _ ∧ _ ∧ Chg [] wr _›).2.2.2.2
              obtain ⟨w2, hw2, HC⟩ : ∃ w2, w2 = _ ∧ Hid (Chg [] wr w2) := ⟨_, rfl, Lib.hid hC⟩
              subst hw2
              obtain ⟨p0, p1, q0, q1, _⟩ := HK.out _ HC.out
              clear hC
              go_wp2_with fail
              have hg3 : decide ((k : Int) = (out.length : Int)) = false := by simp; omega
              have hg4 : decide (k = out.length) = false := by simp; omega
              have hg5 : ¬ (k : Int) = (out.length : Int) := by omega
              by_cases f1 : y.1 = x.1
              · by_cases f2 : y.2 = x.2
                · have hyx : y = x := Prod.ext f1 f2
                  subst hyx
                  clear f1 f2
                  have hfin : insD y out = out := by unfold insD; rw [HCN.out, if_pos EY.out]
                  have HF := Lib.hid (HINS.out.trans hfin)
                  clear hfin
                  go_quiet (fail)
                  go_wp2
                  go_round
                  case rel =>
                    refine ⟨i + 1, some ⟨g2, 0, none⟩, d, by omega, by go_num, by rw [HF.out], ?_⟩
                    rw [HF.out]
                    exact ⟨HI.out.1.chg (HJ.out.1.trans (HC.out.drewN _)) (by simp), HI.out.2.1, HI.out.2.2.trans (HJ.out.1.trans (HC.out.drewN _))⟩
                  case measure => simp [RowKit.intOf]; omega
                · have hne : ¬ out[k]? = some x := by rw [EY.out]; intro h; cases h; exact f2 rfl
                  go_quiet (fail)
                  have hfin : insD x out = out.take k ++ x :: out.drop k := by unfold insD; rw [HCN.out, if_neg hne]
                  have HF := Lib.hid (HINS.out.trans hfin)
                  clear hfin hne
                  have hA : ∀ w', Chg [] w2 w' → RdK dotTy w' (some ⟨g2, 0, none⟩) k (out.take k) := fun w' hc => by
                    have := ((HI.out.1.take k).reads.chg (HJ.out.1.trans (HC.out.trans hc)) (by simp))
                    rwa [List.length_take, Nat.min_eq_left (by omega)] at this
                  have hB : ∀ w', Chg [] w2 w' → RdK dotTy w' (some ⟨g2, 0 + k * 2, none⟩) (out.length - k) (out.drop k) := fun w' hc => by
                    have := ((HI.out.1.reads.chg (HJ.out.1.trans (HC.out.trans hc)) (by simp)).part k (out.length - k) (by omega))
                    rwa [List.take_of_length_le (by simp)] at this
                  simp only [Nat.zero_add] at hB
                  have hX : ∀ w', Chg [] w2 w' → w'.cell? ⟨g, o + i * 2, none⟩ = some (.int .i64 x.1) ∧ w'.cell? ⟨g, o + i * 2 + 1, none⟩ = some (.int .i64 x.2) ∧ Chg [] w2 w' := fun w' hc => ⟨(HL.out _ (HJ.out.1.trans (HC.out.trans hc))).1, (HL.out _ (HJ.out.1.trans (HC.out.trans hc))).2, hc⟩
                  have l1 : ([] ++ out.take k).length = k := by simp [List.length_take] <;> omega
                  have l2 : ([] ++ out.take k ++ [x]).length = k + 1 := by simp [List.length_take] <;> omega
                  have L1 := Lib.hid l1
                  have L2 := Lib.hid l2
                  clear l1 l2
                  have HA := Lib.hid hA
                  have HB := Lib.hid hB
                  have HX9 := Lib.hid hX
                  clear hA hB hX p0 p1 q0 q1
                  have n1 : (0 + k) * 400 ≤ 140737488355327 := by omega
                  have n2 : (k + 1) * 400 ≤ 140737488355327 := by omega
                  have n3 : (k + 1 + (out.length - k)) * 400 ≤ 140737488355327 := by omega
                  have N1 := Lib.hid n1
                  have N2 := Lib.hid n2
                  have N3 := Lib.hid n3
                  clear n1 n2 n3
                  have b1 : k ≤ d := by omega
                  have b2 : ¬ k = d := by omega
                  have b3 : ¬ d = k := by omega
                  go_upto_region 9 with fail
                  go_region_held3 (fun w' => w'.cell? ⟨g, o + i * 2, none⟩ = some (.int .i64 x.1) ∧ w'.cell? ⟨g, o + i * 2 + 1, none⟩ = some (.int .i64 x.2) ∧ Chg [] w2 w')
                    (first | exact HX9.out _ hC | exact HX9.out _ ((Chg.refl [] w2).drewN _) | exact HX9.out _ ((Chg.refl [] w2).drewN _).drew | exact HX9.out _ (Chg.refl [] w2).drew | (((have hC := (‹_ ∧ _ ∧ Chg [] w2 _›).2.2); (first | exact HX9.out _ hC | exact HX9.out _ (hC.alloc _) | exact HX9.out _ hC.drew | exact HX9.out _ (hC.alloc _).drew | exact HX9.out _ (hC.drew.alloc _)))))
                    (((have hC := (‹_ ∧ _ ∧ Chg [] w2 _›).2.2); (first
                      | ((refine step_appK (R := dotTy) rfl (.tmp 44) (.tmp 47) rfl rfl (A := some ⟨w2.heap.size, 0, none⟩) (B := some ⟨g2, 0, none⟩) (n := 0) (m := k) (c := 0) (d := d) (xs := []) (ys := out.take k) (own_2 (w := w2.drewN _) ((Chg.refl [] _).alloc _) rfl) rfl rfl (HA.out _ hC) N1.out ?_); rw [Nat.zero_add]; intro A1 c1 w4 o1 g1 e1; have FR1 := Lib.hid (fresh_appK (A := some ⟨w2.heap.size, 0, none⟩) (above_0 (n := 0)) hC g1 e1); have hC := FR1.out.2; have RX := Lib.hid (rd_2 (gx := w2.heap.size + 1) x g1 (Chg.refl [] _) (size_e _ _) (Nat.succ_ne_self _)); clear g1 e1)
                      | ((refine step_appK (R := dotTy) rfl (.tmp 44) (.tmp 47) rfl rfl (A := some ⟨w2.heap.size, 0, none⟩) (B := some ⟨g2, 0, none⟩) (n := 0) (m := k) (c := 0) (d := d) (xs := []) (ys := out.take k) (own_2 (w := w2.drewN _) ((Chg.refl [] _).drew.alloc _) rfl) rfl rfl (HA.out _ hC) N1.out ?_); rw [Nat.zero_add]; intro A1 c1 w4 o1 g1 e1; have FR1 := Lib.hid (fresh_appK (A := some ⟨w2.heap.size, 0, none⟩) (above_0 (n := 0)) hC g1 e1); have hC := FR1.out.2; have RX := Lib.hid (rd_2 (gx := w2.heap.size + 1) x g1 (Chg.refl [] _) (size_e _ _) (Nat.succ_ne_self _)); clear g1 e1)
                      | ((refine step_appK (R := dotTy) rfl (.tmp 44) (.tmp 47) rfl rfl (A := some ⟨w2.heap.size, 0, none⟩) (B := some ⟨g2, 0, none⟩) (n := 0) (m := k) (c := 0) (d := d) (xs := []) (ys := out.take k) (own_2 (w := w2.drewN _) rfl ((Chg.refl [] _).alloc _).drew) rfl rfl (HA.out _ hC) N1.out ?_); rw [Nat.zero_add]; intro A1 c1 w4 o1 g1 e1; have FR1 := Lib.hid (fresh_appK (A := some ⟨w2.heap.size, 0, none⟩) (above_0 (n := 0)) hC g1 e1); have hC := FR1.out.2; have RX := Lib.hid (rd_2 (gx := w2.heap.size + 1) x g1 (Chg.refl [] _) (size_e _ _) (Nat.succ_ne_self _)); clear g1 e1)
                      | ((refine step_appK (R := dotTy) rfl (.tmp 44) (.tmp 47) rfl rfl (A := some ⟨w2.heap.size, 0, none⟩) (B := some ⟨g2, 0, none⟩) (n := 0) (m := k) (c := 0) (d := d) (xs := []) (ys := out.take k) (own_2 (w := w2.drewN _) rfl ((Chg.refl [] _).drew.alloc _).drew) rfl rfl (HA.out _ hC) N1.out ?_); rw [Nat.zero_add]; intro A1 c1 w4 o1 g1 e1; have FR1 := Lib.hid (fresh_appK (A := some ⟨w2.heap.size, 0, none⟩) (above_0 (n := 0)) hC g1 e1); have hC := FR1.out.2; have RX := Lib.hid (rd_2 (gx := w2.heap.size + 1) x g1 (Chg.refl [] _) (size_e _ _) (Nat.succ_ne_self _)); clear g1 e1)
                      | ((refine step_appK (R := dotTy) rfl (.tmp 44) (.tmp 47) rfl rfl (A := some ⟨w2.heap.size, 0, none⟩) (B := some ⟨g2, 0, none⟩) (n := 0) (m := k) (c := 0) (d := d) (xs := []) (ys := out.take k) (own_2 (w := w2.drewN _) (Chg.refl [] _) rfl) rfl rfl (HA.out _ hC) N1.out ?_); rw [Nat.zero_add]; intro A1 c1 w4 o1 g1 e1; have FR1 := Lib.hid (fresh_appK (A := some ⟨w2.heap.size, 0, none⟩) (above_0 (n := 0)) hC g1 e1); have hC := FR1.out.2; clear g1 e1)
                      | ((refine step_appK (R := dotTy) rfl (.tmp 44) (.tmp 47) rfl rfl (A := some ⟨w2.heap.size + 1, 0, none⟩) (B := some ⟨g2, 0, none⟩) (n := 0) (m := k) (c := 0) (d := d) (xs := []) (ys := out.take k) (own_2 (w := World.alloc _ _) (Chg.refl [] _) (size_e _ _)) rfl rfl (HA.out _ hC) N1.out ?_); rw [Nat.zero_add]; intro A1 c1 w4 o1 g1 e1; have FR1 := Lib.hid (fresh_appK (A := some ⟨w2.heap.size + 1, 0, none⟩) (above_0 (n := 1)) hC g1 e1); have hC := FR1.out.2; have RX := Lib.hid (rd_2 (gx := w2.heap.size) x g1 ((Chg.refl [] _).alloc _) rfl (Nat.succ_ne_self _).symm); clear g1 e1)
                      | ((refine step_appK (R := dotTy) rfl (.tmp 48) (.tmp 53) rfl rfl (A := A1) (B := some ⟨w2.heap.size + 1, 0, none⟩) (n := k) (m := 1) (c := c1) (d := 1) (xs := [] ++ out.take k) (ys := [x]) o1 L1.out rfl RX.out N2.out ?_); intro A2 c2 w5 o2 h2 e2; have FR2 := Lib.hid (fresh_appK FR1.out.1 hC h2 e2); have hC := FR2.out.2; clear h2 e2)
                      | ((refine step_appK (R := dotTy) rfl (.tmp 48) (.tmp 53) rfl rfl (A := A1) (B := some ⟨w2.heap.size, 0, none⟩) (n := k) (m := 1) (c := c1) (d := 1) (xs := [] ++ out.take k) (ys := [x]) o1 L1.out rfl RX.out N2.out ?_); intro A2 c2 w5 o2 h2 e2; have FR2 := Lib.hid (fresh_appK FR1.out.1 hC h2 e2); have hC := FR2.out.2; clear h2 e2)
                      | ((refine step_appK (R := dotTy) rfl (.tmp 48) (.tmp 53) rfl rfl (A := A1) (B := some ⟨w4.heap.size, 0, none⟩) (n := k) (m := 1) (c := c1) (d := 1) (xs := [] ++ out.take k) (ys := [x]) (o1.chg ((Chg.refl [] _).alloc _) (fun _ _ => List.not_mem_nil)) L1.out rfl (rd_e x rfl) N2.out ?_); intro A2 c2 w5 o2 h2 e2; have FR2 := Lib.hid (fresh_appK FR1.out.1 hC h2 e2); have hC := FR2.out.2; clear h2 e2)
                      | ((refine step_appK (R := dotTy) rfl (.tmp 54) (.tmp 57) rfl rfl (A := A2) (B := some ⟨g2, k * 2, none⟩) (n := k + 1) (m := out.length - k) (c := c2) (d := d - k) (xs := [] ++ out.take k ++ [x]) (ys := out.drop k) o2 L2.out rfl (HB.out _ hC) N3.out ?_); intro A3 c3 w6 o3 g3 e3; have FR3 := Lib.hid (fresh_appK FR2.out.1 hC g3 e3); have hC := FR3.out.2; clear g3 e3))))
                  all_goals
                    go_wp2
                    go_round
                    case rel =>
                      have HG := HI.out.2.2.trans (HJ.out.1.trans HC.out)
                      refine ⟨i + 1, A3, c3, by omega, by go_num, ?_, ?_⟩
                      · rw [HF.out]
                        congr 1
                        simp only [List.length_append, List.length_take, List.length_cons, List.length_drop]; omega
                      · rw [HF.out]
                        have o4 := o3
                        simp only [List.nil_append, List.append_assoc, List.singleton_append] at o4
                        exact ⟨o4, fun a ha => Nat.le_trans HG.size (FR3.out.1 a ha), HG.trans FR3.out.2⟩
                    case measure => simp [RowKit.intOf]; omega
              · have hne : ¬ out[k]? = some x := by rw [EY.out]; intro h; cases h; exact f1 rfl
                go_quiet (fail)
                have hfin : insD x out = out.take k ++ x :: out.drop k := by unfold insD; rw [HCN.out, if_neg hne]
                have HF := Lib.hid (HINS.out.trans hfin)
                clear hfin hne
                have hA : ∀ w', Chg [] w2 w' → RdK dotTy w' (some ⟨g2, 0, none⟩) k (out.take k) := fun w' hc => by
                  have := ((HI.out.1.take k).reads.chg (HJ.out.1.trans (HC.out.trans hc)) (by simp))
                  rwa [List.length_take, Nat.min_eq_left (by omega)] at this
                have hB : ∀ w', Chg [] w2 w' → RdK dotTy w' (some ⟨g2, 0 + k * 2, none⟩) (out.length - k) (out.drop k) := fun w' hc => by
                  have := ((HI.out.1.reads.chg (HJ.out.1.trans (HC.out.trans hc)) (by simp)).part k (out.length - k) (by omega))
                  rwa [List.take_of_length_le (by simp)] at this
                simp only [Nat.zero_add] at hB
                have hX : ∀ w', Chg [] w2 w' → w'.cell? ⟨g, o + i * 2, none⟩ = some (.int .i64 x.1) ∧ w'.cell? ⟨g, o + i * 2 + 1, none⟩ = some (.int .i64 x.2) ∧ Chg [] w2 w' := fun w' hc => ⟨(HL.out _ (HJ.out.1.trans (HC.out.trans hc))).1, (HL.out _ (HJ.out.1.trans (HC.out.trans hc))).2, hc⟩
                have l1 : ([] ++ out.take k).length = k := by simp [List.length_take] <;> omega
                have l2 : ([] ++ out.take k ++ [x]).length = k + 1 := by simp [List.length_take] <;> omega
                have L1 := Lib.hid l1
                have L2 := Lib.hid l2
                clear l1 l2
                have HA := Lib.hid hA
                have HB := Lib.hid hB
                have HX9 := Lib.hid hX
                clear hA hB hX p0 p1 q0 q1
                have n1 : (0 + k) * 400 ≤ 140737488355327 := by omega
                have n2 : (k + 1) * 400 ≤ 140737488355327 := by omega
                have n3 : (k + 1 + (out.length - k)) * 400 ≤ 140737488355327 := by omega
                have N1 := Lib.hid n1
                have N2 := Lib.hid n2
                have N3 := Lib.hid n3
                clear n1 n2 n3
                have b1 : k ≤ d := by omega
                have b2 : ¬ k = d := by omega
                have b3 : ¬ d = k := by omega
                go_upto_region 9 with fail
                go_region_held3 (fun w' => w'.cell? ⟨g, o + i * 2, none⟩ = some (.int .i64 x.1) ∧ w'.cell? ⟨g, o + i * 2 + 1, none⟩ = some (.int .i64 x.2) ∧ Chg [] w2 w')
                  (first | exact HX9.out _ hC | exact HX9.out _ ((Chg.refl [] w2).drewN _) | exact HX9.out _ ((Chg.refl [] w2).drewN _).drew | exact HX9.out _ (Chg.refl [] w2).drew | (((have hC := (‹_ ∧ _ ∧ Chg [] w2 _›).2.2); (first | exact HX9.out _ hC | exact HX9.out _ (hC.alloc _) | exact HX9.out _ hC.drew | exact HX9.out _ (hC.alloc _).drew | exact HX9.out _ (hC.drew.alloc _)))))
                  (((have hC := (‹_ ∧ _ ∧ Chg [] w2 _›).2.2); (first
                    | ((refine step_appK (R := dotTy) rfl (.tmp 44) (.tmp 47) rfl rfl (A := some ⟨w2.heap.size, 0, none⟩) (B := some ⟨g2, 0, none⟩) (n := 0) (m := k) (c := 0) (d := d) (xs := []) (ys := out.take k) (own_2 (w := w2.drewN _) ((Chg.refl [] _).alloc _) rfl) rfl rfl (HA.out _ hC) N1.out ?_); rw [Nat.zero_add]; intro A1 c1 w4 o1 g1 e1; have FR1 := Lib.hid (fresh_appK (A := some ⟨w2.heap.size, 0, none⟩) (above_0 (n := 0)) hC g1 e1); have hC := FR1.out.2; have RX := Lib.hid (rd_2 (gx := w2.heap.size + 1) x g1 (Chg.refl [] _) (size_e _ _) (Nat.succ_ne_self _)); clear g1 e1)
                    | ((refine step_appK (R := dotTy) rfl (.tmp 44) (.tmp 47) rfl rfl (A := some ⟨w2.heap.size, 0, none⟩) (B := some ⟨g2, 0, none⟩) (n := 0) (m := k) (c := 0) (d := d) (xs := []) (ys := out.take k) (own_2 (w := w2.drewN _) ((Chg.refl [] _).drew.alloc _) rfl) rfl rfl (HA.out _ hC) N1.out ?_); rw [Nat.zero_add]; intro A1 c1 w4 o1 g1 e1; have FR1 := Lib.hid (fresh_appK (A := some ⟨w2.heap.size, 0, none⟩) (above_0 (n := 0)) hC g1 e1); have hC := FR1.out.2; have RX := Lib.hid (rd_2 (gx := w2.heap.size + 1) x g1 (Chg.refl [] _) (size_e _ _) (Nat.succ_ne_self _)); clear g1 e1)
                    | ((refine step_appK (R := dotTy) rfl (.tmp 44) (.tmp 47) rfl rfl (A := some ⟨w2.heap.size, 0, none⟩) (B := some ⟨g2, 0, none⟩) (n := 0) (m := k) (c := 0) (d := d) (xs := []) (ys := out.take k) (own_2 (w := w2.drewN _) rfl ((Chg.refl [] _).alloc _).drew) rfl rfl (HA.out _ hC) N1.out ?_); rw [Nat.zero_add]; intro A1 c1 w4 o1 g1 e1; have FR1 := Lib.hid (fresh_appK (A := some ⟨w2.heap.size, 0, none⟩) (above_0 (n := 0)) hC g1 e1); have hC := FR1.out.2; have RX := Lib.hid (rd_2 (gx := w2.heap.size + 1) x g1 (Chg.refl [] _) (size_e _ _) (Nat.succ_ne_self _)); clear g1 e1)
                    | ((refine step_appK (R := dotTy) rfl (.tmp 44) (.tmp 47) rfl rfl (A := some ⟨w2.heap.size, 0, none⟩) (B := some ⟨g2, 0, none⟩) (n := 0) (m := k) (c := 0) (d := d) (xs := []) (ys := out.take k) (own_2 (w := w2.drewN _) rfl ((Chg.refl [] _).drew.alloc _).drew) rfl rfl (HA.out _ hC) N1.out ?_); rw [Nat.zero_add]; intro A1 c1 w4 o1 g1 e1; have FR1 := Lib.hid (fresh_appK (A := some ⟨w2.heap.size, 0, none⟩) (above_0 (n := 0)) hC g1 e1); have hC := FR1.out.2; have RX := Lib.hid (rd_2 (gx := w2.heap.size + 1) x g1 (Chg.refl [] _) (size_e _ _) (Nat.succ_ne_self _)); clear g1 e1)
                    | ((refine step_appK (R := dotTy) rfl (.tmp 44) (.tmp 47) rfl rfl (A := some ⟨w2.heap.size, 0, none⟩) (B := some ⟨g2, 0, none⟩) (n := 0) (m := k) (c := 0) (d := d) (xs := []) (ys := out.take k) (own_2 (w := w2.drewN _) (Chg.refl [] _) rfl) rfl rfl (HA.out _ hC) N1.out ?_); rw [Nat.zero_add]; intro A1 c1 w4 o1 g1 e1; have FR1 := Lib.hid (fresh_appK (A := some ⟨w2.heap.size, 0, none⟩) (above_0 (n := 0)) hC g1 e1); have hC := FR1.out.2; clear g1 e1)
                    | ((refine step_appK (R := dotTy) rfl (.tmp 44) (.tmp 47) rfl rfl (A := some ⟨w2.heap.size + 1, 0, none⟩) (B := some ⟨g2, 0, none⟩) (n := 0) (m := k) (c := 0) (d := d) (xs := []) (ys := out.take k) (own_2 (w := World.alloc _ _) (Chg.refl [] _) (size_e _ _)) rfl rfl (HA.out _ hC) N1.out ?_); rw [Nat.zero_add]; intro A1 c1 w4 o1 g1 e1; have FR1 := Lib.hid (fresh_appK (A := some ⟨w2.heap.size + 1, 0, none⟩) (above_0 (n := 1)) hC g1 e1); have hC := FR1.out.2; have RX := Lib.hid (rd_2 (gx := w2.heap.size) x g1 ((Chg.refl [] _).alloc _) rfl (Nat.succ_ne_self _).symm); clear g1 e1)
                    | ((refine step_appK (R := dotTy) rfl (.tmp 48) (.tmp 53) rfl rfl (A := A1) (B := some ⟨w2.heap.size + 1, 0, none⟩) (n := k) (m := 1) (c := c1) (d := 1) (xs := [] ++ out.take k) (ys := [x]) o1 L1.out rfl RX.out N2.out ?_); intro A2 c2 w5 o2 h2 e2; have FR2 := Lib.hid (fresh_appK FR1.out.1 hC h2 e2); have hC := FR2.out.2; clear h2 e2)
                    | ((refine step_appK (R := dotTy) rfl (.tmp 48) (.tmp 53) rfl rfl (A := A1) (B := some ⟨w2.heap.size, 0, none⟩) (n := k) (m := 1) (c := c1) (d := 1) (xs := [] ++ out.take k) (ys := [x]) o1 L1.out rfl RX.out N2.out ?_); intro A2 c2 w5 o2 h2 e2; have FR2 := Lib.hid (fresh_appK FR1.out.1 hC h2 e2); have hC := FR2.out.2; clear h2 e2)
                    | ((refine step_appK (R := dotTy) rfl (.tmp 48) (.tmp 53) rfl rfl (A := A1) (B := some ⟨w4.heap.size, 0, none⟩) (n := k) (m := 1) (c := c1) (d := 1) (xs := [] ++ out.take k) (ys := [x]) (o1.chg ((Chg.refl [] _).alloc _) (fun _ _ => List.not_mem_nil)) L1.out rfl (rd_e x rfl) N2.out ?_); intro A2 c2 w5 o2 h2 e2; have FR2 := Lib.hid (fresh_appK FR1.out.1 hC h2 e2); have hC := FR2.out.2; clear h2 e2)
                    | ((refine step_appK (R := dotTy) rfl (.tmp 54) (.tmp 57) rfl rfl (A := A2) (B := some ⟨g2, k * 2, none⟩) (n := k + 1) (m := out.length - k) (c := c2) (d := d - k) (xs := [] ++ out.take k ++ [x]) (ys := out.drop k) o2 L2.out rfl (HB.out _ hC) N3.out ?_); intro A3 c3 w6 o3 g3 e3; have FR3 := Lib.hid (fresh_appK FR2.out.1 hC g3 e3); have hC := FR3.out.2; clear g3 e3))))
                all_goals
                  go_wp2
                  go_round
                  case rel =>
                    have HG := HI.out.2.2.trans (HJ.out.1.trans HC.out)
                    refine ⟨i + 1, A3, c3, by omega, by go_num, ?_, ?_⟩
                    · rw [HF.out]
                      congr 1
                      simp only [List.length_append, List.length_take, List.length_cons, List.length_drop]; omega
                    · rw [HF.out]
                      have o4 := o3
                      simp only [List.nil_append, List.append_assoc, List.singleton_append] at o4
                      exact ⟨o4, fun a ha => Nat.le_trans HG.size (FR3.out.1 a ha), HG.trans FR3.out.2⟩
                  case measure => simp [RowKit.intOf]; omega
        · obtain rfl : k = out.length := by omega
          have hcnt : cntD x out = out.length := cntD_is x out out.length HJ.out.2 (Nat.le_refl _) (fun z hz => by simp at hz)
          have HCN := Lib.hid hcnt
          have hne : ¬ out[out.length]? = some x := by simp
          clear hcnt hkl hk
          rcases HI.out.1.shape with ⟨eB, eo, ed⟩ | ⟨g2, eB, _⟩
          · subst eB eo ed
            simp only [List.length_nil] at *
            go_upto_region 6 with fail
            go_quiet (fail)
            go_upto_region 8 with fail
            have HC := Lib.hid ((Chg.refl [] wr).drewN nq)
            generalize wr.drewN nq = w2 at *
            go_quiet (fail)
            have hfin : insD x [] = ([] : List (Int × Int)).take 0 ++ x :: ([] : List (Int × Int)).drop 0 := by unfold insD; rw [HCN.out, if_neg hne]
            have HF := Lib.hid (HINS.out.trans hfin)
            clear hfin hne
            have hA : ∀ w', Chg [] w2 w' → RdK dotTy w' none 0 (([] : List (Int × Int)).take 0) := fun w' hc => by simpa using RdK.nil w' none
            have hB : ∀ w', Chg [] w2 w' → RdK dotTy w' none 0 (([] : List (Int × Int)).drop 0) := fun w' hc => by simpa using RdK.nil w' none
            have hX : ∀ w', Chg [] w2 w' → w'.cell? ⟨g, o + i * 2, none⟩ = some (.int .i64 x.1) ∧ w'.cell? ⟨g, o + i * 2 + 1, none⟩ = some (.int .i64 x.2) ∧ Chg [] w2 w' := fun w' hc => ⟨(HL.out _ (HJ.out.1.trans (HC.out.trans hc))).1, (HL.out _ (HJ.out.1.trans (HC.out.trans hc))).2, hc⟩
            have l1 : ([] ++ ([] : List (Int × Int)).take 0).length = 0 := by simp [List.length_take] <;> omega
            have l2 : ([] ++ ([] : List (Int × Int)).take 0 ++ [x]).length = 0 + 1 := by simp [List.length_take] <;> omega
            have L1 := Lib.hid l1
            have L2 := Lib.hid l2
            clear l1 l2
            have HA := Lib.hid hA
            have HB := Lib.hid hB
            have HX9 := Lib.hid hX
            clear hA hB hX
            have n1 : (0 + 0) * 400 ≤ 140737488355327 := by omega
            have n2 : (0 + 1) * 400 ≤ 140737488355327 := by omega
            have n3 : (0 + 1 + (0)) * 400 ≤ 140737488355327 := by omega
            have N1 := Lib.hid n1
            have N2 := Lib.hid n2
            have N3 := Lib.hid n3
            clear n1 n2 n3
            go_upto_region 9 with fail
            go_region_held3 (fun w' => w'.cell? ⟨g, o + i * 2, none⟩ = some (.int .i64 x.1) ∧ w'.cell? ⟨g, o + i * 2 + 1, none⟩ = some (.int .i64 x.2) ∧ Chg [] w2 w')
              (first | exact HX9.out _ hC | exact HX9.out _ ((Chg.refl [] w2).drewN _) | exact HX9.out _ ((Chg.refl [] w2).drewN _).drew | exact HX9.out _ (Chg.refl [] w2).drew | (((have hC := (‹_ ∧ _ ∧ Chg [] w2 _›).2.2); (first | exact HX9.out _ hC | exact HX9.out _ (hC.alloc _) | exact HX9.out _ hC.drew | exact HX9.out _ (hC.alloc _).drew | exact HX9.out _ (hC.drew.alloc _)))))
              (((have hC := (‹_ ∧ _ ∧ Chg [] w2 _›).2.2); (first
                | ((refine step_appK (R := dotTy) rfl (.tmp 44) (.tmp 47) rfl rfl (A := some ⟨w2.heap.size, 0, none⟩) (B := none) (n := 0) (m := 0) (c := 0) (d := 0) (xs := []) (ys := ([] : List (Int × Int)).take 0) (own_2 (w := w2.drewN _) ((Chg.refl [] _).alloc _) rfl) rfl rfl (HA.out _ hC) N1.out ?_); rw [Nat.zero_add]; intro A1 c1 w4 o1 g1 e1; have FR1 := Lib.hid (fresh_appK (A := some ⟨w2.heap.size, 0, none⟩) (above_0 (n := 0)) hC g1 e1); have hC := FR1.out.2; have RX := Lib.hid (rd_2 (gx := w2.heap.size + 1) x g1 (Chg.refl [] _) (size_e _ _) (Nat.succ_ne_self _)); clear g1 e1)
                | ((refine step_appK (R := dotTy) rfl (.tmp 44) (.tmp 47) rfl rfl (A := some ⟨w2.heap.size, 0, none⟩) (B := none) (n := 0) (m := 0) (c := 0) (d := 0) (xs := []) (ys := ([] : List (Int × Int)).take 0) (own_2 (w := w2.drewN _) ((Chg.refl [] _).drew.alloc _) rfl) rfl rfl (HA.out _ hC) N1.out ?_); rw [Nat.zero_add]; intro A1 c1 w4 o1 g1 e1; have FR1 := Lib.hid (fresh_appK (A := some ⟨w2.heap.size, 0, none⟩) (above_0 (n := 0)) hC g1 e1); have hC := FR1.out.2; have RX := Lib.hid (rd_2 (gx := w2.heap.size + 1) x g1 (Chg.refl [] _) (size_e _ _) (Nat.succ_ne_self _)); clear g1 e1)
                | ((refine step_appK (R := dotTy) rfl (.tmp 44) (.tmp 47) rfl rfl (A := some ⟨w2.heap.size, 0, none⟩) (B := none) (n := 0) (m := 0) (c := 0) (d := 0) (xs := []) (ys := ([] : List (Int × Int)).take 0) (own_2 (w := w2.drewN _) rfl ((Chg.refl [] _).alloc _).drew) rfl rfl (HA.out _ hC) N1.out ?_); rw [Nat.zero_add]; intro A1 c1 w4 o1 g1 e1; have FR1 := Lib.hid (fresh_appK (A := some ⟨w2.heap.size, 0, none⟩) (above_0 (n := 0)) hC g1 e1); have hC := FR1.out.2; have RX := Lib.hid (rd_2 (gx := w2.heap.size + 1) x g1 (Chg.refl [] _) (size_e _ _) (Nat.succ_ne_self _)); clear g1 e1)
                | ((refine step_appK (R := dotTy) rfl (.tmp 44) (.tmp 47) rfl rfl (A := some ⟨w2.heap.size, 0, none⟩) (B := none) (n := 0) (m := 0) (c := 0) (d := 0) (xs := []) (ys := ([] : List (Int × Int)).take 0) (own_2 (w := w2.drewN _) rfl ((Chg.refl [] _).drew.alloc _).drew) rfl rfl (HA.out _ hC) N1.out ?_); rw [Nat.zero_add]; intro A1 c1 w4 o1 g1 e1; have FR1 := Lib.hid (fresh_appK (A := some ⟨w2.heap.size, 0, none⟩) (above_0 (n := 0)) hC g1 e1); have hC := FR1.out.2; have RX := Lib.hid (rd_2 (gx := w2.heap.size + 1) x g1 (Chg.refl [] _) (size_e _ _) (Nat.succ_ne_self _)); clear g1 e1)
                | ((refine step_appK (R := dotTy) rfl (.tmp 44) (.tmp 47) rfl rfl (A := some ⟨w2.heap.size, 0, none⟩) (B := none) (n := 0) (m := 0) (c := 0) (d := 0) (xs := []) (ys := ([] : List (Int × Int)).take 0) (own_2 (w := w2.drewN _) (Chg.refl [] _) rfl) rfl rfl (HA.out _ hC) N1.out ?_); rw [Nat.zero_add]; intro A1 c1 w4 o1 g1 e1; have FR1 := Lib.hid (fresh_appK (A := some ⟨w2.heap.size, 0, none⟩) (above_0 (n := 0)) hC g1 e1); have hC := FR1.out.2; clear g1 e1)
                | ((refine step_appK (R := dotTy) rfl (.tmp 44) (.tmp 47) rfl rfl (A := some ⟨w2.heap.size + 1, 0, none⟩) (B := none) (n := 0) (m := 0) (c := 0) (d := 0) (xs := []) (ys := ([] : List (Int × Int)).take 0) (own_2 (w := World.alloc _ _) (Chg.refl [] _) (size_e _ _)) rfl rfl (HA.out _ hC) N1.out ?_); rw [Nat.zero_add]; intro A1 c1 w4 o1 g1 e1; have FR1 := Lib.hid (fresh_appK (A := some ⟨w2.heap.size + 1, 0, none⟩) (above_0 (n := 1)) hC g1 e1); have hC := FR1.out.2; have RX := Lib.hid (rd_2 (gx := w2.heap.size) x g1 ((Chg.refl [] _).alloc _) rfl (Nat.succ_ne_self _).symm); clear g1 e1)
                | ((refine step_appK (R := dotTy) rfl (.tmp 48) (.tmp 53) rfl rfl (A := A1) (B := some ⟨w2.heap.size + 1, 0, none⟩) (n := 0) (m := 1) (c := c1) (d := 1) (xs := [] ++ ([] : List (Int × Int)).take 0) (ys := [x]) o1 L1.out rfl RX.out N2.out ?_); intro A2 c2 w5 o2 h2 e2; have FR2 := Lib.hid (fresh_appK FR1.out.1 hC h2 e2); have hC := FR2.out.2; clear h2 e2)
                | ((refine step_appK (R := dotTy) rfl (.tmp 48) (.tmp 53) rfl rfl (A := A1) (B := some ⟨w2.heap.size, 0, none⟩) (n := 0) (m := 1) (c := c1) (d := 1) (xs := [] ++ ([] : List (Int × Int)).take 0) (ys := [x]) o1 L1.out rfl RX.out N2.out ?_); intro A2 c2 w5 o2 h2 e2; have FR2 := Lib.hid (fresh_appK FR1.out.1 hC h2 e2); have hC := FR2.out.2; clear h2 e2)
                | ((refine step_appK (R := dotTy) rfl (.tmp 48) (.tmp 53) rfl rfl (A := A1) (B := some ⟨w4.heap.size, 0, none⟩) (n := 0) (m := 1) (c := c1) (d := 1) (xs := [] ++ ([] : List (Int × Int)).take 0) (ys := [x]) (o1.chg ((Chg.refl [] _).alloc _) (fun _ _ => List.not_mem_nil)) L1.out rfl (rd_e x rfl) N2.out ?_); intro A2 c2 w5 o2 h2 e2; have FR2 := Lib.hid (fresh_appK FR1.out.1 hC h2 e2); have hC := FR2.out.2; clear h2 e2)
                | ((refine step_appK (R := dotTy) rfl (.tmp 54) (.tmp 57) rfl rfl (A := A2) (B := none) (n := 0 + 1) (m := 0) (c := c2) (d := 0) (xs := [] ++ ([] : List (Int × Int)).take 0 ++ [x]) (ys := ([] : List (Int × Int)).drop 0) o2 L2.out rfl (HB.out _ hC) N3.out ?_); intro A3 c3 w6 o3 g3 e3; have FR3 := Lib.hid (fresh_appK FR2.out.1 hC g3 e3); have hC := FR3.out.2; clear g3 e3))))
            all_goals
              go_wp2
              go_round
              case rel =>
                have HG := HI.out.2.2.trans (HJ.out.1.trans HC.out)
                refine ⟨i + 1, A3, c3, by omega, by go_num, ?_, ?_⟩
                · rw [HF.out]
                  rfl
                · rw [HF.out]
                  have o4 := o3
                  simp only [List.nil_append, List.append_assoc, List.singleton_append] at o4
                  exact ⟨o4, fun a ha => Nat.le_trans HG.size (FR3.out.1 a ha), HG.trans FR3.out.2⟩
              case measure => simp [RowKit.intOf]; omega
          · subst eB
            by_cases hkd : out.length = d
            · subst hkd
              go_upto_region 6 with fail
              go_quiet (fail)
              go_upto_region 8 with fail
              have HC := Lib.hid ((Chg.refl [] wr).drewN nq)
              generalize wr.drewN nq = w2 at *
              go_quiet (fail)
              have hfin : insD x out = out.take out.length ++ x :: out.drop out.length := by unfold insD; rw [HCN.out, if_neg hne]
              have HF := Lib.hid (HINS.out.trans hfin)
              clear hfin hne
              have hA : ∀ w', Chg [] w2 w' → RdK dotTy w' (some ⟨g2, 0, none⟩) out.length (out.take out.length) := fun w' hc => by
                have := ((HI.out.1.take out.length).reads.chg (HJ.out.1.trans (HC.out.trans hc)) (by simp))
                rwa [List.length_take, Nat.min_eq_left (by omega)] at this
              have hB : ∀ w', Chg [] w2 w' → RdK dotTy w' (some ⟨g2, 0, none⟩) 0 (out.drop out.length) := fun w' hc => by rw [List.drop_of_length_le (Nat.le_refl _)]; exact RdK.nil w' _
              have hX : ∀ w', Chg [] w2 w' → w'.cell? ⟨g, o + i * 2, none⟩ = some (.int .i64 x.1) ∧ w'.cell? ⟨g, o + i * 2 + 1, none⟩ = some (.int .i64 x.2) ∧ Chg [] w2 w' := fun w' hc => ⟨(HL.out _ (HJ.out.1.trans (HC.out.trans hc))).1, (HL.out _ (HJ.out.1.trans (HC.out.trans hc))).2, hc⟩
              have l1 : ([] ++ out.take out.length).length = out.length := by simp [List.length_take] <;> omega
              have l2 : ([] ++ out.take out.length ++ [x]).length = out.length + 1 := by simp [List.length_take] <;> omega
              have L1 := Lib.hid l1
              have L2 := Lib.hid l2
              clear l1 l2
              have HA := Lib.hid hA
              have HB := Lib.hid hB
              have HX9 := Lib.hid hX
              clear hA hB hX
              have n1 : (0 + out.length) * 400 ≤ 140737488355327 := by omega
              have n2 : (out.length + 1) * 400 ≤ 140737488355327 := by omega
              have n3 : (out.length + 1 + (0)) * 400 ≤ 140737488355327 := by omega
              have N1 := Lib.hid n1
              have N2 := Lib.hid n2
              have N3 := Lib.hid n3
              clear n1 n2 n3
              have b1 : out.length ≤ out.length := by omega
              go_upto_region 9 with fail
              go_region_held3 (fun w' => w'.cell? ⟨g, o + i * 2, none⟩ = some (.int .i64 x.1) ∧ w'.cell? ⟨g, o + i * 2 + 1, none⟩ = some (.int .i64 x.2) ∧ Chg [] w2 w')
                (first | exact HX9.out _ hC | exact HX9.out _ ((Chg.refl [] w2).drewN _) | exact HX9.out _ ((Chg.refl [] w2).drewN _).drew | exact HX9.out _ (Chg.refl [] w2).drew | (((have hC := (‹_ ∧ _ ∧ Chg [] w2 _›).2.2); (first | exact HX9.out _ hC | exact HX9.out _ (hC.alloc _) | exact HX9.out _ hC.drew | exact HX9.out _ (hC.alloc _).drew | exact HX9.out _ (hC.drew.alloc _)))))
                (((have hC := (‹_ ∧ _ ∧ Chg [] w2 _›).2.2); (first
                  | ((refine step_appK (R := dotTy) rfl (.tmp 44) (.tmp 47) rfl rfl (A := some ⟨w2.heap.size, 0, none⟩) (B := some ⟨g2, 0, none⟩) (n := 0) (m := out.length) (c := 0) (d := out.length) (xs := []) (ys := out.take out.length) (own_2 (w := w2.drewN _) ((Chg.refl [] _).alloc _) rfl) rfl rfl (HA.out _ hC) N1.out ?_); rw [Nat.zero_add]; intro A1 c1 w4 o1 g1 e1; have FR1 := Lib.hid (fresh_appK (A := some ⟨w2.heap.size, 0, none⟩) (above_0 (n := 0)) hC g1 e1); have hC := FR1.out.2; have RX := Lib.hid (rd_2 (gx := w2.heap.size + 1) x g1 (Chg.refl [] _) (size_e _ _) (Nat.succ_ne_self _)); clear g1 e1)
                  | ((refine step_appK (R := dotTy) rfl (.tmp 44) (.tmp 47) rfl rfl (A := some ⟨w2.heap.size, 0, none⟩) (B := some ⟨g2, 0, none⟩) (n := 0) (m := out.length) (c := 0) (d := out.length) (xs := []) (ys := out.take out.length) (own_2 (w := w2.drewN _) ((Chg.refl [] _).drew.alloc _) rfl) rfl rfl (HA.out _ hC) N1.out ?_); rw [Nat.zero_add]; intro A1 c1 w4 o1 g1 e1; have FR1 := Lib.hid (fresh_appK (A := some ⟨w2.heap.size, 0, none⟩) (above_0 (n := 0)) hC g1 e1); have hC := FR1.out.2; have RX := Lib.hid (rd_2 (gx := w2.heap.size + 1) x g1 (Chg.refl [] _) (size_e _ _) (Nat.succ_ne_self _)); clear g1 e1)
                  | ((refine step_appK (R := dotTy) rfl (.tmp 44) (.tmp 47) rfl rfl (A := some ⟨w2.heap.size, 0, none⟩) (B := some ⟨g2, 0, none⟩) (n := 0) (m := out.length) (c := 0) (d := out.length) (xs := []) (ys := out.take out.length) (own_2 (w := w2.drewN _) rfl ((Chg.refl [] _).alloc _).drew) rfl rfl (HA.out _ hC) N1.out ?_); rw [Nat.zero_add]; intro A1 c1 w4 o1 g1 e1; have FR1 := Lib.hid (fresh_appK (A := some ⟨w2.heap.size, 0, none⟩) (above_0 (n := 0)) hC g1 e1); have hC := FR1.out.2; have RX := Lib.hid (rd_2 (gx := w2.heap.size + 1) x g1 (Chg.refl [] _) (size_e _ _) (Nat.succ_ne_self _)); clear g1 e1)
                  | ((refine step_appK (R := dotTy) rfl (.tmp 44) (.tmp 47) rfl rfl (A := some ⟨w2.heap.size, 0, none⟩) (B := some ⟨g2, 0, none⟩) (n := 0) (m := out.length) (c := 0) (d := out.length) (xs := []) (ys := out.take out.length) (own_2 (w := w2.drewN _) rfl ((Chg.refl [] _).drew.alloc _).drew) rfl rfl (HA.out _ hC) N1.out ?_); rw [Nat.zero_add]; intro A1 c1 w4 o1 g1 e1; have FR1 := Lib.hid (fresh_appK (A := some ⟨w2.heap.size, 0, none⟩) (above_0 (n := 0)) hC g1 e1); have hC := FR1.out.2; have RX := Lib.hid (rd_2 (gx := w2.heap.size + 1) x g1 (Chg.refl [] _) (size_e _ _) (Nat.succ_ne_self _)); clear g1 e1)
                  | ((refine step_appK (R := dotTy) rfl (.tmp 44) (.tmp 47) rfl rfl (A := some ⟨w2.heap.size, 0, none⟩) (B := some ⟨g2, 0, none⟩) (n := 0) (m := out.length) (c := 0) (d := out.length) (xs := []) (ys := out.take out.length) (own_2 (w := w2.drewN _) (Chg.refl [] _) rfl) rfl rfl (HA.out _ hC) N1.out ?_); rw [Nat.zero_add]; intro A1 c1 w4 o1 g1 e1; have FR1 := Lib.hid (fresh_appK (A := some ⟨w2.heap.size, 0, none⟩) (above_0 (n := 0)) hC g1 e1); have hC := FR1.out.2; clear g1 e1)
                  | ((refine step_appK (R := dotTy) rfl (.tmp 44) (.tmp 47) rfl rfl (A := some ⟨w2.heap.size + 1, 0, none⟩) (B := some ⟨g2, 0, none⟩) (n := 0) (m := out.length) (c := 0) (d := out.length) (xs := []) (ys := out.take out.length) (own_2 (w := World.alloc _ _) (Chg.refl [] _) (size_e _ _)) rfl rfl (HA.out _ hC) N1.out ?_); rw [Nat.zero_add]; intro A1 c1 w4 o1 g1 e1; have FR1 := Lib.hid (fresh_appK (A := some ⟨w2.heap.size + 1, 0, none⟩) (above_0 (n := 1)) hC g1 e1); have hC := FR1.out.2; have RX := Lib.hid (rd_2 (gx := w2.heap.size) x g1 ((Chg.refl [] _).alloc _) rfl (Nat.succ_ne_self _).symm); clear g1 e1)
                  | ((refine step_appK (R := dotTy) rfl (.tmp 48) (.tmp 53) rfl rfl (A := A1) (B := some ⟨w2.heap.size + 1, 0, none⟩) (n := out.length) (m := 1) (c := c1) (d := 1) (xs := [] ++ out.take out.length) (ys := [x]) o1 L1.out rfl RX.out N2.out ?_); intro A2 c2 w5 o2 h2 e2; have FR2 := Lib.hid (fresh_appK FR1.out.1 hC h2 e2); have hC := FR2.out.2; clear h2 e2)
                  | ((refine step_appK (R := dotTy) rfl (.tmp 48) (.tmp 53) rfl rfl (A := A1) (B := some ⟨w2.heap.size, 0, none⟩) (n := out.length) (m := 1) (c := c1) (d := 1) (xs := [] ++ out.take out.length) (ys := [x]) o1 L1.out rfl RX.out N2.out ?_); intro A2 c2 w5 o2 h2 e2; have FR2 := Lib.hid (fresh_appK FR1.out.1 hC h2 e2); have hC := FR2.out.2; clear h2 e2)
                  | ((refine step_appK (R := dotTy) rfl (.tmp 48) (.tmp 53) rfl rfl (A := A1) (B := some ⟨w4.heap.size, 0, none⟩) (n := out.length) (m := 1) (c := c1) (d := 1) (xs := [] ++ out.take out.length) (ys := [x]) (o1.chg ((Chg.refl [] _).alloc _) (fun _ _ => List.not_mem_nil)) L1.out rfl (rd_e x rfl) N2.out ?_); intro A2 c2 w5 o2 h2 e2; have FR2 := Lib.hid (fresh_appK FR1.out.1 hC h2 e2); have hC := FR2.out.2; clear h2 e2)
                  | ((refine step_appK (R := dotTy) rfl (.tmp 54) (.tmp 57) rfl rfl (A := A2) (B := some ⟨g2, 0, none⟩) (n := out.length + 1) (m := 0) (c := c2) (d := 0) (xs := [] ++ out.take out.length ++ [x]) (ys := out.drop out.length) o2 L2.out rfl (HB.out _ hC) N3.out ?_); intro A3 c3 w6 o3 g3 e3; have FR3 := Lib.hid (fresh_appK FR2.out.1 hC g3 e3); have hC := FR3.out.2; clear g3 e3))))
              all_goals
                go_wp2
                go_round
                case rel =>
                  have HG := HI.out.2.2.trans (HJ.out.1.trans HC.out)
                  refine ⟨i + 1, A3, c3, by omega, by go_num, ?_, ?_⟩
                  · rw [HF.out]
                    congr 1
                    simp only [List.length_append, List.length_take, List.length_cons, List.length_drop]; omega
                  · rw [HF.out]
                    have o4 := o3
                    simp only [List.nil_append, List.append_assoc, List.singleton_append] at o4
                    exact ⟨o4, fun a ha => Nat.le_trans HG.size (FR3.out.1 a ha), HG.trans FR3.out.2⟩
                case measure => simp [RowKit.intOf]; omega
            · have hkd2 : ¬ d = out.length := fun e => hkd e.symm
              go_upto_region 6 with fail
              go_quiet (fail)
              go_upto_region 8 with fail
              have HC := Lib.hid ((Chg.refl [] wr).drewN nq)
              generalize wr.drewN nq = w2 at *
              go_quiet (fail)
              have hfin : insD x out = out.take out.length ++ x :: out.drop out.length := by unfold insD; rw [HCN.out, if_neg hne]
              have HF := Lib.hid (HINS.out.trans hfin)
              clear hfin hne
              have hA : ∀ w', Chg [] w2 w' → RdK dotTy w' (some ⟨g2, 0, none⟩) out.length (out.take out.length) := fun w' hc => by
                have := ((HI.out.1.take out.length).reads.chg (HJ.out.1.trans (HC.out.trans hc)) (by simp))
                rwa [List.length_take, Nat.min_eq_left (by omega)] at this
              have hB : ∀ w', Chg [] w2 w' → RdK dotTy w' (some ⟨g2, out.length * 2, none⟩) 0 (out.drop out.length) := fun w' hc => by rw [List.drop_of_length_le (Nat.le_refl _)]; exact RdK.nil w' _
              have hX : ∀ w', Chg [] w2 w' → w'.cell? ⟨g, o + i * 2, none⟩ = some (.int .i64 x.1) ∧ w'.cell? ⟨g, o + i * 2 + 1, none⟩ = some (.int .i64 x.2) ∧ Chg [] w2 w' := fun w' hc => ⟨(HL.out _ (HJ.out.1.trans (HC.out.trans hc))).1, (HL.out _ (HJ.out.1.trans (HC.out.trans hc))).2, hc⟩
              have l1 : ([] ++ out.take out.length).length = out.length := by simp [List.length_take] <;> omega
              have l2 : ([] ++ out.take out.length ++ [x]).length = out.length + 1 := by simp [List.length_take] <;> omega
              have L1 := Lib.hid l1
              have L2 := Lib.hid l2
              clear l1 l2
              have HA := Lib.hid hA
              have HB := Lib.hid hB
              have HX9 := Lib.hid hX
              clear hA hB hX
              have n1 : (0 + out.length) * 400 ≤ 140737488355327 := by omega
              have n2 : (out.length + 1) * 400 ≤ 140737488355327 := by omega
              have n3 : (out.length + 1 + (0)) * 400 ≤ 140737488355327 := by omega
              have N1 := Lib.hid n1
              have N2 := Lib.hid n2
              have N3 := Lib.hid n3
              clear n1 n2 n3
              have b1 : out.length ≤ d := by omega
              go_upto_region 9 with fail
              go_region_held3 (fun w' => w'.cell? ⟨g, o + i * 2, none⟩ = some (.int .i64 x.1) ∧ w'.cell? ⟨g, o + i * 2 + 1, none⟩ = some (.int .i64 x.2) ∧ Chg [] w2 w')
                (first | exact HX9.out _ hC | exact HX9.out _ ((Chg.refl [] w2).drewN _) | exact HX9.out _ ((Chg.refl [] w2).drewN _).drew | exact HX9.out _ (Chg.refl [] w2).drew | (((have hC := (‹_ ∧ _ ∧ Chg [] w2 _›).2.2); (first | exact HX9.out _ hC | exact HX9.out _ (hC.alloc _) | exact HX9.out _ hC.drew | exact HX9.out _ (hC.alloc _).drew | exact HX9.out _ (hC.drew.alloc _)))))
                (((have hC := (‹_ ∧ _ ∧ Chg [] w2 _›).2.2); (first
                  | ((refine step_appK (R := dotTy) rfl (.tmp 44) (.tmp 47) rfl rfl (A := some ⟨w2.heap.size, 0, none⟩) (B := some ⟨g2, 0, none⟩) (n := 0) (m := out.length) (c := 0) (d := d) (xs := []) (ys := out.take out.length) (own_2 (w := w2.drewN _) ((Chg.refl [] _).alloc _) rfl) rfl rfl (HA.out _ hC) N1.out ?_); rw [Nat.zero_add]; intro A1 c1 w4 o1 g1 e1; have FR1 := Lib.hid (fresh_appK (A := some ⟨w2.heap.size, 0, none⟩) (above_0 (n := 0)) hC g1 e1); have hC := FR1.out.2; have RX := Lib.hid (rd_2 (gx := w2.heap.size + 1) x g1 (Chg.refl [] _) (size_e _ _) (Nat.succ_ne_self _)); clear g1 e1)
                  | ((refine step_appK (R := dotTy) rfl (.tmp 44) (.tmp 47) rfl rfl (A := some ⟨w2.heap.size, 0, none⟩) (B := some ⟨g2, 0, none⟩) (n := 0) (m := out.length) (c := 0) (d := d) (xs := []) (ys := out.take out.length) (own_2 (w := w2.drewN _) ((Chg.refl [] _).drew.alloc _) rfl) rfl rfl (HA.out _ hC) N1.out ?_); rw [Nat.zero_add]; intro A1 c1 w4 o1 g1 e1; have FR1 := Lib.hid (fresh_appK (A := some ⟨w2.heap.size, 0, none⟩) (above_0 (n := 0)) hC g1 e1); have hC := FR1.out.2; have RX := Lib.hid (rd_2 (gx := w2.heap.size + 1) x g1 (Chg.refl [] _) (size_e _ _) (Nat.succ_ne_self _)); clear g1 e1)
                  | ((refine step_appK (R := dotTy) rfl (.tmp 44) (.tmp 47) rfl rfl (A := some ⟨w2.heap.size, 0, none⟩) (B := some ⟨g2, 0, none⟩) (n := 0) (m := out.length) (c := 0) (d := d) (xs := []) (ys := out.take out.length) (own_2 (w := w2.drewN _) rfl ((Chg.refl [] _).alloc _).drew) rfl rfl (HA.out _ hC) N1.out ?_); rw [Nat.zero_add]; intro A1 c1 w4 o1 g1 e1; have FR1 := Lib.hid (fresh_appK (A := some ⟨w2.heap.size, 0, none⟩) (above_0 (n := 0)) hC g1 e1); have hC := FR1.out.2; have RX := Lib.hid (rd_2 (gx := w2.heap.size + 1) x g1 (Chg.refl [] _) (size_e _ _) (Nat.succ_ne_self _)); clear g1 e1)
                  | ((refine step_appK (R := dotTy) rfl (.tmp 44) (.tmp 47) rfl rfl (A := some ⟨w2.heap.size, 0, none⟩) (B := some ⟨g2, 0, none⟩) (n := 0) (m := out.length) (c := 0) (d := d) (xs := []) (ys := out.take out.length) (own_2 (w := w2.drewN _) rfl ((Chg.refl [] _).drew.alloc _).drew) rfl rfl (HA.out _ hC) N1.out ?_); rw [Nat.zero_add]; intro A1 c1 w4 o1 g1 e1; have FR1 := Lib.hid (fresh_appK (A := some ⟨w2.heap.size, 0, none⟩) (above_0 (n := 0)) hC g1 e1); have hC := FR1.out.2; have RX := Lib.hid (rd_2 (gx := w2.heap.size + 1) x g1 (Chg.refl [] _) (size_e _ _) (Nat.succ_ne_self _)); clear g1 e1)
                  | ((refine step_appK (R := dotTy) rfl (.tmp 44) (.tmp 47) rfl rfl (A := some ⟨w2.heap.size, 0, none⟩) (B := some ⟨g2, 0, none⟩) (n := 0) (m := out.length) (c := 0) (d := d) (xs := []) (ys := out.take out.length) (own_2 (w := w2.drewN _) (Chg.refl [] _) rfl) rfl rfl (HA.out _ hC) N1.out ?_); rw [Nat.zero_add]; intro A1 c1 w4 o1 g1 e1; have FR1 := Lib.hid (fresh_appK (A := some ⟨w2.heap.size, 0, none⟩) (above_0 (n := 0)) hC g1 e1); have hC := FR1.out.2; clear g1 e1)
                  | ((refine step_appK (R := dotTy) rfl (.tmp 44) (.tmp 47) rfl rfl (A := some ⟨w2.heap.size + 1, 0, none⟩) (B := some ⟨g2, 0, none⟩) (n := 0) (m := out.length) (c := 0) (d := d) (xs := []) (ys := out.take out.length) (own_2 (w := World.alloc _ _) (Chg.refl [] _) (size_e _ _)) rfl rfl (HA.out _ hC) N1.out ?_); rw [Nat.zero_add]; intro A1 c1 w4 o1 g1 e1; have FR1 := Lib.hid (fresh_appK (A := some ⟨w2.heap.size + 1, 0, none⟩) (above_0 (n := 1)) hC g1 e1); have hC := FR1.out.2; have RX := Lib.hid (rd_2 (gx := w2.heap.size) x g1 ((Chg.refl [] _).alloc _) rfl (Nat.succ_ne_self _).symm); clear g1 e1)
                  | ((refine step_appK (R := dotTy) rfl (.tmp 48) (.tmp 53) rfl rfl (A := A1) (B := some ⟨w2.heap.size + 1, 0, none⟩) (n := out.length) (m := 1) (c := c1) (d := 1) (xs := [] ++ out.take out.length) (ys := [x]) o1 L1.out rfl RX.out N2.out ?_); intro A2 c2 w5 o2 h2 e2; have FR2 := Lib.hid (fresh_appK FR1.out.1 hC h2 e2); have hC := FR2.out.2; clear h2 e2)
                  | ((refine step_appK (R := dotTy) rfl (.tmp 48) (.tmp 53) rfl rfl (A := A1) (B := some ⟨w2.heap.size, 0, none⟩) (n := out.length) (m := 1) (c := c1) (d := 1) (xs := [] ++ out.take out.length) (ys := [x]) o1 L1.out rfl RX.out N2.out ?_); intro A2 c2 w5 o2 h2 e2; have FR2 := Lib.hid (fresh_appK FR1.out.1 hC h2 e2); have hC := FR2.out.2; clear h2 e2)
                  | ((refine step_appK (R := dotTy) rfl (.tmp 48) (.tmp 53) rfl rfl (A := A1) (B := some ⟨w4.heap.size, 0, none⟩) (n := out.length) (m := 1) (c := c1) (d := 1) (xs := [] ++ out.take out.length) (ys := [x]) (o1.chg ((Chg.refl [] _).alloc _) (fun _ _ => List.not_mem_nil)) L1.out rfl (rd_e x rfl) N2.out ?_); intro A2 c2 w5 o2 h2 e2; have FR2 := Lib.hid (fresh_appK FR1.out.1 hC h2 e2); have hC := FR2.out.2; clear h2 e2)
                  | ((refine step_appK (R := dotTy) rfl (.tmp 54) (.tmp 57) rfl rfl (A := A2) (B := some ⟨g2, out.length * 2, none⟩) (n := out.length + 1) (m := 0) (c := c2) (d := d - out.length) (xs := [] ++ out.take out.length ++ [x]) (ys := out.drop out.length) o2 L2.out rfl (HB.out _ hC) N3.out ?_); intro A3 c3 w6 o3 g3 e3; have FR3 := Lib.hid (fresh_appK FR2.out.1 hC g3 e3); have hC := FR3.out.2; clear g3 e3))))
              all_goals
                go_wp2
                go_round
                case rel =>
                  have HG := HI.out.2.2.trans (HJ.out.1.trans HC.out)
                  refine ⟨i + 1, A3, c3, by omega, by go_num, ?_, ?_⟩
                  · rw [HF.out]
                    congr 1
                    simp only [List.length_append, List.length_take, List.length_cons, List.length_drop]; omega
                  · rw [HF.out]
                    have o4 := o3
                    simp only [List.nil_append, List.append_assoc, List.singleton_append] at o4
                    exact ⟨o4, fun a ha => Nat.le_trans HG.size (FR3.out.1 a ha), HG.trans FR3.out.2⟩
                case measure => simp [RowKit.intOf]; omega
    · obtain rfl : i = xs.length := by omega
      have HO := HI.out
      rw [List.take_length] at HO
      have HF := Lib.hid HO
      clear HO
      rw [List.take_length]
      go_wp2
      go_ret
      exact ⟨B, d, rfl, HF.out.1, HF.out.2.2⟩
end Go.Proofs.YtmcnfopiilplnaaDoor
