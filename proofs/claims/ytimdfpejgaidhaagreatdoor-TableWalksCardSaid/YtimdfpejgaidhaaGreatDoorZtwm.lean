/- The document's Sort of texts. -/
import Derived.Test.YtimdfpejgaidhaaGreatDoorZtwl
import Derived.Test.YtimdfpejgaidhaaGreatDoorZtwk
import Derived.Deep.Cut
import Derived.Deep.RegionHeld3
namespace Go.Proofs.YtimdfpejgaidhaaGreatDoor
section
open Go.RowKit Go.Sort Go.Lib
set_option linter.unusedSimpArgs false
set_option linter.unusedVariables false



theorem RdK.grown {α : Type} {R : RowTy α} {w w' : World} {A B : Option Addr} {n : Nat} {xs : List α} (h : RdK R w B n xs) (g : w.grownBy w' (A.map (·.block))) (hne : ∀ a b, A = some a → B = some b → a.block ≠ b.block) : RdK R w' B n xs :=
  ⟨h.len, fun j u hj => by
    obtain ⟨b, hb, hc⟩ := h.cells j u hj
    refine ⟨b, hb, (World.cell?_of_block (g.block _ (lt_of_cell hc) (fun e => ?_))).trans hc⟩
    rw [block_add] at e
    cases A with
    | none => cases e
    | some a => simp at e; exact hne a b rfl hb e.symm⟩
theorem own_empty {w : World} {b : Nat} (h : w.heap[b]? = some (.cells #[] 9 (0, 0))) : OwnK textTy w (some ⟨b, 0, none⟩) 0 [] := OwnK.of (R := textTy) (full := []) h (Nat.le_refl _) (by decide) rfl rfl
theorem rd_text1 {w : World} {b : Nat} {x : List UInt8} (h : w.heap[b]? = some (.cells #[.string (strOf x)] 9 (0, 0))) : RdK textTy w (some ⟨b, 0, none⟩) 1 [x] :=
  (OwnK.of (R := textTy) (c := 1) (full := [x]) (xs := [x]) h (Nat.le_refl _) (by decide) rfl rfl).reads

theorem fresh_row {A A1 : Option Addr} {w2 u : World} (hA : ∀ a, A = some a → w2.heap.size ≤ a.block) (hc : Chg [] w2 u) (e : A1 = A ∨ A1 = some ⟨u.heap.size, 0, none⟩) : ∀ a, A1 = some a → w2.heap.size ≤ a.block := by
  rintro a rfl
  rcases e with e | e
  · exact hA a e.symm
  · cases e; exact hc.size
theorem row_fresh {A : Option Addr} {w2 : World} (hA : ∀ a, A = some a → w2.heap.size ≤ a.block) : ∀ k, A.map (·.block) = some k → k ∈ ([] : List Nat) ∨ w2.heap.size ≤ k := by
  rintro k hk
  cases A with
  | none => cases hk
  | some a => simp at hk; subst hk; exact .inr (hA a rfl)
set_option maxHeartbeats 8000000 in
set_option maxRecDepth 100000 in
theorem qhsort_any (w : World) (A : Option Addr) (c : Nat) (xs : List (List UInt8)) (h : RdK textTy w A xs.length xs) (hn : xs.length ≤ 1000000) (hx : ∀ x ∈ xs, x.length ≤ 10000000) :
    Calls Tryz.prog 62 #[.slice A xs.length c] w fun e w' => ∃ A' c', e = .returned (.slice A' (insAllT lessL xs).length c') ∧ OwnK textTy w' A' c' (insAllT lessL xs) ∧ (∀ a, A' = some a → w.heap.size ≤ a.block) ∧ Chg [] w w' := by
  have HX0 := Lib.hid h
  have HXL := Lib.hid hx
  have HMEM := Lib.hid (fun n => (insAllT_props ordL (xs.take n)))
  clear h hx
  go_enter Tryz.func62, Tryz.ntmps62
  go_wp2
  go_loopw [3, 4, 5] (fun v3 v4 v5 wr => ∃ (i : Nat) (A' : Option Addr) (c' : Nat), i ≤ xs.length ∧ v4 = .int .i64 i ∧ v3 = .slice A' (insAllT lessL (xs.take i)).length c' ∧ Hid (OwnK textTy wr A' c' (insAllT lessL (xs.take i)) ∧ (∀ a, A' = some a → w.heap.size ≤ a.block) ∧ Chg [] w wr)) (fun _ v4 _ _ => xs.length - (RowKit.intOf v4).toNat)
  case atStart => exact ⟨0, none, 0, Nat.zero_le _, rfl, rfl, Lib.hid ⟨OwnK.none_ _, by simp, Chg.refl _ _⟩⟩
  case round =>
    obtain ⟨i, B, d, hi, rfl, rfl, HI⟩ := hrel
    generalize wr = w1 at *
    clear wr
    have k1 : IntKind.i64.wrap ((i : Int) + 1) = (i : Int) + 1 := IntWalk.i64_in _ (by omega)
    by_cases hlt : i < xs.length
    · skip
      have ex := List.getElem?_eq_getElem hlt
      have hins : insAllT lessL (xs.take (i + 1)) = insT lessL xs[i] (insAllT lessL (xs.take i)) := by rw [List.take_succ_eq_append_getElem hlt, insAllT_snoc]
      have hsz : (insAllT lessL (xs.take i)).length ≤ i := by have := (HMEM.out i).2.2; rw [List.length_take] at this; omega
      have hyl : ∀ y ∈ insAllT lessL (xs.take i), y.length ≤ 10000000 := fun y hy => HXL.out y (List.mem_of_mem_take (((HMEM.out i).2.1 y).1 hy))
      have hxl := HXL.out xs[i] (List.getElem_mem hlt)
      generalize xs[i] = x at *
      generalize insAllT lessL (xs.take i) = out at *
      have HINS := Lib.hid hins
      have HYL := Lib.hid hyl
      clear hins hyl
      obtain ⟨g, o, eA, _⟩ := HX0.out.line (by omega)
      subst eA
      have i0 : (0 : Int) ≤ (i : Int) := by omega
      have i1 : (i : Int) < (xs.length : Int) := by omega
      have HXC := Lib.hid (fun (w' : World) (hc : Chg [] w1 w') => textCells (HX0.out.chg (HI.out.2.2.trans hc) (by simp)) ex)
      have hcap := HI.out.1.cap
      have hcl := hcap.1
      have hcm := hcap.2
      unfold maxLen at hcm
      clear ex hcap
      go_wp2
      go_loopw [5] (fun v5 wq => ∃ k : Nat, k ≤ out.length ∧ v5 = .int .i64 k ∧ Hid (Chg [] w1 wq ∧ ∀ p y, out[p]? = some y → p < k → lessL y x = true)) (fun v5 _ => out.length - (RowKit.intOf v5).toNat)
      case atStart => exact ⟨0, Nat.zero_le _, rfl, Lib.hid ⟨Chg.refl _ _, by intros; omega⟩⟩
      case round =>
        obtain ⟨k, hk, rfl, HJ⟩ := hrel
        have j0 : (0 : Int) ≤ (k : Int) := by omega
        have j9 : IntKind.i64.wrap ((k : Int) + 1) = (k : Int) + 1 := IntWalk.i64_in _ (by omega)
        by_cases hkl : k < out.length
        · skip
          obtain ⟨g2, o2, eB, _⟩ := HI.out.1.reads.line (by omega)
          have eo : o2 = 0 := by
            rcases HI.out.1.shape with ⟨h, _⟩ | ⟨g', h, _⟩
            · rw [h] at eB; cases eB
            · rw [h] at eB; cases eB; rfl
          subst eo
          subst eB
          have ey := List.getElem?_eq_getElem hkl
          have hyl := HYL.out out[k] (List.getElem_mem hkl)
          generalize out[k] = y at *
          have EY := Lib.hid ey
          have HY := Lib.hid (show ∀ w', Chg [] wr w' → w'.cell? ⟨g2, k, none⟩ = some (.string (strOf y)) from fun w' hc => by
            have := textCells (HI.out.1.reads.chg (HJ.out.1.trans hc) (by simp)) ey
            rwa [Nat.zero_add] at this)
          have HXR := Lib.hid (fun (w' : World) (hc : Chg [] wr w') => HXC.out w' (HJ.out.1.trans hc))
          clear ey
          have j1 : (k : Int) < (out.length : Int) := by omega
          have hg2 : decide (k < out.length) = true := by simpa using hkl
          have LS := Lib.hid (fun w => qhless_any w y x hyl hxl)
          obtain ⟨b, hb⟩ : ∃ b, lessL y x = b := ⟨_, rfl⟩
          rw [hb] at LS
          have HBL := Lib.hid hb
          clear hb
          cases b with
          | true =>
            go_upto_region 6 with fail
            refine wp_region_held_drew (S := fun w' => Chg [] wr w') (by kernel_rfl) (Chg.refl [] wr).drew (fun hHeld => ?_)
            refine step_yes 0 12 ?_ (by assumption) rfl rfl (by kernel_rfl) (by kernel_rfl) (by kernel_rfl) (fun _ _ _ h => h) (by rfl) ?_ ?_
            rotate_left
            · (intro w hSw; (try dsimp only at hSw); go_simp; try with_reducible rfl)
            try simp only [Act.put, List.setIfInBounds_toArray, List.set_cons_zero, List.set_cons_succ]
            refine step_yes 1 13 ?_ (by assumption) rfl rfl (by kernel_rfl) (by kernel_rfl) (by kernel_rfl) (fun _ _ _ h => h) (by rfl) ?_ ?_
            rotate_left
            · (intro w hSw; (try dsimp only at hSw); go_simp; try with_reducible rfl)
            try simp only [Act.put, List.setIfInBounds_toArray, List.set_cons_zero, List.set_cons_succ]
            refine step_yes 2 14 ?_ (by assumption) rfl rfl (by kernel_rfl) (by kernel_rfl) (by kernel_rfl) (fun _ _ _ h => h) (by rfl) ?_ ?_
            rotate_left
            · (intro w hSw; (try dsimp only at hSw); go_simp; try with_reducible rfl)
            try simp only [Act.put, List.setIfInBounds_toArray, List.set_cons_zero, List.set_cons_succ]
            refine step_yes 3 15 ?_ (by assumption) rfl rfl (by kernel_rfl) (by kernel_rfl) (by kernel_rfl) (fun _ _ _ h => h) (by rfl) ?_ ?_
            rotate_left
            · (intro w hSw; (try dsimp only at hSw); go_simp; try with_reducible rfl)
            try simp only [Act.put, List.setIfInBounds_toArray, List.set_cons_zero, List.set_cons_succ]
            refine step_yes 4 16 ?_ (by assumption) rfl rfl (by kernel_rfl) (by kernel_rfl) (by kernel_rfl) (fun _ _ _ h => h) (by rfl) ?_ ?_
            rotate_left
            · (intro w hSw; (try dsimp only at hSw); go_simp; try with_reducible rfl)
            try simp only [Act.put, List.setIfInBounds_toArray, List.set_cons_zero, List.set_cons_succ]
            refine step_yes 5 17 ?_ (by assumption) rfl rfl (by kernel_rfl) (by kernel_rfl) (by kernel_rfl) (fun _ _ _ h => h) (by rfl) ?_ ?_
            rotate_left
            · (intro w hSw; (try dsimp only at hSw); go_simp; try with_reducible rfl)
            try simp only [Act.put, List.setIfInBounds_toArray, List.set_cons_zero, List.set_cons_succ]
            refine step_yes 6 18 ?_ (by assumption) rfl rfl (by kernel_rfl) (by kernel_rfl) (by kernel_rfl) (fun _ _ _ h => h) (by rfl) ?_ ?_
            rotate_left
            · (intro w hSw; (try dsimp only at hSw); go_simp; try with_reducible rfl)
            try simp only [Act.put, List.setIfInBounds_toArray, List.set_cons_zero, List.set_cons_succ]
            refine step_yes 7 19 ?_ (by assumption) rfl rfl (by kernel_rfl) (by kernel_rfl) (by kernel_rfl) (fun _ _ _ h => h) (by rfl) ?_ ?_
            rotate_left
            · (intro w hSw; (try dsimp only at hSw); go_simp; try with_reducible rfl)
            try simp only [Act.put, List.setIfInBounds_toArray, List.set_cons_zero, List.set_cons_succ]
            refine step_yes 8 20 ?_ (by assumption) rfl rfl (by kernel_rfl) (by kernel_rfl) (by kernel_rfl) (fun _ _ _ h => h) (by rfl) ?_ ?_
            rotate_left
            · (intro w hSw; (try dsimp only at hSw); have q := HY.out _ hSw; go_simp; try with_reducible rfl)
            try simp only [Act.put, List.setIfInBounds_toArray, List.set_cons_zero, List.set_cons_succ]
            refine step_yes 9 21 ?_ (by assumption) rfl rfl (by kernel_rfl) (by kernel_rfl) (by kernel_rfl) (fun _ _ _ h => h) (by rfl) ?_ ?_
            rotate_left
            · (intro w hSw; (try dsimp only at hSw); go_simp; try with_reducible rfl)
            try simp only [Act.put, List.setIfInBounds_toArray, List.set_cons_zero, List.set_cons_succ]
            refine step_yes 10 22 ?_ (by assumption) rfl rfl (by kernel_rfl) (by kernel_rfl) (by kernel_rfl) (fun _ _ _ h => h) (by rfl) ?_ ?_
            rotate_left
            · (intro w hSw; (try dsimp only at hSw); go_simp; try with_reducible rfl)
            try simp only [Act.put, List.setIfInBounds_toArray, List.set_cons_zero, List.set_cons_succ]
            refine step_yes 11 23 ?_ (by assumption) rfl rfl (by kernel_rfl) (by kernel_rfl) (by kernel_rfl) (fun _ _ _ h => h) (by rfl) ?_ ?_
            rotate_left
            · (intro w hSw; (try dsimp only at hSw); go_simp; try with_reducible rfl)
            try simp only [Act.put, List.setIfInBounds_toArray, List.set_cons_zero, List.set_cons_succ]
            refine step_yes 12 24 ?_ (by assumption) rfl rfl (by kernel_rfl) (by kernel_rfl) (by kernel_rfl) (fun _ _ _ h => h) (by rfl) ?_ ?_
            rotate_left
            · (intro w hSw; (try dsimp only at hSw); have q := HXR.out _ hSw; go_simp; try with_reducible rfl)
            try simp only [Act.put, List.setIfInBounds_toArray, List.set_cons_zero, List.set_cons_succ]
            refine wpAnyH_ready (rs := [13]) (by kernel_rfl) (by simp) ?_
            refine AllReadyH.cons rfl (fun K hK => ?_) AllReadyH.nil
            replace hK := Lib.hid hK
            go_simp
            refine (LS.out _).mono ?_
            rintro e w9 ⟨rfl, hc⟩
            have C9 := Lib.hid (hHeld.trans hc)
            clear hc hHeld
            refine hK.out _ _ C9.out (fun hHeld => ?_)
            clear hK K
            try simp only [Act.put, List.setIfInBounds_toArray, List.set_cons_zero, List.set_cons_succ]
            refine step_yes 14 26 ?_ (by assumption) rfl rfl (by kernel_rfl) (by kernel_rfl) (by kernel_rfl) (fun _ _ _ h => h) (by rfl) ?_ ?_
            rotate_left
            · (intro w hSw; (try dsimp only at hSw); go_simp; try with_reducible rfl)
            try simp only [Act.put, List.setIfInBounds_toArray, List.set_cons_zero, List.set_cons_succ]
            refine wpAnyH_done (by kernel_rfl) ?_ _
            have K9 := Lib.hid (HJ.out.1.trans C9.out)
            go_wp2
            go_round
            case rel =>
              refine ⟨k + 1, by omega, by go_num, Lib.hid ⟨K9.out, fun p z hz hp => ?_⟩⟩
              by_cases e : p = k
              · subst e; rw [EY.out] at hz; cases hz; exact HBL.out
              · exact HJ.out.2 p z hz (by omega)
            case measure => simp [RowKit.intOf]; omega
          | false =>
            have HCN := Lib.hid (cntT_is x out k HJ.out.2 hk (fun z hz => by rw [EY.out] at hz; cases hz; exact HBL.out))
            go_upto_region 6 with fail
            refine wp_region_held_drew (S := fun w' => Chg [] wr w') (by kernel_rfl) (Chg.refl [] wr).drew (fun hHeld => ?_)
            refine step_yes 0 12 ?_ (by assumption) rfl rfl (by kernel_rfl) (by kernel_rfl) (by kernel_rfl) (fun _ _ _ h => h) (by rfl) ?_ ?_
            rotate_left
            · (intro w hSw; (try dsimp only at hSw); go_simp; try with_reducible rfl)
            try simp only [Act.put, List.setIfInBounds_toArray, List.set_cons_zero, List.set_cons_succ]
            refine step_yes 1 13 ?_ (by assumption) rfl rfl (by kernel_rfl) (by kernel_rfl) (by kernel_rfl) (fun _ _ _ h => h) (by rfl) ?_ ?_
            rotate_left
            · (intro w hSw; (try dsimp only at hSw); go_simp; try with_reducible rfl)
            try simp only [Act.put, List.setIfInBounds_toArray, List.set_cons_zero, List.set_cons_succ]
            refine step_yes 2 14 ?_ (by assumption) rfl rfl (by kernel_rfl) (by kernel_rfl) (by kernel_rfl) (fun _ _ _ h => h) (by rfl) ?_ ?_
            rotate_left
            · (intro w hSw; (try dsimp only at hSw); go_simp; try with_reducible rfl)
            try simp only [Act.put, List.setIfInBounds_toArray, List.set_cons_zero, List.set_cons_succ]
            refine step_yes 3 15 ?_ (by assumption) rfl rfl (by kernel_rfl) (by kernel_rfl) (by kernel_rfl) (fun _ _ _ h => h) (by rfl) ?_ ?_
            rotate_left
            · (intro w hSw; (try dsimp only at hSw); go_simp; try with_reducible rfl)
            try simp only [Act.put, List.setIfInBounds_toArray, List.set_cons_zero, List.set_cons_succ]
            refine step_yes 4 16 ?_ (by assumption) rfl rfl (by kernel_rfl) (by kernel_rfl) (by kernel_rfl) (fun _ _ _ h => h) (by rfl) ?_ ?_
            rotate_left
            · (intro w hSw; (try dsimp only at hSw); go_simp; try with_reducible rfl)
            try simp only [Act.put, List.setIfInBounds_toArray, List.set_cons_zero, List.set_cons_succ]
            refine step_yes 5 17 ?_ (by assumption) rfl rfl (by kernel_rfl) (by kernel_rfl) (by kernel_rfl) (fun _ _ _ h => h) (by rfl) ?_ ?_
            rotate_left
            · (intro w hSw; (try dsimp only at hSw); go_simp; try with_reducible rfl)
            try simp only [Act.put, List.setIfInBounds_toArray, List.set_cons_zero, List.set_cons_succ]
            refine step_yes 6 18 ?_ (by assumption) rfl rfl (by kernel_rfl) (by kernel_rfl) (by kernel_rfl) (fun _ _ _ h => h) (by rfl) ?_ ?_
            rotate_left
            · (intro w hSw; (try dsimp only at hSw); go_simp; try with_reducible rfl)
            try simp only [Act.put, List.setIfInBounds_toArray, List.set_cons_zero, List.set_cons_succ]
            refine step_yes 7 19 ?_ (by assumption) rfl rfl (by kernel_rfl) (by kernel_rfl) (by kernel_rfl) (fun _ _ _ h => h) (by rfl) ?_ ?_
            rotate_left
            · (intro w hSw; (try dsimp only at hSw); go_simp; try with_reducible rfl)
            try simp only [Act.put, List.setIfInBounds_toArray, List.set_cons_zero, List.set_cons_succ]
            refine step_yes 8 20 ?_ (by assumption) rfl rfl (by kernel_rfl) (by kernel_rfl) (by kernel_rfl) (fun _ _ _ h => h) (by rfl) ?_ ?_
            rotate_left
            · (intro w hSw; (try dsimp only at hSw); have q := HY.out _ hSw; go_simp; try with_reducible rfl)
            try simp only [Act.put, List.setIfInBounds_toArray, List.set_cons_zero, List.set_cons_succ]
            refine step_yes 9 21 ?_ (by assumption) rfl rfl (by kernel_rfl) (by kernel_rfl) (by kernel_rfl) (fun _ _ _ h => h) (by rfl) ?_ ?_
            rotate_left
            · (intro w hSw; (try dsimp only at hSw); go_simp; try with_reducible rfl)
            try simp only [Act.put, List.setIfInBounds_toArray, List.set_cons_zero, List.set_cons_succ]
            refine step_yes 10 22 ?_ (by assumption) rfl rfl (by kernel_rfl) (by kernel_rfl) (by kernel_rfl) (fun _ _ _ h => h) (by rfl) ?_ ?_
            rotate_left
            · (intro w hSw; (try dsimp only at hSw); go_simp; try with_reducible rfl)
            try simp only [Act.put, List.setIfInBounds_toArray, List.set_cons_zero, List.set_cons_succ]
            refine step_yes 11 23 ?_ (by assumption) rfl rfl (by kernel_rfl) (by kernel_rfl) (by kernel_rfl) (fun _ _ _ h => h) (by rfl) ?_ ?_
            rotate_left
            · (intro w hSw; (try dsimp only at hSw); go_simp; try with_reducible rfl)
            try simp only [Act.put, List.setIfInBounds_toArray, List.set_cons_zero, List.set_cons_succ]
            refine step_yes 12 24 ?_ (by assumption) rfl rfl (by kernel_rfl) (by kernel_rfl) (by kernel_rfl) (fun _ _ _ h => h) (by rfl) ?_ ?_
            rotate_left
            · (intro w hSw; (try dsimp only at hSw); have q := HXR.out _ hSw; go_simp; try with_reducible rfl)
            try simp only [Act.put, List.setIfInBounds_toArray, List.set_cons_zero, List.set_cons_succ]
            refine wpAnyH_ready (rs := [13]) (by kernel_rfl) (by simp) ?_
            refine AllReadyH.cons rfl (fun K hK => ?_) AllReadyH.nil
            replace hK := Lib.hid hK
            go_simp
            refine (LS.out _).mono ?_
            rintro e w9 ⟨rfl, hc⟩
            have C9 := Lib.hid (hHeld.trans hc)
            clear hc hHeld
            refine hK.out _ _ C9.out (fun hHeld => ?_)
            clear hK K
            try simp only [Act.put, List.setIfInBounds_toArray, List.set_cons_zero, List.set_cons_succ]
            refine step_yes 14 26 ?_ (by assumption) rfl rfl (by kernel_rfl) (by kernel_rfl) (by kernel_rfl) (fun _ _ _ h => h) (by rfl) ?_ ?_
            rotate_left
            · (intro w hSw; (try dsimp only at hSw); go_simp; try with_reducible rfl)
            try simp only [Act.put, List.setIfInBounds_toArray, List.set_cons_zero, List.set_cons_succ]
            refine wpAnyH_done (by kernel_rfl) ?_ _
            have CK9 := Lib.hid (HJ.out.1.trans C9.out)
            have hy9 := HY.out _ C9.out
            have hx9 := HXR.out _ C9.out
            clear hHeld
            have hg4 : decide (k = out.length) = false := by simp; omega
            have hg5 : ¬ (k : Int) = (out.length : Int) := by omega
            have hg6 : ((k : Int) == (out.length : Int)) = false := by simpa using hg5
            go_upto_region 8 with fail
            by_cases hyx : y = x
            · subst hyx
              have HY9 := Lib.hid (show ∀ w', Chg [] w9 w' → w'.cell? ⟨g2, k, none⟩ = some (.string (strOf y)) from fun w' hc => HY.out _ (C9.out.trans hc))
              have HX9 := Lib.hid (fun (w' : World) (hc : Chg [] w9 w') => HXR.out w' (C9.out.trans hc))
              refine wp_region_held_drew (S := fun w' => Chg [] w9 w') (by kernel_rfl) (Chg.refl [] w9).drew (fun hHeld => ?_)
              refine step_yes 0 29 ?_ (by assumption) rfl rfl (by kernel_rfl) (by kernel_rfl) (by kernel_rfl) (fun _ _ _ h => h) (by rfl) ?_ ?_
              rotate_left
              · (intro w hSw; (try dsimp only at hSw); go_simp; try with_reducible rfl)
              try simp only [Act.put, List.setIfInBounds_toArray, List.set_cons_zero, List.set_cons_succ]
              refine step_yes 1 30 ?_ (by assumption) rfl rfl (by kernel_rfl) (by kernel_rfl) (by kernel_rfl) (fun _ _ _ h => h) (by rfl) ?_ ?_
              rotate_left
              · (intro w hSw; (try dsimp only at hSw); go_simp; try with_reducible rfl)
              try simp only [Act.put, List.setIfInBounds_toArray, List.set_cons_zero, List.set_cons_succ]
              refine step_yes 2 31 ?_ (by assumption) rfl rfl (by kernel_rfl) (by kernel_rfl) (by kernel_rfl) (fun _ _ _ h => h) (by rfl) ?_ ?_
              rotate_left
              · (intro w hSw; (try dsimp only at hSw); go_simp; try with_reducible rfl)
              try simp only [Act.put, List.setIfInBounds_toArray, List.set_cons_zero, List.set_cons_succ]
              refine step_yes 3 32 ?_ (by assumption) rfl rfl (by kernel_rfl) (by kernel_rfl) (by kernel_rfl) (fun _ _ _ h => h) (by rfl) ?_ ?_
              rotate_left
              · (intro w hSw; (try dsimp only at hSw); go_simp; try with_reducible rfl)
              try simp only [Act.put, List.setIfInBounds_toArray, List.set_cons_zero, List.set_cons_succ]
              refine step_yes 4 33 ?_ (by assumption) rfl rfl (by kernel_rfl) (by kernel_rfl) (by kernel_rfl) (fun _ _ _ h => h) (by rfl) ?_ ?_
              rotate_left
              · (intro w hSw; (try dsimp only at hSw); go_simp; try with_reducible rfl)
              try simp only [Act.put, List.setIfInBounds_toArray, List.set_cons_zero, List.set_cons_succ]
              refine step_yes 5 34 ?_ (by assumption) rfl rfl (by kernel_rfl) (by kernel_rfl) (by kernel_rfl) (fun _ _ _ h => h) (by rfl) ?_ ?_
              rotate_left
              · (intro w hSw; (try dsimp only at hSw); go_simp; try with_reducible rfl)
              try simp only [Act.put, List.setIfInBounds_toArray, List.set_cons_zero, List.set_cons_succ]
              refine step_yes 6 35 ?_ (by assumption) rfl rfl (by kernel_rfl) (by kernel_rfl) (by kernel_rfl) (fun _ _ _ h => h) (by rfl) ?_ ?_
              rotate_left
              · (intro w hSw; (try dsimp only at hSw); go_simp; try with_reducible rfl)
              try simp only [Act.put, List.setIfInBounds_toArray, List.set_cons_zero, List.set_cons_succ]
              refine step_yes 7 36 ?_ (by assumption) rfl rfl (by kernel_rfl) (by kernel_rfl) (by kernel_rfl) (fun _ _ _ h => h) (by rfl) ?_ ?_
              rotate_left
              · (intro w hSw; (try dsimp only at hSw); go_simp; try with_reducible rfl)
              try simp only [Act.put, List.setIfInBounds_toArray, List.set_cons_zero, List.set_cons_succ]
              refine step_yes 8 37 ?_ (by assumption) rfl rfl (by kernel_rfl) (by kernel_rfl) (by kernel_rfl) (fun _ _ _ h => h) (by rfl) ?_ ?_
              rotate_left
              · (intro w hSw; (try dsimp only at hSw); have q := HY9.out _ hSw; go_simp; try with_reducible rfl)
              try simp only [Act.put, List.setIfInBounds_toArray, List.set_cons_zero, List.set_cons_succ]
              refine step_yes 9 38 ?_ (by assumption) rfl rfl (by kernel_rfl) (by kernel_rfl) (by kernel_rfl) (fun _ _ _ h => h) (by rfl) ?_ ?_
              rotate_left
              · (intro w hSw; (try dsimp only at hSw); go_simp; try with_reducible rfl)
              try simp only [Act.put, List.setIfInBounds_toArray, List.set_cons_zero, List.set_cons_succ]
              refine step_yes 10 39 ?_ (by assumption) rfl rfl (by kernel_rfl) (by kernel_rfl) (by kernel_rfl) (fun _ _ _ h => h) (by rfl) ?_ ?_
              rotate_left
              · (intro w hSw; (try dsimp only at hSw); go_simp; try with_reducible rfl)
              try simp only [Act.put, List.setIfInBounds_toArray, List.set_cons_zero, List.set_cons_succ]
              refine step_yes 11 40 ?_ (by assumption) rfl rfl (by kernel_rfl) (by kernel_rfl) (by kernel_rfl) (fun _ _ _ h => h) (by rfl) ?_ ?_
              rotate_left
              · (intro w hSw; (try dsimp only at hSw); go_simp; try with_reducible rfl)
              try simp only [Act.put, List.setIfInBounds_toArray, List.set_cons_zero, List.set_cons_succ]
              refine step_yes 12 41 ?_ (by assumption) rfl rfl (by kernel_rfl) (by kernel_rfl) (by kernel_rfl) (fun _ _ _ h => h) (by rfl) ?_ ?_
              rotate_left
              · (intro w hSw; (try dsimp only at hSw); have q := HX9.out _ hSw; go_simp; try with_reducible rfl)
              try simp only [Act.put, List.setIfInBounds_toArray, List.set_cons_zero, List.set_cons_succ]
              refine step_yes 13 42 ?_ (by assumption) rfl rfl (by kernel_rfl) (by kernel_rfl) (by kernel_rfl) (fun _ _ _ h => h) (by rfl) ?_ ?_
              rotate_left
              · (intro w hSw; (try dsimp only at hSw); go_simp; try with_reducible rfl)
              try simp only [Act.put, List.setIfInBounds_toArray, List.set_cons_zero, List.set_cons_succ]
              refine step_yes 14 43 ?_ (by assumption) rfl rfl (by kernel_rfl) (by kernel_rfl) (by kernel_rfl) (fun _ _ _ h => h) (by rfl) ?_ ?_
              rotate_left
              · (intro w hSw; (try dsimp only at hSw); go_simp; try with_reducible rfl)
              try simp only [Act.put, List.setIfInBounds_toArray, List.set_cons_zero, List.set_cons_succ]
              refine wpAnyH_done (by kernel_rfl) ?_ _
              have K10 := Lib.hid (CK9.out.trans hHeld)
              have hfin : insT lessL y out = out := by unfold insT; rw [HCN.out, if_pos EY.out]
              have HF := Lib.hid (HINS.out.trans hfin)
              clear hfin
              go_wp2
              go_round
              case rel =>
                refine ⟨i + 1, some ⟨g2, 0, none⟩, d, by omega, by go_num, by rw [HF.out], Lib.hid ?_⟩
                rw [HF.out]
                exact ⟨HI.out.1.chg K10.out (by simp), HI.out.2.1, HI.out.2.2.trans K10.out⟩
              case measure => simp [RowKit.intOf]; omega
            · have hse := str_ne hyx
              have hne : ¬ out[k]? = some x := by rw [EY.out]; intro h; cases h; exact hyx rfl
              have hyb : (y == x) = false := by simpa using hyx
              have HF := Lib.hid (HINS.out.trans (show insT lessL x out = out.take k ++ x :: out.drop k by unfold insT; rw [HCN.out, if_neg hne]))
              clear hne hyx
              have HY9 := Lib.hid (show ∀ w', Chg [] w9 w' → w'.cell? ⟨g2, k, none⟩ = some (.string (strOf y)) from fun w' hc => HY.out _ (C9.out.trans hc))
              have HX9 := Lib.hid (fun (w' : World) (hc : Chg [] w9 w') => HXR.out w' (C9.out.trans hc))
              refine wp_region_held_drew (S := fun w' => Chg [] w9 w') (by kernel_rfl) (Chg.refl [] w9).drew (fun hHeld => ?_)
              refine step_yes 0 29 ?_ (by assumption) rfl rfl (by kernel_rfl) (by kernel_rfl) (by kernel_rfl) (fun _ _ _ h => h) (by rfl) ?_ ?_
              rotate_left
              · (intro w hSw; (try dsimp only at hSw); go_simp; try with_reducible rfl)
              try simp only [Act.put, List.setIfInBounds_toArray, List.set_cons_zero, List.set_cons_succ]
              refine step_yes 1 30 ?_ (by assumption) rfl rfl (by kernel_rfl) (by kernel_rfl) (by kernel_rfl) (fun _ _ _ h => h) (by rfl) ?_ ?_
              rotate_left
              · (intro w hSw; (try dsimp only at hSw); go_simp; try with_reducible rfl)
              try simp only [Act.put, List.setIfInBounds_toArray, List.set_cons_zero, List.set_cons_succ]
              refine step_yes 2 31 ?_ (by assumption) rfl rfl (by kernel_rfl) (by kernel_rfl) (by kernel_rfl) (fun _ _ _ h => h) (by rfl) ?_ ?_
              rotate_left
              · (intro w hSw; (try dsimp only at hSw); go_simp; try with_reducible rfl)
              try simp only [Act.put, List.setIfInBounds_toArray, List.set_cons_zero, List.set_cons_succ]
              refine step_yes 3 32 ?_ (by assumption) rfl rfl (by kernel_rfl) (by kernel_rfl) (by kernel_rfl) (fun _ _ _ h => h) (by rfl) ?_ ?_
              rotate_left
              · (intro w hSw; (try dsimp only at hSw); go_simp; try with_reducible rfl)
              try simp only [Act.put, List.setIfInBounds_toArray, List.set_cons_zero, List.set_cons_succ]
              refine step_yes 4 33 ?_ (by assumption) rfl rfl (by kernel_rfl) (by kernel_rfl) (by kernel_rfl) (fun _ _ _ h => h) (by rfl) ?_ ?_
              rotate_left
              · (intro w hSw; (try dsimp only at hSw); go_simp; try with_reducible rfl)
              try simp only [Act.put, List.setIfInBounds_toArray, List.set_cons_zero, List.set_cons_succ]
              refine step_yes 5 34 ?_ (by assumption) rfl rfl (by kernel_rfl) (by kernel_rfl) (by kernel_rfl) (fun _ _ _ h => h) (by rfl) ?_ ?_
              rotate_left
              · (intro w hSw; (try dsimp only at hSw); go_simp; try with_reducible rfl)
              try simp only [Act.put, List.setIfInBounds_toArray, List.set_cons_zero, List.set_cons_succ]
              refine step_yes 6 35 ?_ (by assumption) rfl rfl (by kernel_rfl) (by kernel_rfl) (by kernel_rfl) (fun _ _ _ h => h) (by rfl) ?_ ?_
              rotate_left
              · (intro w hSw; (try dsimp only at hSw); go_simp; try with_reducible rfl)
              try simp only [Act.put, List.setIfInBounds_toArray, List.set_cons_zero, List.set_cons_succ]
              refine step_yes 7 36 ?_ (by assumption) rfl rfl (by kernel_rfl) (by kernel_rfl) (by kernel_rfl) (fun _ _ _ h => h) (by rfl) ?_ ?_
              rotate_left
              · (intro w hSw; (try dsimp only at hSw); go_simp; try with_reducible rfl)
              try simp only [Act.put, List.setIfInBounds_toArray, List.set_cons_zero, List.set_cons_succ]
              refine step_yes 8 37 ?_ (by assumption) rfl rfl (by kernel_rfl) (by kernel_rfl) (by kernel_rfl) (fun _ _ _ h => h) (by rfl) ?_ ?_
              rotate_left
              · (intro w hSw; (try dsimp only at hSw); have q := HY9.out _ hSw; go_simp; try with_reducible rfl)
              try simp only [Act.put, List.setIfInBounds_toArray, List.set_cons_zero, List.set_cons_succ]
              refine step_yes 9 38 ?_ (by assumption) rfl rfl (by kernel_rfl) (by kernel_rfl) (by kernel_rfl) (fun _ _ _ h => h) (by rfl) ?_ ?_
              rotate_left
              · (intro w hSw; (try dsimp only at hSw); go_simp; try with_reducible rfl)
              try simp only [Act.put, List.setIfInBounds_toArray, List.set_cons_zero, List.set_cons_succ]
              refine step_yes 10 39 ?_ (by assumption) rfl rfl (by kernel_rfl) (by kernel_rfl) (by kernel_rfl) (fun _ _ _ h => h) (by rfl) ?_ ?_
              rotate_left
              · (intro w hSw; (try dsimp only at hSw); go_simp; try with_reducible rfl)
              try simp only [Act.put, List.setIfInBounds_toArray, List.set_cons_zero, List.set_cons_succ]
              refine step_yes 11 40 ?_ (by assumption) rfl rfl (by kernel_rfl) (by kernel_rfl) (by kernel_rfl) (fun _ _ _ h => h) (by rfl) ?_ ?_
              rotate_left
              · (intro w hSw; (try dsimp only at hSw); go_simp; try with_reducible rfl)
              try simp only [Act.put, List.setIfInBounds_toArray, List.set_cons_zero, List.set_cons_succ]
              refine step_yes 12 41 ?_ (by assumption) rfl rfl (by kernel_rfl) (by kernel_rfl) (by kernel_rfl) (fun _ _ _ h => h) (by rfl) ?_ ?_
              rotate_left
              · (intro w hSw; (try dsimp only at hSw); have q := HX9.out _ hSw; go_simp; try with_reducible rfl)
              try simp only [Act.put, List.setIfInBounds_toArray, List.set_cons_zero, List.set_cons_succ]
              refine step_yes 13 42 ?_ (by assumption) rfl rfl (by kernel_rfl) (by kernel_rfl) (by kernel_rfl) (fun _ _ _ h => h) (by rfl) ?_ ?_
              rotate_left
              · (intro w hSw; (try dsimp only at hSw); go_simp; try with_reducible rfl)
              try simp only [Act.put, List.setIfInBounds_toArray, List.set_cons_zero, List.set_cons_succ]
              refine step_yes 14 43 ?_ (by assumption) rfl rfl (by kernel_rfl) (by kernel_rfl) (by kernel_rfl) (fun _ _ _ h => h) (by rfl) ?_ ?_
              rotate_left
              · (intro w hSw; (try dsimp only at hSw); go_simp; try with_reducible rfl)
              try simp only [Act.put, List.setIfInBounds_toArray, List.set_cons_zero, List.set_cons_succ]
              refine wpAnyH_done (by kernel_rfl) ?_ _
              have CK2 := Lib.hid (CK9.out.trans hHeld)
              clear hHeld hy9 hx9
              generalize w9.drew = w2 at *
              skip
              have b1 : k ≤ d := by omega
              have b2 : ¬ k = d := by omega
              have b3 : ¬ d = k := by omega
              have b4 : (k : Int) ≤ (d : Int) := by omega
              have b5 : (k : Int) ≤ (out.length : Int) := by omega
              go_upto_region 9 with fail
              skip
              revert CK2
              skip
              intro CK2
              have HA := Lib.hid (show ∀ w', Chg [] w2 w' → RdK textTy w' (some ⟨g2, 0, none⟩) k (out.take k) from fun w' hc => by
                have := ((HI.out.1.take k).reads.chg (CK2.out.trans hc) (by simp))
                rwa [List.length_take, Nat.min_eq_left (by omega)] at this)
              have HB := Lib.hid (show ∀ w', Chg [] w2 w' → RdK textTy w' (some ⟨g2, k, none⟩) (out.length - k) (out.drop k) from fun w' hc => by
                have := ((HI.out.1.reads.chg (CK2.out.trans hc) (by simp)).part k (out.length - k) (by omega))
                rw [show textTy.k = 1 from rfl, Nat.mul_one, Nat.zero_add] at this
                rwa [List.take_of_length_le (by simp)] at this)
              have HX := Lib.hid (fun (w' : World) (hc : Chg [] w2 w') => HXC.out w' (CK2.out.trans hc))
              have LL1 := Lib.hid (show ([] ++ out.take k).length = k by simp [List.length_take] <;> omega)
              have LL2 := Lib.hid (show ([] ++ out.take k ++ [x]).length = k + 1 by simp [List.length_take] <;> omega)
              have N1 := Lib.hid (show (0 + k) * 400 ≤ 140737488355327 by omega)
              have N2 := Lib.hid (show (k + 1) * 400 ≤ 140737488355327 by omega)
              have N3 := Lib.hid (show (k + 1 + (out.length - k)) * 400 ≤ 140737488355327 by omega)
              refine wp_region_held_drew (S := fun w' => Chg [] w2 w') (by kernel_rfl) (Chg.refl [] w2).drew (fun hHeld => ?_)
              generalize w2.drew = u0 at hHeld ⊢
              refine step_yes 1 45 ?_ (by assumption) rfl rfl (by kernel_rfl) (by kernel_rfl) (by kernel_rfl) (fun _ _ _ h => h) (by rfl) ?_ ?_
              rotate_left
              · (intro w hSw; (try dsimp only at hSw); go_simp; try with_reducible rfl)
              try simp only [Act.put, List.setIfInBounds_toArray, List.set_cons_zero, List.set_cons_succ]
              refine step_yes 2 46 ?_ (by assumption) rfl rfl (by kernel_rfl) (by kernel_rfl) (by kernel_rfl) (fun _ _ _ h => h) (by rfl) ?_ ?_
              rotate_left
              · (intro w hSw; (try dsimp only at hSw); go_simp; try with_reducible rfl)
              try simp only [Act.put, List.setIfInBounds_toArray, List.set_cons_zero, List.set_cons_succ]
              refine step_yes 3 47 ?_ (by assumption) rfl rfl (by kernel_rfl) (by kernel_rfl) (by kernel_rfl) (fun _ _ _ h => h) (by rfl) ?_ ?_
              rotate_left
              · (intro w hSw; (try dsimp only at hSw); go_simp; try with_reducible rfl)
              try simp only [Act.put, List.setIfInBounds_toArray, List.set_cons_zero, List.set_cons_succ]
              refine step_yes 5 49 ?_ (by assumption) rfl rfl (by kernel_rfl) (by kernel_rfl) (by kernel_rfl) (fun _ _ _ h => h) (by rfl) ?_ ?_
              rotate_left
              · (intro w hSw; (try dsimp only at hSw); go_simp; try with_reducible rfl)
              try simp only [Act.put, List.setIfInBounds_toArray, List.set_cons_zero, List.set_cons_succ]
              refine step_yes 6 50 ?_ (by assumption) rfl rfl (by kernel_rfl) (by kernel_rfl) (by kernel_rfl) (fun _ _ _ h => h) (by rfl) ?_ ?_
              rotate_left
              · (intro w hSw; (try dsimp only at hSw); go_simp; try with_reducible rfl)
              try simp only [Act.put, List.setIfInBounds_toArray, List.set_cons_zero, List.set_cons_succ]
              refine step_yes 7 51 ?_ (by assumption) rfl rfl (by kernel_rfl) (by kernel_rfl) (by kernel_rfl) (fun _ _ _ h => h) (by rfl) ?_ ?_
              rotate_left
              · (intro w hSw; (try dsimp only at hSw); go_simp; try with_reducible rfl)
              try simp only [Act.put, List.setIfInBounds_toArray, List.set_cons_zero, List.set_cons_succ]
              refine step_yes 8 52 ?_ (by assumption) rfl rfl (by kernel_rfl) (by kernel_rfl) (by kernel_rfl) (fun _ _ _ h => h) (by rfl) ?_ ?_
              rotate_left
              · (intro w hSw; (try dsimp only at hSw); have q := HX.out _ hSw; go_simp; try with_reducible rfl)
              try simp only [Act.put, List.setIfInBounds_toArray, List.set_cons_zero, List.set_cons_succ]
              refine step_yes 11 55 ?_ (by assumption) rfl rfl (by kernel_rfl) (by kernel_rfl) (by kernel_rfl) (fun _ _ _ h => h) (by rfl) ?_ ?_
              rotate_left
              · (intro w hSw; (try dsimp only at hSw); go_simp; try with_reducible rfl)
              try simp only [Act.put, List.setIfInBounds_toArray, List.set_cons_zero, List.set_cons_succ]
              refine step_yes 12 56 ?_ (by assumption) rfl rfl (by kernel_rfl) (by kernel_rfl) (by kernel_rfl) (fun _ _ _ h => h) (by rfl) ?_ ?_
              rotate_left
              · (intro w hSw; (try dsimp only at hSw); go_simp; try with_reducible rfl)
              try simp only [Act.put, List.setIfInBounds_toArray, List.set_cons_zero, List.set_cons_succ]
              refine step_yes 13 57 ?_ (by assumption) rfl rfl (by kernel_rfl) (by kernel_rfl) (by kernel_rfl) (fun _ _ _ h => h) (by rfl) ?_ ?_
              rotate_left
              · (intro w hSw; (try dsimp only at hSw); go_simp; try with_reducible rfl)
              try simp only [Act.put, List.setIfInBounds_toArray, List.set_cons_zero, List.set_cons_succ]
              have C0 := Lib.hid hHeld
              clear hHeld
              refine wpAnyH_ready (rs := [0, 9]) (by kernel_rfl) (by simp) ?_
              refine AllReadyH.cons rfl (fun K hK => ?_) (AllReadyH.cons rfl (fun K hK => ?_) AllReadyH.nil)
              · skip
                replace hK := Lib.hid hK
                obtain ⟨u1, hw, cc, bb⟩ := news1 u0 (.cells #[] 9)
                go_simp
                rw [← hw]
                have C1 := Lib.hid (C0.out.trans cc)
                have OE_1 := Lib.hid (own_empty bb)
                have FE_1 := Lib.hid (C0.out.size)
                have LE_1 := Lib.hid (lt_of_heap bb)
                clear hw cc bb
                refine hK.out _ _ C1.out (fun hHeld => ?_)
                clear hK K hHeld
                try simp only [Act.put, List.setIfInBounds_toArray, List.set_cons_zero, List.set_cons_succ]
                refine wpAnyH_ready (rs := [4, 9]) (by kernel_rfl) (by simp) ?_
                refine AllReadyH.cons rfl (fun K hK => ?_) (AllReadyH.cons rfl (fun K hK => ?_) AllReadyH.nil)
                · skip
                  replace hK := Lib.hid hK
                  refine step_appK (R := textTy) rfl (.tmp 44) (.tmp 47) rfl rfl (A := some ⟨u0.heap.size, 0, none⟩) (B := some ⟨g2, 0, none⟩) (n := 0) (m := k) (c := 0) (d := d) (xs := []) (ys := out.take k) OE_1.out rfl rfl (HA.out _ C1.out) N1.out ?_
                  rw [Nat.zero_add]
                  intro A_2 c_2 u2 o_ g_ e_
                  have O_2 := Lib.hid o_
                  have FA_2 := Lib.hid (fresh_row (A := some ⟨u0.heap.size, 0, none⟩) (by rintro a ha; cases ha; exact FE_1.out) C1.out e_)
                  have C2 := Lib.hid (C1.out.grown g_ (row_fresh (A := some ⟨u0.heap.size, 0, none⟩) (by rintro a ha; cases ha; exact FE_1.out)))
                  clear o_ g_ e_
                  refine hK.out _ _ C2.out (fun hHeld => ?_)
                  clear hK K hHeld
                  try simp only [Act.put, List.setIfInBounds_toArray, List.set_cons_zero, List.set_cons_succ]
                  refine wpAnyH_ready (rs := [9]) (by kernel_rfl) (by simp) ?_
                  refine AllReadyH.cons rfl (fun K hK => ?_) AllReadyH.nil
                  replace hK := Lib.hid hK
                  obtain ⟨u3, hw, cc, bb⟩ := news1 u2 (.cells #[.string (strOf x)] 9)
                  go_simp
                  rw [← hw]
                  have C3 := Lib.hid (C2.out.trans cc)
                  have O1_3 := Lib.hid (O_2.out.chg cc (by simp))
                  have RX_3 := Lib.hid (rd_text1 bb)
                  have LX_3 := Lib.hid (lt_of_heap bb)
                  clear hw cc bb
                  refine hK.out _ _ C3.out (fun hHeld => ?_)
                  clear hK K hHeld
                  try simp only [Act.put, List.setIfInBounds_toArray, List.set_cons_zero, List.set_cons_succ]
                  refine wpAnyH_ready (rs := [10]) (by kernel_rfl) (by simp) ?_
                  refine AllReadyH.cons rfl (fun K hK => ?_) AllReadyH.nil
                  replace hK := Lib.hid hK
                  refine step_appK (R := textTy) rfl (.tmp 48) (.tmp 53) rfl rfl (A := A_2) (B := some ⟨u2.heap.size, 0, none⟩) (n := k) (m := 1) (c := c_2) (d := 1) (xs := [] ++ out.take k) (ys := [x]) O1_3.out LL1.out rfl RX_3.out N2.out ?_
                  intro A_4 c_4 u4 o_ g_ e_
                  have O_4 := Lib.hid o_
                  have FA_4 := Lib.hid (fresh_row (A := A_2) FA_2.out C3.out e_)
                  have C4 := Lib.hid (C3.out.grown g_ (row_fresh (A := A_2) FA_2.out))
                  clear o_ g_ e_
                  refine hK.out _ _ C4.out (fun hHeld => ?_)
                  clear hK K hHeld
                  try simp only [Act.put, List.setIfInBounds_toArray, List.set_cons_zero, List.set_cons_succ]
                  refine wpAnyH_ready (rs := [14]) (by kernel_rfl) (by simp) ?_
                  refine AllReadyH.cons rfl (fun K hK => ?_) AllReadyH.nil
                  replace hK := Lib.hid hK
                  refine step_appK (R := textTy) rfl (.tmp 54) (.tmp 57) rfl rfl (A := A_4) (B := some ⟨g2, k, none⟩) (n := (k + 1)) (m := out.length - k) (c := c_4) (d := d - k) (xs := [] ++ out.take k ++ [x]) (ys := out.drop k) O_4.out LL2.out rfl (HB.out _ C4.out) N3.out ?_
                  intro A_5 c_5 u5 o_ g_ e_
                  have O_5 := Lib.hid o_
                  have FA_5 := Lib.hid (fresh_row (A := A_4) FA_4.out C4.out e_)
                  have C5 := Lib.hid (C4.out.grown g_ (row_fresh (A := A_4) FA_4.out))
                  clear o_ g_ e_
                  refine hK.out _ _ C5.out (fun hHeld => ?_)
                  clear hK K hHeld
                  try simp only [Act.put, List.setIfInBounds_toArray, List.set_cons_zero, List.set_cons_succ]
                  refine step_yes 15 3 ?_ C5.out rfl rfl (by kernel_rfl) (by kernel_rfl) (by kernel_rfl) (fun _ _ _ h => h) (by rfl) ?_ ?_
                  rotate_left
                  · (intro w hSw; (try dsimp only at hSw); go_simp; try with_reducible rfl)
                  try simp only [Act.put, List.setIfInBounds_toArray, List.set_cons_zero, List.set_cons_succ]
                  refine wpAnyH_done (by kernel_rfl) ?_ _
                  skip
                  go_wp2
                  go_round
                  case rel =>
                    have HG := HI.out.2.2.trans (CK2.out.trans C5.out)
                    refine ⟨i + 1, A_5, c_5, by omega, by go_num, ?_, Lib.hid ?_⟩
                    · rw [HF.out]
                      congr 1
                      simp only [List.length_append, List.length_take, List.length_cons, List.length_drop]; omega
                    · rw [HF.out]
                      have o4 := O_5.out
                      simp only [List.nil_append, List.append_assoc, List.singleton_append] at o4
                      exact ⟨o4, fun a ha => Nat.le_trans (HI.out.2.2.trans CK2.out).size (FA_5.out a ha), HG⟩
                  case measure => simp [RowKit.intOf]; omega
                · skip
                  replace hK := Lib.hid hK
                  obtain ⟨u6, hw, cc, bb⟩ := news1 u1 (.cells #[.string (strOf x)] 9)
                  go_simp
                  rw [← hw]
                  have C6 := Lib.hid (C1.out.trans cc)
                  have OE_6 := Lib.hid (OE_1.out.chg cc (by simp))
                  have RX_6 := Lib.hid (rd_text1 bb)
                  have LX_6 := Lib.hid (lt_of_heap bb)
                  clear hw cc bb
                  refine hK.out _ _ C6.out (fun hHeld => ?_)
                  clear hK K hHeld
                  try simp only [Act.put, List.setIfInBounds_toArray, List.set_cons_zero, List.set_cons_succ]
                  refine wpAnyH_ready (rs := [4]) (by kernel_rfl) (by simp) ?_
                  refine AllReadyH.cons rfl (fun K hK => ?_) AllReadyH.nil
                  replace hK := Lib.hid hK
                  refine step_appK (R := textTy) rfl (.tmp 44) (.tmp 47) rfl rfl (A := some ⟨u0.heap.size, 0, none⟩) (B := some ⟨g2, 0, none⟩) (n := 0) (m := k) (c := 0) (d := d) (xs := []) (ys := out.take k) OE_6.out rfl rfl (HA.out _ C6.out) N1.out ?_
                  rw [Nat.zero_add]
                  intro A_7 c_7 u7 o_ g_ e_
                  have O_7 := Lib.hid o_
                  have FA_7 := Lib.hid (fresh_row (A := some ⟨u0.heap.size, 0, none⟩) (by rintro a ha; cases ha; exact FE_1.out) C6.out e_)
                  have C7 := Lib.hid (C6.out.grown g_ (row_fresh (A := some ⟨u0.heap.size, 0, none⟩) (by rintro a ha; cases ha; exact FE_1.out)))
                  have RX_7 := Lib.hid (RX_6.out.grown (A := some ⟨u0.heap.size, 0, none⟩) g_ (by rintro a b ha hb; cases ha; cases hb; have q1 := LE_1.out; have q2 := LX_6.out; simp only at q1 q2 ⊢; omega))
                  clear o_ g_ e_
                  refine hK.out _ _ C7.out (fun hHeld => ?_)
                  clear hK K hHeld
                  try simp only [Act.put, List.setIfInBounds_toArray, List.set_cons_zero, List.set_cons_succ]
                  refine wpAnyH_ready (rs := [10]) (by kernel_rfl) (by simp) ?_
                  refine AllReadyH.cons rfl (fun K hK => ?_) AllReadyH.nil
                  replace hK := Lib.hid hK
                  refine step_appK (R := textTy) rfl (.tmp 48) (.tmp 53) rfl rfl (A := A_7) (B := some ⟨u1.heap.size, 0, none⟩) (n := k) (m := 1) (c := c_7) (d := 1) (xs := [] ++ out.take k) (ys := [x]) O_7.out LL1.out rfl RX_7.out N2.out ?_
                  intro A_8 c_8 u8 o_ g_ e_
                  have O_8 := Lib.hid o_
                  have FA_8 := Lib.hid (fresh_row (A := A_7) FA_7.out C7.out e_)
                  have C8 := Lib.hid (C7.out.grown g_ (row_fresh (A := A_7) FA_7.out))
                  clear o_ g_ e_
                  refine hK.out _ _ C8.out (fun hHeld => ?_)
                  clear hK K hHeld
                  try simp only [Act.put, List.setIfInBounds_toArray, List.set_cons_zero, List.set_cons_succ]
                  refine wpAnyH_ready (rs := [14]) (by kernel_rfl) (by simp) ?_
                  refine AllReadyH.cons rfl (fun K hK => ?_) AllReadyH.nil
                  replace hK := Lib.hid hK
                  refine step_appK (R := textTy) rfl (.tmp 54) (.tmp 57) rfl rfl (A := A_8) (B := some ⟨g2, k, none⟩) (n := (k + 1)) (m := out.length - k) (c := c_8) (d := d - k) (xs := [] ++ out.take k ++ [x]) (ys := out.drop k) O_8.out LL2.out rfl (HB.out _ C8.out) N3.out ?_
                  intro A_9 c_9 u9 o_ g_ e_
                  have O_9 := Lib.hid o_
                  have FA_9 := Lib.hid (fresh_row (A := A_8) FA_8.out C8.out e_)
                  have C9 := Lib.hid (C8.out.grown g_ (row_fresh (A := A_8) FA_8.out))
                  clear o_ g_ e_
                  refine hK.out _ _ C9.out (fun hHeld => ?_)
                  clear hK K hHeld
                  try simp only [Act.put, List.setIfInBounds_toArray, List.set_cons_zero, List.set_cons_succ]
                  refine step_yes 15 3 ?_ C9.out rfl rfl (by kernel_rfl) (by kernel_rfl) (by kernel_rfl) (fun _ _ _ h => h) (by rfl) ?_ ?_
                  rotate_left
                  · (intro w hSw; (try dsimp only at hSw); go_simp; try with_reducible rfl)
                  try simp only [Act.put, List.setIfInBounds_toArray, List.set_cons_zero, List.set_cons_succ]
                  refine wpAnyH_done (by kernel_rfl) ?_ _
                  skip
                  go_wp2
                  go_round
                  case rel =>
                    have HG := HI.out.2.2.trans (CK2.out.trans C9.out)
                    refine ⟨i + 1, A_9, c_9, by omega, by go_num, ?_, Lib.hid ?_⟩
                    · rw [HF.out]
                      congr 1
                      simp only [List.length_append, List.length_take, List.length_cons, List.length_drop]; omega
                    · rw [HF.out]
                      have o4 := O_9.out
                      simp only [List.nil_append, List.append_assoc, List.singleton_append] at o4
                      exact ⟨o4, fun a ha => Nat.le_trans (HI.out.2.2.trans CK2.out).size (FA_9.out a ha), HG⟩
                  case measure => simp [RowKit.intOf]; omega
              · skip
                replace hK := Lib.hid hK
                obtain ⟨u10, hw, cc, bb⟩ := news1 u0 (.cells #[.string (strOf x)] 9)
                go_simp
                rw [← hw]
                have C10 := Lib.hid (C0.out.trans cc)
                have RX_10 := Lib.hid (rd_text1 bb)
                have LX_10 := Lib.hid (lt_of_heap bb)
                clear hw cc bb
                refine hK.out _ _ C10.out (fun hHeld => ?_)
                clear hK K hHeld
                try simp only [Act.put, List.setIfInBounds_toArray, List.set_cons_zero, List.set_cons_succ]
                refine wpAnyH_ready (rs := [0]) (by kernel_rfl) (by simp) ?_
                refine AllReadyH.cons rfl (fun K hK => ?_) AllReadyH.nil
                replace hK := Lib.hid hK
                obtain ⟨u11, hw, cc, bb⟩ := news1 u10 (.cells #[] 9)
                go_simp
                rw [← hw]
                have C11 := Lib.hid (C10.out.trans cc)
                have RX_11 := Lib.hid (RX_10.out.chg cc (by simp))
                have OE_11 := Lib.hid (own_empty bb)
                have FE_11 := Lib.hid (C10.out.size)
                have LE_11 := Lib.hid (lt_of_heap bb)
                clear hw cc bb
                refine hK.out _ _ C11.out (fun hHeld => ?_)
                clear hK K hHeld
                try simp only [Act.put, List.setIfInBounds_toArray, List.set_cons_zero, List.set_cons_succ]
                refine wpAnyH_ready (rs := [4]) (by kernel_rfl) (by simp) ?_
                refine AllReadyH.cons rfl (fun K hK => ?_) AllReadyH.nil
                replace hK := Lib.hid hK
                refine step_appK (R := textTy) rfl (.tmp 44) (.tmp 47) rfl rfl (A := some ⟨u10.heap.size, 0, none⟩) (B := some ⟨g2, 0, none⟩) (n := 0) (m := k) (c := 0) (d := d) (xs := []) (ys := out.take k) OE_11.out rfl rfl (HA.out _ C11.out) N1.out ?_
                rw [Nat.zero_add]
                intro A_12 c_12 u12 o_ g_ e_
                have O_12 := Lib.hid o_
                have FA_12 := Lib.hid (fresh_row (A := some ⟨u10.heap.size, 0, none⟩) (by rintro a ha; cases ha; exact FE_11.out) C11.out e_)
                have C12 := Lib.hid (C11.out.grown g_ (row_fresh (A := some ⟨u10.heap.size, 0, none⟩) (by rintro a ha; cases ha; exact FE_11.out)))
                have RX_12 := Lib.hid (RX_11.out.grown (A := some ⟨u10.heap.size, 0, none⟩) g_ (by rintro a b ha hb; cases ha; cases hb; have q1 := LE_11.out; have q2 := LX_10.out; simp only at q1 q2 ⊢; omega))
                clear o_ g_ e_
                refine hK.out _ _ C12.out (fun hHeld => ?_)
                clear hK K hHeld
                try simp only [Act.put, List.setIfInBounds_toArray, List.set_cons_zero, List.set_cons_succ]
                refine wpAnyH_ready (rs := [10]) (by kernel_rfl) (by simp) ?_
                refine AllReadyH.cons rfl (fun K hK => ?_) AllReadyH.nil
                replace hK := Lib.hid hK
                refine step_appK (R := textTy) rfl (.tmp 48) (.tmp 53) rfl rfl (A := A_12) (B := some ⟨u0.heap.size, 0, none⟩) (n := k) (m := 1) (c := c_12) (d := 1) (xs := [] ++ out.take k) (ys := [x]) O_12.out LL1.out rfl RX_12.out N2.out ?_
                intro A_13 c_13 u13 o_ g_ e_
                have O_13 := Lib.hid o_
                have FA_13 := Lib.hid (fresh_row (A := A_12) FA_12.out C12.out e_)
                have C13 := Lib.hid (C12.out.grown g_ (row_fresh (A := A_12) FA_12.out))
                clear o_ g_ e_
                refine hK.out _ _ C13.out (fun hHeld => ?_)
                clear hK K hHeld
                try simp only [Act.put, List.setIfInBounds_toArray, List.set_cons_zero, List.set_cons_succ]
                refine wpAnyH_ready (rs := [14]) (by kernel_rfl) (by simp) ?_
                refine AllReadyH.cons rfl (fun K hK => ?_) AllReadyH.nil
                replace hK := Lib.hid hK
                refine step_appK (R := textTy) rfl (.tmp 54) (.tmp 57) rfl rfl (A := A_13) (B := some ⟨g2, k, none⟩) (n := (k + 1)) (m := out.length - k) (c := c_13) (d := d - k) (xs := [] ++ out.take k ++ [x]) (ys := out.drop k) O_13.out LL2.out rfl (HB.out _ C13.out) N3.out ?_
                intro A_14 c_14 u14 o_ g_ e_
                have O_14 := Lib.hid o_
                have FA_14 := Lib.hid (fresh_row (A := A_13) FA_13.out C13.out e_)
                have C14 := Lib.hid (C13.out.grown g_ (row_fresh (A := A_13) FA_13.out))
                clear o_ g_ e_
                refine hK.out _ _ C14.out (fun hHeld => ?_)
                clear hK K hHeld
                try simp only [Act.put, List.setIfInBounds_toArray, List.set_cons_zero, List.set_cons_succ]
                refine step_yes 15 3 ?_ C14.out rfl rfl (by kernel_rfl) (by kernel_rfl) (by kernel_rfl) (fun _ _ _ h => h) (by rfl) ?_ ?_
                rotate_left
                · (intro w hSw; (try dsimp only at hSw); go_simp; try with_reducible rfl)
                try simp only [Act.put, List.setIfInBounds_toArray, List.set_cons_zero, List.set_cons_succ]
                refine wpAnyH_done (by kernel_rfl) ?_ _
                skip
                go_wp2
                go_round
                case rel =>
                  have HG := HI.out.2.2.trans (CK2.out.trans C14.out)
                  refine ⟨i + 1, A_14, c_14, by omega, by go_num, ?_, Lib.hid ?_⟩
                  · rw [HF.out]
                    congr 1
                    simp only [List.length_append, List.length_take, List.length_cons, List.length_drop]; omega
                  · rw [HF.out]
                    have o4 := O_14.out
                    simp only [List.nil_append, List.append_assoc, List.singleton_append] at o4
                    exact ⟨o4, fun a ha => Nat.le_trans (HI.out.2.2.trans CK2.out).size (FA_14.out a ha), HG⟩
                case measure => simp [RowKit.intOf]; omega
        · obtain rfl : k = out.length := by omega
          have HCN := Lib.hid (cntT_is x out out.length HJ.out.2 (Nat.le_refl _) (fun z hz => by simp at hz))
          have hne : ¬ out[out.length]? = some x := by simp
          have hfin0 : insT lessL x out = out.take out.length ++ x :: out.drop out.length := by unfold insT; rw [HCN.out, if_neg hne]
          have HF := Lib.hid (HINS.out.trans hfin0)
          clear hfin0 hne hkl hk
          have hg2 : decide (out.length < out.length) = false := by simp
          have hg3 : ¬ (out.length : Int) < (out.length : Int) := by omega
          have hg4 : decide (out.length = out.length) = true := by simp
          rcases HI.out.1.shape with ⟨eB, eo, ed⟩ | ⟨g2, eB, _⟩
          · subst eB eo ed
            simp only [List.length_nil] at *
            go_upto_region 6 with fail
            refine wp_region_held_drew (S := fun w' => Chg [] wr w') (by kernel_rfl) (Chg.refl [] wr).drew (fun hHeld => ?_)
            refine step_yes 0 12 ?_ (by assumption) rfl rfl (by kernel_rfl) (by kernel_rfl) (by kernel_rfl) (fun _ _ _ h => h) (by rfl) ?_ ?_
            rotate_left
            · (intro w hSw; (try dsimp only at hSw); go_simp; try with_reducible rfl)
            try simp only [Act.put, List.setIfInBounds_toArray, List.set_cons_zero, List.set_cons_succ]
            refine step_yes 1 13 ?_ (by assumption) rfl rfl (by kernel_rfl) (by kernel_rfl) (by kernel_rfl) (fun _ _ _ h => h) (by rfl) ?_ ?_
            rotate_left
            · (intro w hSw; (try dsimp only at hSw); go_simp; try with_reducible rfl)
            try simp only [Act.put, List.setIfInBounds_toArray, List.set_cons_zero, List.set_cons_succ]
            refine step_yes 2 14 ?_ (by assumption) rfl rfl (by kernel_rfl) (by kernel_rfl) (by kernel_rfl) (fun _ _ _ h => h) (by rfl) ?_ ?_
            rotate_left
            · (intro w hSw; (try dsimp only at hSw); go_simp; try with_reducible rfl)
            try simp only [Act.put, List.setIfInBounds_toArray, List.set_cons_zero, List.set_cons_succ]
            refine step_yes 3 15 ?_ (by assumption) rfl rfl (by kernel_rfl) (by kernel_rfl) (by kernel_rfl) (fun _ _ _ h => h) (by rfl) ?_ ?_
            rotate_left
            · (intro w hSw; (try dsimp only at hSw); go_simp; try with_reducible rfl)
            try simp only [Act.put, List.setIfInBounds_toArray, List.set_cons_zero, List.set_cons_succ]
            refine step_yes 4 16 ?_ (by assumption) rfl rfl (by kernel_rfl) (by kernel_rfl) (by kernel_rfl) (fun _ _ _ h => h) (by rfl) ?_ ?_
            rotate_left
            · (intro w hSw; (try dsimp only at hSw); go_simp; try with_reducible rfl)
            try simp only [Act.put, List.setIfInBounds_toArray, List.set_cons_zero, List.set_cons_succ]
            refine step_no 5 17 (by assumption) rfl rfl (by kernel_rfl) (by kernel_rfl) (by kernel_rfl) (fun _ _ _ h => h) (by rfl) ?_
            try simp only [Act.put, List.setIfInBounds_toArray, List.set_cons_zero, List.set_cons_succ]
            refine step_no 6 18 (by assumption) rfl rfl (by kernel_rfl) (by kernel_rfl) (by kernel_rfl) (fun _ _ _ h => h) (by rfl) ?_
            try simp only [Act.put, List.setIfInBounds_toArray, List.set_cons_zero, List.set_cons_succ]
            refine step_no 7 19 (by assumption) rfl rfl (by kernel_rfl) (by kernel_rfl) (by kernel_rfl) (fun _ _ _ h => h) (by rfl) ?_
            try simp only [Act.put, List.setIfInBounds_toArray, List.set_cons_zero, List.set_cons_succ]
            refine step_no 8 20 (by assumption) rfl rfl (by kernel_rfl) (by kernel_rfl) (by kernel_rfl) (fun _ _ _ h => h) (by rfl) ?_
            try simp only [Act.put, List.setIfInBounds_toArray, List.set_cons_zero, List.set_cons_succ]
            refine step_no 9 21 (by assumption) rfl rfl (by kernel_rfl) (by kernel_rfl) (by kernel_rfl) (fun _ _ _ h => h) (by rfl) ?_
            try simp only [Act.put, List.setIfInBounds_toArray, List.set_cons_zero, List.set_cons_succ]
            refine step_no 10 22 (by assumption) rfl rfl (by kernel_rfl) (by kernel_rfl) (by kernel_rfl) (fun _ _ _ h => h) (by rfl) ?_
            try simp only [Act.put, List.setIfInBounds_toArray, List.set_cons_zero, List.set_cons_succ]
            refine step_no 11 23 (by assumption) rfl rfl (by kernel_rfl) (by kernel_rfl) (by kernel_rfl) (fun _ _ _ h => h) (by rfl) ?_
            try simp only [Act.put, List.setIfInBounds_toArray, List.set_cons_zero, List.set_cons_succ]
            refine step_no 12 24 (by assumption) rfl rfl (by kernel_rfl) (by kernel_rfl) (by kernel_rfl) (fun _ _ _ h => h) (by rfl) ?_
            try simp only [Act.put, List.setIfInBounds_toArray, List.set_cons_zero, List.set_cons_succ]
            refine step_no 13 25 (by assumption) rfl rfl (by kernel_rfl) (by kernel_rfl) (by kernel_rfl) (fun _ _ _ h => h) (by rfl) ?_
            try simp only [Act.put, List.setIfInBounds_toArray, List.set_cons_zero, List.set_cons_succ]
            refine step_yes 14 26 ?_ (by assumption) rfl rfl (by kernel_rfl) (by kernel_rfl) (by kernel_rfl) (fun _ _ _ h => h) (by rfl) ?_ ?_
            rotate_left
            · (intro w hSw; (try dsimp only at hSw); go_simp; try with_reducible rfl)
            try simp only [Act.put, List.setIfInBounds_toArray, List.set_cons_zero, List.set_cons_succ]
            refine wpAnyH_done (by kernel_rfl) ?_ _
            have K6 := Lib.hid hHeld
            clear hHeld
            generalize wr.drew = w8 at *
            go_upto_region 8 with fail
            refine wp_region_held_drew (S := fun w' => Chg [] w8 w') (by kernel_rfl) (Chg.refl [] w8).drew (fun hHeld => ?_)
            refine step_yes 0 29 ?_ (by assumption) rfl rfl (by kernel_rfl) (by kernel_rfl) (by kernel_rfl) (fun _ _ _ h => h) (by rfl) ?_ ?_
            rotate_left
            · (intro w hSw; (try dsimp only at hSw); go_simp; try with_reducible rfl)
            try simp only [Act.put, List.setIfInBounds_toArray, List.set_cons_zero, List.set_cons_succ]
            refine step_yes 1 30 ?_ (by assumption) rfl rfl (by kernel_rfl) (by kernel_rfl) (by kernel_rfl) (fun _ _ _ h => h) (by rfl) ?_ ?_
            rotate_left
            · (intro w hSw; (try dsimp only at hSw); go_simp; try with_reducible rfl)
            try simp only [Act.put, List.setIfInBounds_toArray, List.set_cons_zero, List.set_cons_succ]
            refine step_yes 2 31 ?_ (by assumption) rfl rfl (by kernel_rfl) (by kernel_rfl) (by kernel_rfl) (fun _ _ _ h => h) (by rfl) ?_ ?_
            rotate_left
            · (intro w hSw; (try dsimp only at hSw); go_simp; try with_reducible rfl)
            try simp only [Act.put, List.setIfInBounds_toArray, List.set_cons_zero, List.set_cons_succ]
            refine step_yes 3 32 ?_ (by assumption) rfl rfl (by kernel_rfl) (by kernel_rfl) (by kernel_rfl) (fun _ _ _ h => h) (by rfl) ?_ ?_
            rotate_left
            · (intro w hSw; (try dsimp only at hSw); go_simp; try with_reducible rfl)
            try simp only [Act.put, List.setIfInBounds_toArray, List.set_cons_zero, List.set_cons_succ]
            refine step_yes 4 33 ?_ (by assumption) rfl rfl (by kernel_rfl) (by kernel_rfl) (by kernel_rfl) (fun _ _ _ h => h) (by rfl) ?_ ?_
            rotate_left
            · (intro w hSw; (try dsimp only at hSw); go_simp; try with_reducible rfl)
            try simp only [Act.put, List.setIfInBounds_toArray, List.set_cons_zero, List.set_cons_succ]
            refine step_no 5 34 (by assumption) rfl rfl (by kernel_rfl) (by kernel_rfl) (by kernel_rfl) (fun _ _ _ h => h) (by rfl) ?_
            try simp only [Act.put, List.setIfInBounds_toArray, List.set_cons_zero, List.set_cons_succ]
            refine step_no 6 35 (by assumption) rfl rfl (by kernel_rfl) (by kernel_rfl) (by kernel_rfl) (fun _ _ _ h => h) (by rfl) ?_
            try simp only [Act.put, List.setIfInBounds_toArray, List.set_cons_zero, List.set_cons_succ]
            refine step_no 7 36 (by assumption) rfl rfl (by kernel_rfl) (by kernel_rfl) (by kernel_rfl) (fun _ _ _ h => h) (by rfl) ?_
            try simp only [Act.put, List.setIfInBounds_toArray, List.set_cons_zero, List.set_cons_succ]
            refine step_no 8 37 (by assumption) rfl rfl (by kernel_rfl) (by kernel_rfl) (by kernel_rfl) (fun _ _ _ h => h) (by rfl) ?_
            try simp only [Act.put, List.setIfInBounds_toArray, List.set_cons_zero, List.set_cons_succ]
            refine step_no 9 38 (by assumption) rfl rfl (by kernel_rfl) (by kernel_rfl) (by kernel_rfl) (fun _ _ _ h => h) (by rfl) ?_
            try simp only [Act.put, List.setIfInBounds_toArray, List.set_cons_zero, List.set_cons_succ]
            refine step_no 10 39 (by assumption) rfl rfl (by kernel_rfl) (by kernel_rfl) (by kernel_rfl) (fun _ _ _ h => h) (by rfl) ?_
            try simp only [Act.put, List.setIfInBounds_toArray, List.set_cons_zero, List.set_cons_succ]
            refine step_no 11 40 (by assumption) rfl rfl (by kernel_rfl) (by kernel_rfl) (by kernel_rfl) (fun _ _ _ h => h) (by rfl) ?_
            try simp only [Act.put, List.setIfInBounds_toArray, List.set_cons_zero, List.set_cons_succ]
            refine step_no 12 41 (by assumption) rfl rfl (by kernel_rfl) (by kernel_rfl) (by kernel_rfl) (fun _ _ _ h => h) (by rfl) ?_
            try simp only [Act.put, List.setIfInBounds_toArray, List.set_cons_zero, List.set_cons_succ]
            refine step_no 13 42 (by assumption) rfl rfl (by kernel_rfl) (by kernel_rfl) (by kernel_rfl) (fun _ _ _ h => h) (by rfl) ?_
            try simp only [Act.put, List.setIfInBounds_toArray, List.set_cons_zero, List.set_cons_succ]
            refine step_yes 14 43 ?_ (by assumption) rfl rfl (by kernel_rfl) (by kernel_rfl) (by kernel_rfl) (fun _ _ _ h => h) (by rfl) ?_ ?_
            rotate_left
            · (intro w hSw; (try dsimp only at hSw); go_simp; try with_reducible rfl)
            try simp only [Act.put, List.setIfInBounds_toArray, List.set_cons_zero, List.set_cons_succ]
            refine wpAnyH_done (by kernel_rfl) ?_ _
            have CK2 := Lib.hid (HJ.out.1.trans (K6.out.trans hHeld))
            clear hHeld
            generalize w8.drew = w2 at *
            go_upto_region 9 with fail
            have HA := Lib.hid (fun (w' : World) (hc : Chg [] w2 w') => (by simpa using RdK.nil w' none : RdK textTy w' none 0 (([] : List (List UInt8)).take 0)))
            have HB := Lib.hid (fun (w' : World) (hc : Chg [] w2 w') => (by simpa using RdK.nil w' none : RdK textTy w' none 0 (([] : List (List UInt8)).drop 0)))
            have HX := Lib.hid (fun (w' : World) (hc : Chg [] w2 w') => HXC.out w' (CK2.out.trans hc))
            have LL1 := Lib.hid (show ([] ++ ([] : List (List UInt8)).take 0).length = 0 by simp [List.length_take] <;> omega)
            have LL2 := Lib.hid (show ([] ++ ([] : List (List UInt8)).take 0 ++ [x]).length = 0 + 1 by simp [List.length_take] <;> omega)
            have N1 := Lib.hid (show (0 + 0) * 400 ≤ 140737488355327 by omega)
            have N2 := Lib.hid (show (0 + 1) * 400 ≤ 140737488355327 by omega)
            have N3 := Lib.hid (show (0 + 1 + (0)) * 400 ≤ 140737488355327 by omega)
            refine wp_region_held_drew (S := fun w' => Chg [] w2 w') (by kernel_rfl) (Chg.refl [] w2).drew (fun hHeld => ?_)
            generalize w2.drew = u0 at hHeld ⊢
            refine step_yes 1 45 ?_ (by assumption) rfl rfl (by kernel_rfl) (by kernel_rfl) (by kernel_rfl) (fun _ _ _ h => h) (by rfl) ?_ ?_
            rotate_left
            · (intro w hSw; (try dsimp only at hSw); go_simp; try with_reducible rfl)
            try simp only [Act.put, List.setIfInBounds_toArray, List.set_cons_zero, List.set_cons_succ]
            refine step_yes 2 46 ?_ (by assumption) rfl rfl (by kernel_rfl) (by kernel_rfl) (by kernel_rfl) (fun _ _ _ h => h) (by rfl) ?_ ?_
            rotate_left
            · (intro w hSw; (try dsimp only at hSw); go_simp; try with_reducible rfl)
            try simp only [Act.put, List.setIfInBounds_toArray, List.set_cons_zero, List.set_cons_succ]
            refine step_yes 3 47 ?_ (by assumption) rfl rfl (by kernel_rfl) (by kernel_rfl) (by kernel_rfl) (fun _ _ _ h => h) (by rfl) ?_ ?_
            rotate_left
            · (intro w hSw; (try dsimp only at hSw); go_simp; try with_reducible rfl)
            try simp only [Act.put, List.setIfInBounds_toArray, List.set_cons_zero, List.set_cons_succ]
            refine step_yes 5 49 ?_ (by assumption) rfl rfl (by kernel_rfl) (by kernel_rfl) (by kernel_rfl) (fun _ _ _ h => h) (by rfl) ?_ ?_
            rotate_left
            · (intro w hSw; (try dsimp only at hSw); go_simp; try with_reducible rfl)
            try simp only [Act.put, List.setIfInBounds_toArray, List.set_cons_zero, List.set_cons_succ]
            refine step_yes 6 50 ?_ (by assumption) rfl rfl (by kernel_rfl) (by kernel_rfl) (by kernel_rfl) (fun _ _ _ h => h) (by rfl) ?_ ?_
            rotate_left
            · (intro w hSw; (try dsimp only at hSw); go_simp; try with_reducible rfl)
            try simp only [Act.put, List.setIfInBounds_toArray, List.set_cons_zero, List.set_cons_succ]
            refine step_yes 7 51 ?_ (by assumption) rfl rfl (by kernel_rfl) (by kernel_rfl) (by kernel_rfl) (fun _ _ _ h => h) (by rfl) ?_ ?_
            rotate_left
            · (intro w hSw; (try dsimp only at hSw); go_simp; try with_reducible rfl)
            try simp only [Act.put, List.setIfInBounds_toArray, List.set_cons_zero, List.set_cons_succ]
            refine step_yes 8 52 ?_ (by assumption) rfl rfl (by kernel_rfl) (by kernel_rfl) (by kernel_rfl) (fun _ _ _ h => h) (by rfl) ?_ ?_
            rotate_left
            · (intro w hSw; (try dsimp only at hSw); have q := HX.out _ hSw; go_simp; try with_reducible rfl)
            try simp only [Act.put, List.setIfInBounds_toArray, List.set_cons_zero, List.set_cons_succ]
            refine step_yes 11 55 ?_ (by assumption) rfl rfl (by kernel_rfl) (by kernel_rfl) (by kernel_rfl) (fun _ _ _ h => h) (by rfl) ?_ ?_
            rotate_left
            · (intro w hSw; (try dsimp only at hSw); go_simp; try with_reducible rfl)
            try simp only [Act.put, List.setIfInBounds_toArray, List.set_cons_zero, List.set_cons_succ]
            refine step_yes 12 56 ?_ (by assumption) rfl rfl (by kernel_rfl) (by kernel_rfl) (by kernel_rfl) (fun _ _ _ h => h) (by rfl) ?_ ?_
            rotate_left
            · (intro w hSw; (try dsimp only at hSw); go_simp; try with_reducible rfl)
            try simp only [Act.put, List.setIfInBounds_toArray, List.set_cons_zero, List.set_cons_succ]
            refine step_yes 13 57 ?_ (by assumption) rfl rfl (by kernel_rfl) (by kernel_rfl) (by kernel_rfl) (fun _ _ _ h => h) (by rfl) ?_ ?_
            rotate_left
            · (intro w hSw; (try dsimp only at hSw); go_simp; try with_reducible rfl)
            try simp only [Act.put, List.setIfInBounds_toArray, List.set_cons_zero, List.set_cons_succ]
            have C0 := Lib.hid hHeld
            clear hHeld
            refine wpAnyH_ready (rs := [0, 9]) (by kernel_rfl) (by simp) ?_
            refine AllReadyH.cons rfl (fun K hK => ?_) (AllReadyH.cons rfl (fun K hK => ?_) AllReadyH.nil)
            · skip
              replace hK := Lib.hid hK
              obtain ⟨u1, hw, cc, bb⟩ := news1 u0 (.cells #[] 9)
              go_simp
              rw [← hw]
              have C1 := Lib.hid (C0.out.trans cc)
              have OE_1 := Lib.hid (own_empty bb)
              have FE_1 := Lib.hid (C0.out.size)
              have LE_1 := Lib.hid (lt_of_heap bb)
              clear hw cc bb
              refine hK.out _ _ C1.out (fun hHeld => ?_)
              clear hK K hHeld
              try simp only [Act.put, List.setIfInBounds_toArray, List.set_cons_zero, List.set_cons_succ]
              refine wpAnyH_ready (rs := [4, 9]) (by kernel_rfl) (by simp) ?_
              refine AllReadyH.cons rfl (fun K hK => ?_) (AllReadyH.cons rfl (fun K hK => ?_) AllReadyH.nil)
              · skip
                replace hK := Lib.hid hK
                refine step_appK (R := textTy) rfl (.tmp 44) (.tmp 47) rfl rfl (A := some ⟨u0.heap.size, 0, none⟩) (B := none) (n := 0) (m := 0) (c := 0) (d := 0) (xs := []) (ys := ([] : List (List UInt8)).take 0) OE_1.out rfl rfl (HA.out _ C1.out) N1.out ?_
                rw [Nat.zero_add]
                intro A_2 c_2 u2 o_ g_ e_
                have O_2 := Lib.hid o_
                have FA_2 := Lib.hid (fresh_row (A := some ⟨u0.heap.size, 0, none⟩) (by rintro a ha; cases ha; exact FE_1.out) C1.out e_)
                have C2 := Lib.hid (C1.out.grown g_ (row_fresh (A := some ⟨u0.heap.size, 0, none⟩) (by rintro a ha; cases ha; exact FE_1.out)))
                clear o_ g_ e_
                refine hK.out _ _ C2.out (fun hHeld => ?_)
                clear hK K hHeld
                try simp only [Act.put, List.setIfInBounds_toArray, List.set_cons_zero, List.set_cons_succ]
                refine wpAnyH_ready (rs := [9]) (by kernel_rfl) (by simp) ?_
                refine AllReadyH.cons rfl (fun K hK => ?_) AllReadyH.nil
                replace hK := Lib.hid hK
                obtain ⟨u3, hw, cc, bb⟩ := news1 u2 (.cells #[.string (strOf x)] 9)
                go_simp
                rw [← hw]
                have C3 := Lib.hid (C2.out.trans cc)
                have O1_3 := Lib.hid (O_2.out.chg cc (by simp))
                have RX_3 := Lib.hid (rd_text1 bb)
                have LX_3 := Lib.hid (lt_of_heap bb)
                clear hw cc bb
                refine hK.out _ _ C3.out (fun hHeld => ?_)
                clear hK K hHeld
                try simp only [Act.put, List.setIfInBounds_toArray, List.set_cons_zero, List.set_cons_succ]
                refine wpAnyH_ready (rs := [10]) (by kernel_rfl) (by simp) ?_
                refine AllReadyH.cons rfl (fun K hK => ?_) AllReadyH.nil
                replace hK := Lib.hid hK
                refine step_appK (R := textTy) rfl (.tmp 48) (.tmp 53) rfl rfl (A := A_2) (B := some ⟨u2.heap.size, 0, none⟩) (n := 0) (m := 1) (c := c_2) (d := 1) (xs := [] ++ ([] : List (List UInt8)).take 0) (ys := [x]) O1_3.out LL1.out rfl RX_3.out N2.out ?_
                intro A_4 c_4 u4 o_ g_ e_
                have O_4 := Lib.hid o_
                have FA_4 := Lib.hid (fresh_row (A := A_2) FA_2.out C3.out e_)
                have C4 := Lib.hid (C3.out.grown g_ (row_fresh (A := A_2) FA_2.out))
                clear o_ g_ e_
                refine hK.out _ _ C4.out (fun hHeld => ?_)
                clear hK K hHeld
                try simp only [Act.put, List.setIfInBounds_toArray, List.set_cons_zero, List.set_cons_succ]
                refine wpAnyH_ready (rs := [14]) (by kernel_rfl) (by simp) ?_
                refine AllReadyH.cons rfl (fun K hK => ?_) AllReadyH.nil
                replace hK := Lib.hid hK
                refine step_appK (R := textTy) rfl (.tmp 54) (.tmp 57) rfl rfl (A := A_4) (B := none) (n := (0 + 1)) (m := 0) (c := c_4) (d := 0) (xs := [] ++ ([] : List (List UInt8)).take 0 ++ [x]) (ys := ([] : List (List UInt8)).drop 0) O_4.out LL2.out rfl (HB.out _ C4.out) N3.out ?_
                intro A_5 c_5 u5 o_ g_ e_
                have O_5 := Lib.hid o_
                have FA_5 := Lib.hid (fresh_row (A := A_4) FA_4.out C4.out e_)
                have C5 := Lib.hid (C4.out.grown g_ (row_fresh (A := A_4) FA_4.out))
                clear o_ g_ e_
                refine hK.out _ _ C5.out (fun hHeld => ?_)
                clear hK K hHeld
                try simp only [Act.put, List.setIfInBounds_toArray, List.set_cons_zero, List.set_cons_succ]
                refine step_yes 15 3 ?_ C5.out rfl rfl (by kernel_rfl) (by kernel_rfl) (by kernel_rfl) (fun _ _ _ h => h) (by rfl) ?_ ?_
                rotate_left
                · (intro w hSw; (try dsimp only at hSw); go_simp; try with_reducible rfl)
                try simp only [Act.put, List.setIfInBounds_toArray, List.set_cons_zero, List.set_cons_succ]
                refine wpAnyH_done (by kernel_rfl) ?_ _
                skip
                go_wp2
                go_round
                case rel =>
                  have HG := HI.out.2.2.trans (CK2.out.trans C5.out)
                  refine ⟨i + 1, A_5, c_5, by omega, by go_num, ?_, Lib.hid ?_⟩
                  · rw [HF.out]
                    rfl
                  · rw [HF.out]
                    have o4 := O_5.out
                    simp only [List.nil_append, List.append_assoc, List.singleton_append] at o4
                    exact ⟨o4, fun a ha => Nat.le_trans (HI.out.2.2.trans CK2.out).size (FA_5.out a ha), HG⟩
                case measure => simp [RowKit.intOf]; omega
              · skip
                replace hK := Lib.hid hK
                obtain ⟨u6, hw, cc, bb⟩ := news1 u1 (.cells #[.string (strOf x)] 9)
                go_simp
                rw [← hw]
                have C6 := Lib.hid (C1.out.trans cc)
                have OE_6 := Lib.hid (OE_1.out.chg cc (by simp))
                have RX_6 := Lib.hid (rd_text1 bb)
                have LX_6 := Lib.hid (lt_of_heap bb)
                clear hw cc bb
                refine hK.out _ _ C6.out (fun hHeld => ?_)
                clear hK K hHeld
                try simp only [Act.put, List.setIfInBounds_toArray, List.set_cons_zero, List.set_cons_succ]
                refine wpAnyH_ready (rs := [4]) (by kernel_rfl) (by simp) ?_
                refine AllReadyH.cons rfl (fun K hK => ?_) AllReadyH.nil
                replace hK := Lib.hid hK
                refine step_appK (R := textTy) rfl (.tmp 44) (.tmp 47) rfl rfl (A := some ⟨u0.heap.size, 0, none⟩) (B := none) (n := 0) (m := 0) (c := 0) (d := 0) (xs := []) (ys := ([] : List (List UInt8)).take 0) OE_6.out rfl rfl (HA.out _ C6.out) N1.out ?_
                rw [Nat.zero_add]
                intro A_7 c_7 u7 o_ g_ e_
                have O_7 := Lib.hid o_
                have FA_7 := Lib.hid (fresh_row (A := some ⟨u0.heap.size, 0, none⟩) (by rintro a ha; cases ha; exact FE_1.out) C6.out e_)
                have C7 := Lib.hid (C6.out.grown g_ (row_fresh (A := some ⟨u0.heap.size, 0, none⟩) (by rintro a ha; cases ha; exact FE_1.out)))
                have RX_7 := Lib.hid (RX_6.out.grown (A := some ⟨u0.heap.size, 0, none⟩) g_ (by rintro a b ha hb; cases ha; cases hb; have q1 := LE_1.out; have q2 := LX_6.out; simp only at q1 q2 ⊢; omega))
                clear o_ g_ e_
                refine hK.out _ _ C7.out (fun hHeld => ?_)
                clear hK K hHeld
                try simp only [Act.put, List.setIfInBounds_toArray, List.set_cons_zero, List.set_cons_succ]
                refine wpAnyH_ready (rs := [10]) (by kernel_rfl) (by simp) ?_
                refine AllReadyH.cons rfl (fun K hK => ?_) AllReadyH.nil
                replace hK := Lib.hid hK
                refine step_appK (R := textTy) rfl (.tmp 48) (.tmp 53) rfl rfl (A := A_7) (B := some ⟨u1.heap.size, 0, none⟩) (n := 0) (m := 1) (c := c_7) (d := 1) (xs := [] ++ ([] : List (List UInt8)).take 0) (ys := [x]) O_7.out LL1.out rfl RX_7.out N2.out ?_
                intro A_8 c_8 u8 o_ g_ e_
                have O_8 := Lib.hid o_
                have FA_8 := Lib.hid (fresh_row (A := A_7) FA_7.out C7.out e_)
                have C8 := Lib.hid (C7.out.grown g_ (row_fresh (A := A_7) FA_7.out))
                clear o_ g_ e_
                refine hK.out _ _ C8.out (fun hHeld => ?_)
                clear hK K hHeld
                try simp only [Act.put, List.setIfInBounds_toArray, List.set_cons_zero, List.set_cons_succ]
                refine wpAnyH_ready (rs := [14]) (by kernel_rfl) (by simp) ?_
                refine AllReadyH.cons rfl (fun K hK => ?_) AllReadyH.nil
                replace hK := Lib.hid hK
                refine step_appK (R := textTy) rfl (.tmp 54) (.tmp 57) rfl rfl (A := A_8) (B := none) (n := (0 + 1)) (m := 0) (c := c_8) (d := 0) (xs := [] ++ ([] : List (List UInt8)).take 0 ++ [x]) (ys := ([] : List (List UInt8)).drop 0) O_8.out LL2.out rfl (HB.out _ C8.out) N3.out ?_
                intro A_9 c_9 u9 o_ g_ e_
                have O_9 := Lib.hid o_
                have FA_9 := Lib.hid (fresh_row (A := A_8) FA_8.out C8.out e_)
                have C9 := Lib.hid (C8.out.grown g_ (row_fresh (A := A_8) FA_8.out))
                clear o_ g_ e_
                refine hK.out _ _ C9.out (fun hHeld => ?_)
                clear hK K hHeld
                try simp only [Act.put, List.setIfInBounds_toArray, List.set_cons_zero, List.set_cons_succ]
                refine step_yes 15 3 ?_ C9.out rfl rfl (by kernel_rfl) (by kernel_rfl) (by kernel_rfl) (fun _ _ _ h => h) (by rfl) ?_ ?_
                rotate_left
                · (intro w hSw; (try dsimp only at hSw); go_simp; try with_reducible rfl)
                try simp only [Act.put, List.setIfInBounds_toArray, List.set_cons_zero, List.set_cons_succ]
                refine wpAnyH_done (by kernel_rfl) ?_ _
                skip
                go_wp2
                go_round
                case rel =>
                  have HG := HI.out.2.2.trans (CK2.out.trans C9.out)
                  refine ⟨i + 1, A_9, c_9, by omega, by go_num, ?_, Lib.hid ?_⟩
                  · rw [HF.out]
                    rfl
                  · rw [HF.out]
                    have o4 := O_9.out
                    simp only [List.nil_append, List.append_assoc, List.singleton_append] at o4
                    exact ⟨o4, fun a ha => Nat.le_trans (HI.out.2.2.trans CK2.out).size (FA_9.out a ha), HG⟩
                case measure => simp [RowKit.intOf]; omega
            · skip
              replace hK := Lib.hid hK
              obtain ⟨u10, hw, cc, bb⟩ := news1 u0 (.cells #[.string (strOf x)] 9)
              go_simp
              rw [← hw]
              have C10 := Lib.hid (C0.out.trans cc)
              have RX_10 := Lib.hid (rd_text1 bb)
              have LX_10 := Lib.hid (lt_of_heap bb)
              clear hw cc bb
              refine hK.out _ _ C10.out (fun hHeld => ?_)
              clear hK K hHeld
              try simp only [Act.put, List.setIfInBounds_toArray, List.set_cons_zero, List.set_cons_succ]
              refine wpAnyH_ready (rs := [0]) (by kernel_rfl) (by simp) ?_
              refine AllReadyH.cons rfl (fun K hK => ?_) AllReadyH.nil
              replace hK := Lib.hid hK
              obtain ⟨u11, hw, cc, bb⟩ := news1 u10 (.cells #[] 9)
              go_simp
              rw [← hw]
              have C11 := Lib.hid (C10.out.trans cc)
              have RX_11 := Lib.hid (RX_10.out.chg cc (by simp))
              have OE_11 := Lib.hid (own_empty bb)
              have FE_11 := Lib.hid (C10.out.size)
              have LE_11 := Lib.hid (lt_of_heap bb)
              clear hw cc bb
              refine hK.out _ _ C11.out (fun hHeld => ?_)
              clear hK K hHeld
              try simp only [Act.put, List.setIfInBounds_toArray, List.set_cons_zero, List.set_cons_succ]
              refine wpAnyH_ready (rs := [4]) (by kernel_rfl) (by simp) ?_
              refine AllReadyH.cons rfl (fun K hK => ?_) AllReadyH.nil
              replace hK := Lib.hid hK
              refine step_appK (R := textTy) rfl (.tmp 44) (.tmp 47) rfl rfl (A := some ⟨u10.heap.size, 0, none⟩) (B := none) (n := 0) (m := 0) (c := 0) (d := 0) (xs := []) (ys := ([] : List (List UInt8)).take 0) OE_11.out rfl rfl (HA.out _ C11.out) N1.out ?_
              rw [Nat.zero_add]
              intro A_12 c_12 u12 o_ g_ e_
              have O_12 := Lib.hid o_
              have FA_12 := Lib.hid (fresh_row (A := some ⟨u10.heap.size, 0, none⟩) (by rintro a ha; cases ha; exact FE_11.out) C11.out e_)
              have C12 := Lib.hid (C11.out.grown g_ (row_fresh (A := some ⟨u10.heap.size, 0, none⟩) (by rintro a ha; cases ha; exact FE_11.out)))
              have RX_12 := Lib.hid (RX_11.out.grown (A := some ⟨u10.heap.size, 0, none⟩) g_ (by rintro a b ha hb; cases ha; cases hb; have q1 := LE_11.out; have q2 := LX_10.out; simp only at q1 q2 ⊢; omega))
              clear o_ g_ e_
              refine hK.out _ _ C12.out (fun hHeld => ?_)
              clear hK K hHeld
              try simp only [Act.put, List.setIfInBounds_toArray, List.set_cons_zero, List.set_cons_succ]
              refine wpAnyH_ready (rs := [10]) (by kernel_rfl) (by simp) ?_
              refine AllReadyH.cons rfl (fun K hK => ?_) AllReadyH.nil
              replace hK := Lib.hid hK
              refine step_appK (R := textTy) rfl (.tmp 48) (.tmp 53) rfl rfl (A := A_12) (B := some ⟨u0.heap.size, 0, none⟩) (n := 0) (m := 1) (c := c_12) (d := 1) (xs := [] ++ ([] : List (List UInt8)).take 0) (ys := [x]) O_12.out LL1.out rfl RX_12.out N2.out ?_
              intro A_13 c_13 u13 o_ g_ e_
              have O_13 := Lib.hid o_
              have FA_13 := Lib.hid (fresh_row (A := A_12) FA_12.out C12.out e_)
              have C13 := Lib.hid (C12.out.grown g_ (row_fresh (A := A_12) FA_12.out))
              clear o_ g_ e_
              refine hK.out _ _ C13.out (fun hHeld => ?_)
              clear hK K hHeld
              try simp only [Act.put, List.setIfInBounds_toArray, List.set_cons_zero, List.set_cons_succ]
              refine wpAnyH_ready (rs := [14]) (by kernel_rfl) (by simp) ?_
              refine AllReadyH.cons rfl (fun K hK => ?_) AllReadyH.nil
              replace hK := Lib.hid hK
              refine step_appK (R := textTy) rfl (.tmp 54) (.tmp 57) rfl rfl (A := A_13) (B := none) (n := (0 + 1)) (m := 0) (c := c_13) (d := 0) (xs := [] ++ ([] : List (List UInt8)).take 0 ++ [x]) (ys := ([] : List (List UInt8)).drop 0) O_13.out LL2.out rfl (HB.out _ C13.out) N3.out ?_
              intro A_14 c_14 u14 o_ g_ e_
              have O_14 := Lib.hid o_
              have FA_14 := Lib.hid (fresh_row (A := A_13) FA_13.out C13.out e_)
              have C14 := Lib.hid (C13.out.grown g_ (row_fresh (A := A_13) FA_13.out))
              clear o_ g_ e_
              refine hK.out _ _ C14.out (fun hHeld => ?_)
              clear hK K hHeld
              try simp only [Act.put, List.setIfInBounds_toArray, List.set_cons_zero, List.set_cons_succ]
              refine step_yes 15 3 ?_ C14.out rfl rfl (by kernel_rfl) (by kernel_rfl) (by kernel_rfl) (fun _ _ _ h => h) (by rfl) ?_ ?_
              rotate_left
              · (intro w hSw; (try dsimp only at hSw); go_simp; try with_reducible rfl)
              try simp only [Act.put, List.setIfInBounds_toArray, List.set_cons_zero, List.set_cons_succ]
              refine wpAnyH_done (by kernel_rfl) ?_ _
              skip
              go_wp2
              go_round
              case rel =>
                have HG := HI.out.2.2.trans (CK2.out.trans C14.out)
                refine ⟨i + 1, A_14, c_14, by omega, by go_num, ?_, Lib.hid ?_⟩
                · rw [HF.out]
                  rfl
                · rw [HF.out]
                  have o4 := O_14.out
                  simp only [List.nil_append, List.append_assoc, List.singleton_append] at o4
                  exact ⟨o4, fun a ha => Nat.le_trans (HI.out.2.2.trans CK2.out).size (FA_14.out a ha), HG⟩
              case measure => simp [RowKit.intOf]; omega
          · subst eB
            by_cases hdl : d = out.length
            · subst hdl
              go_upto_region 6 with fail
              refine wp_region_held_drew (S := fun w' => Chg [] wr w') (by kernel_rfl) (Chg.refl [] wr).drew (fun hHeld => ?_)
              refine step_yes 0 12 ?_ (by assumption) rfl rfl (by kernel_rfl) (by kernel_rfl) (by kernel_rfl) (fun _ _ _ h => h) (by rfl) ?_ ?_
              rotate_left
              · (intro w hSw; (try dsimp only at hSw); go_simp; try with_reducible rfl)
              try simp only [Act.put, List.setIfInBounds_toArray, List.set_cons_zero, List.set_cons_succ]
              refine step_yes 1 13 ?_ (by assumption) rfl rfl (by kernel_rfl) (by kernel_rfl) (by kernel_rfl) (fun _ _ _ h => h) (by rfl) ?_ ?_
              rotate_left
              · (intro w hSw; (try dsimp only at hSw); go_simp; try with_reducible rfl)
              try simp only [Act.put, List.setIfInBounds_toArray, List.set_cons_zero, List.set_cons_succ]
              refine step_yes 2 14 ?_ (by assumption) rfl rfl (by kernel_rfl) (by kernel_rfl) (by kernel_rfl) (fun _ _ _ h => h) (by rfl) ?_ ?_
              rotate_left
              · (intro w hSw; (try dsimp only at hSw); go_simp; try with_reducible rfl)
              try simp only [Act.put, List.setIfInBounds_toArray, List.set_cons_zero, List.set_cons_succ]
              refine step_yes 3 15 ?_ (by assumption) rfl rfl (by kernel_rfl) (by kernel_rfl) (by kernel_rfl) (fun _ _ _ h => h) (by rfl) ?_ ?_
              rotate_left
              · (intro w hSw; (try dsimp only at hSw); go_simp; try with_reducible rfl)
              try simp only [Act.put, List.setIfInBounds_toArray, List.set_cons_zero, List.set_cons_succ]
              refine step_yes 4 16 ?_ (by assumption) rfl rfl (by kernel_rfl) (by kernel_rfl) (by kernel_rfl) (fun _ _ _ h => h) (by rfl) ?_ ?_
              rotate_left
              · (intro w hSw; (try dsimp only at hSw); go_simp; try with_reducible rfl)
              try simp only [Act.put, List.setIfInBounds_toArray, List.set_cons_zero, List.set_cons_succ]
              refine step_no 5 17 (by assumption) rfl rfl (by kernel_rfl) (by kernel_rfl) (by kernel_rfl) (fun _ _ _ h => h) (by rfl) ?_
              try simp only [Act.put, List.setIfInBounds_toArray, List.set_cons_zero, List.set_cons_succ]
              refine step_no 6 18 (by assumption) rfl rfl (by kernel_rfl) (by kernel_rfl) (by kernel_rfl) (fun _ _ _ h => h) (by rfl) ?_
              try simp only [Act.put, List.setIfInBounds_toArray, List.set_cons_zero, List.set_cons_succ]
              refine step_no 7 19 (by assumption) rfl rfl (by kernel_rfl) (by kernel_rfl) (by kernel_rfl) (fun _ _ _ h => h) (by rfl) ?_
              try simp only [Act.put, List.setIfInBounds_toArray, List.set_cons_zero, List.set_cons_succ]
              refine step_no 8 20 (by assumption) rfl rfl (by kernel_rfl) (by kernel_rfl) (by kernel_rfl) (fun _ _ _ h => h) (by rfl) ?_
              try simp only [Act.put, List.setIfInBounds_toArray, List.set_cons_zero, List.set_cons_succ]
              refine step_no 9 21 (by assumption) rfl rfl (by kernel_rfl) (by kernel_rfl) (by kernel_rfl) (fun _ _ _ h => h) (by rfl) ?_
              try simp only [Act.put, List.setIfInBounds_toArray, List.set_cons_zero, List.set_cons_succ]
              refine step_no 10 22 (by assumption) rfl rfl (by kernel_rfl) (by kernel_rfl) (by kernel_rfl) (fun _ _ _ h => h) (by rfl) ?_
              try simp only [Act.put, List.setIfInBounds_toArray, List.set_cons_zero, List.set_cons_succ]
              refine step_no 11 23 (by assumption) rfl rfl (by kernel_rfl) (by kernel_rfl) (by kernel_rfl) (fun _ _ _ h => h) (by rfl) ?_
              try simp only [Act.put, List.setIfInBounds_toArray, List.set_cons_zero, List.set_cons_succ]
              refine step_no 12 24 (by assumption) rfl rfl (by kernel_rfl) (by kernel_rfl) (by kernel_rfl) (fun _ _ _ h => h) (by rfl) ?_
              try simp only [Act.put, List.setIfInBounds_toArray, List.set_cons_zero, List.set_cons_succ]
              refine step_no 13 25 (by assumption) rfl rfl (by kernel_rfl) (by kernel_rfl) (by kernel_rfl) (fun _ _ _ h => h) (by rfl) ?_
              try simp only [Act.put, List.setIfInBounds_toArray, List.set_cons_zero, List.set_cons_succ]
              refine step_yes 14 26 ?_ (by assumption) rfl rfl (by kernel_rfl) (by kernel_rfl) (by kernel_rfl) (fun _ _ _ h => h) (by rfl) ?_ ?_
              rotate_left
              · (intro w hSw; (try dsimp only at hSw); go_simp; try with_reducible rfl)
              try simp only [Act.put, List.setIfInBounds_toArray, List.set_cons_zero, List.set_cons_succ]
              refine wpAnyH_done (by kernel_rfl) ?_ _
              have K6 := Lib.hid hHeld
              clear hHeld
              generalize wr.drew = w8 at *
              go_upto_region 8 with fail
              refine wp_region_held_drew (S := fun w' => Chg [] w8 w') (by kernel_rfl) (Chg.refl [] w8).drew (fun hHeld => ?_)
              refine step_yes 0 29 ?_ (by assumption) rfl rfl (by kernel_rfl) (by kernel_rfl) (by kernel_rfl) (fun _ _ _ h => h) (by rfl) ?_ ?_
              rotate_left
              · (intro w hSw; (try dsimp only at hSw); go_simp; try with_reducible rfl)
              try simp only [Act.put, List.setIfInBounds_toArray, List.set_cons_zero, List.set_cons_succ]
              refine step_yes 1 30 ?_ (by assumption) rfl rfl (by kernel_rfl) (by kernel_rfl) (by kernel_rfl) (fun _ _ _ h => h) (by rfl) ?_ ?_
              rotate_left
              · (intro w hSw; (try dsimp only at hSw); go_simp; try with_reducible rfl)
              try simp only [Act.put, List.setIfInBounds_toArray, List.set_cons_zero, List.set_cons_succ]
              refine step_yes 2 31 ?_ (by assumption) rfl rfl (by kernel_rfl) (by kernel_rfl) (by kernel_rfl) (fun _ _ _ h => h) (by rfl) ?_ ?_
              rotate_left
              · (intro w hSw; (try dsimp only at hSw); go_simp; try with_reducible rfl)
              try simp only [Act.put, List.setIfInBounds_toArray, List.set_cons_zero, List.set_cons_succ]
              refine step_yes 3 32 ?_ (by assumption) rfl rfl (by kernel_rfl) (by kernel_rfl) (by kernel_rfl) (fun _ _ _ h => h) (by rfl) ?_ ?_
              rotate_left
              · (intro w hSw; (try dsimp only at hSw); go_simp; try with_reducible rfl)
              try simp only [Act.put, List.setIfInBounds_toArray, List.set_cons_zero, List.set_cons_succ]
              refine step_yes 4 33 ?_ (by assumption) rfl rfl (by kernel_rfl) (by kernel_rfl) (by kernel_rfl) (fun _ _ _ h => h) (by rfl) ?_ ?_
              rotate_left
              · (intro w hSw; (try dsimp only at hSw); go_simp; try with_reducible rfl)
              try simp only [Act.put, List.setIfInBounds_toArray, List.set_cons_zero, List.set_cons_succ]
              refine step_no 5 34 (by assumption) rfl rfl (by kernel_rfl) (by kernel_rfl) (by kernel_rfl) (fun _ _ _ h => h) (by rfl) ?_
              try simp only [Act.put, List.setIfInBounds_toArray, List.set_cons_zero, List.set_cons_succ]
              refine step_no 6 35 (by assumption) rfl rfl (by kernel_rfl) (by kernel_rfl) (by kernel_rfl) (fun _ _ _ h => h) (by rfl) ?_
              try simp only [Act.put, List.setIfInBounds_toArray, List.set_cons_zero, List.set_cons_succ]
              refine step_no 7 36 (by assumption) rfl rfl (by kernel_rfl) (by kernel_rfl) (by kernel_rfl) (fun _ _ _ h => h) (by rfl) ?_
              try simp only [Act.put, List.setIfInBounds_toArray, List.set_cons_zero, List.set_cons_succ]
              refine step_no 8 37 (by assumption) rfl rfl (by kernel_rfl) (by kernel_rfl) (by kernel_rfl) (fun _ _ _ h => h) (by rfl) ?_
              try simp only [Act.put, List.setIfInBounds_toArray, List.set_cons_zero, List.set_cons_succ]
              refine step_no 9 38 (by assumption) rfl rfl (by kernel_rfl) (by kernel_rfl) (by kernel_rfl) (fun _ _ _ h => h) (by rfl) ?_
              try simp only [Act.put, List.setIfInBounds_toArray, List.set_cons_zero, List.set_cons_succ]
              refine step_no 10 39 (by assumption) rfl rfl (by kernel_rfl) (by kernel_rfl) (by kernel_rfl) (fun _ _ _ h => h) (by rfl) ?_
              try simp only [Act.put, List.setIfInBounds_toArray, List.set_cons_zero, List.set_cons_succ]
              refine step_no 11 40 (by assumption) rfl rfl (by kernel_rfl) (by kernel_rfl) (by kernel_rfl) (fun _ _ _ h => h) (by rfl) ?_
              try simp only [Act.put, List.setIfInBounds_toArray, List.set_cons_zero, List.set_cons_succ]
              refine step_no 12 41 (by assumption) rfl rfl (by kernel_rfl) (by kernel_rfl) (by kernel_rfl) (fun _ _ _ h => h) (by rfl) ?_
              try simp only [Act.put, List.setIfInBounds_toArray, List.set_cons_zero, List.set_cons_succ]
              refine step_no 13 42 (by assumption) rfl rfl (by kernel_rfl) (by kernel_rfl) (by kernel_rfl) (fun _ _ _ h => h) (by rfl) ?_
              try simp only [Act.put, List.setIfInBounds_toArray, List.set_cons_zero, List.set_cons_succ]
              refine step_yes 14 43 ?_ (by assumption) rfl rfl (by kernel_rfl) (by kernel_rfl) (by kernel_rfl) (fun _ _ _ h => h) (by rfl) ?_ ?_
              rotate_left
              · (intro w hSw; (try dsimp only at hSw); go_simp; try with_reducible rfl)
              try simp only [Act.put, List.setIfInBounds_toArray, List.set_cons_zero, List.set_cons_succ]
              refine wpAnyH_done (by kernel_rfl) ?_ _
              have CK2 := Lib.hid (HJ.out.1.trans (K6.out.trans hHeld))
              clear hHeld
              generalize w8.drew = w2 at *
              go_upto_region 9 with fail
              have HA := Lib.hid (show ∀ w', Chg [] w2 w' → RdK textTy w' (some ⟨g2, 0, none⟩) out.length (out.take out.length) from fun w' hc => by
                have := ((HI.out.1.take out.length).reads.chg (CK2.out.trans hc) (by simp))
                rwa [List.length_take, Nat.min_eq_left (by omega)] at this)
              have HB := Lib.hid (show ∀ w', Chg [] w2 w' → RdK textTy w' (some ⟨g2, 0, none⟩) 0 (out.drop out.length) from fun w' hc => by rw [List.drop_of_length_le (Nat.le_refl _)]; exact RdK.nil w' _)
              have HX := Lib.hid (fun (w' : World) (hc : Chg [] w2 w') => HXC.out w' (CK2.out.trans hc))
              have LL1 := Lib.hid (show ([] ++ out.take out.length).length = out.length by simp [List.length_take] <;> omega)
              have LL2 := Lib.hid (show ([] ++ out.take out.length ++ [x]).length = out.length + 1 by simp [List.length_take] <;> omega)
              have N1 := Lib.hid (show (0 + out.length) * 400 ≤ 140737488355327 by omega)
              have N2 := Lib.hid (show (out.length + 1) * 400 ≤ 140737488355327 by omega)
              have N3 := Lib.hid (show (out.length + 1 + (0)) * 400 ≤ 140737488355327 by omega)
              refine wp_region_held_drew (S := fun w' => Chg [] w2 w') (by kernel_rfl) (Chg.refl [] w2).drew (fun hHeld => ?_)
              generalize w2.drew = u0 at hHeld ⊢
              refine step_yes 1 45 ?_ (by assumption) rfl rfl (by kernel_rfl) (by kernel_rfl) (by kernel_rfl) (fun _ _ _ h => h) (by rfl) ?_ ?_
              rotate_left
              · (intro w hSw; (try dsimp only at hSw); go_simp; try with_reducible rfl)
              try simp only [Act.put, List.setIfInBounds_toArray, List.set_cons_zero, List.set_cons_succ]
              refine step_yes 2 46 ?_ (by assumption) rfl rfl (by kernel_rfl) (by kernel_rfl) (by kernel_rfl) (fun _ _ _ h => h) (by rfl) ?_ ?_
              rotate_left
              · (intro w hSw; (try dsimp only at hSw); go_simp; try with_reducible rfl)
              try simp only [Act.put, List.setIfInBounds_toArray, List.set_cons_zero, List.set_cons_succ]
              refine step_yes 3 47 ?_ (by assumption) rfl rfl (by kernel_rfl) (by kernel_rfl) (by kernel_rfl) (fun _ _ _ h => h) (by rfl) ?_ ?_
              rotate_left
              · (intro w hSw; (try dsimp only at hSw); go_simp; try with_reducible rfl)
              try simp only [Act.put, List.setIfInBounds_toArray, List.set_cons_zero, List.set_cons_succ]
              refine step_yes 5 49 ?_ (by assumption) rfl rfl (by kernel_rfl) (by kernel_rfl) (by kernel_rfl) (fun _ _ _ h => h) (by rfl) ?_ ?_
              rotate_left
              · (intro w hSw; (try dsimp only at hSw); go_simp; try with_reducible rfl)
              try simp only [Act.put, List.setIfInBounds_toArray, List.set_cons_zero, List.set_cons_succ]
              refine step_yes 6 50 ?_ (by assumption) rfl rfl (by kernel_rfl) (by kernel_rfl) (by kernel_rfl) (fun _ _ _ h => h) (by rfl) ?_ ?_
              rotate_left
              · (intro w hSw; (try dsimp only at hSw); go_simp; try with_reducible rfl)
              try simp only [Act.put, List.setIfInBounds_toArray, List.set_cons_zero, List.set_cons_succ]
              refine step_yes 7 51 ?_ (by assumption) rfl rfl (by kernel_rfl) (by kernel_rfl) (by kernel_rfl) (fun _ _ _ h => h) (by rfl) ?_ ?_
              rotate_left
              · (intro w hSw; (try dsimp only at hSw); go_simp; try with_reducible rfl)
              try simp only [Act.put, List.setIfInBounds_toArray, List.set_cons_zero, List.set_cons_succ]
              refine step_yes 8 52 ?_ (by assumption) rfl rfl (by kernel_rfl) (by kernel_rfl) (by kernel_rfl) (fun _ _ _ h => h) (by rfl) ?_ ?_
              rotate_left
              · (intro w hSw; (try dsimp only at hSw); have q := HX.out _ hSw; go_simp; try with_reducible rfl)
              try simp only [Act.put, List.setIfInBounds_toArray, List.set_cons_zero, List.set_cons_succ]
              refine step_yes 11 55 ?_ (by assumption) rfl rfl (by kernel_rfl) (by kernel_rfl) (by kernel_rfl) (fun _ _ _ h => h) (by rfl) ?_ ?_
              rotate_left
              · (intro w hSw; (try dsimp only at hSw); go_simp; try with_reducible rfl)
              try simp only [Act.put, List.setIfInBounds_toArray, List.set_cons_zero, List.set_cons_succ]
              refine step_yes 12 56 ?_ (by assumption) rfl rfl (by kernel_rfl) (by kernel_rfl) (by kernel_rfl) (fun _ _ _ h => h) (by rfl) ?_ ?_
              rotate_left
              · (intro w hSw; (try dsimp only at hSw); go_simp; try with_reducible rfl)
              try simp only [Act.put, List.setIfInBounds_toArray, List.set_cons_zero, List.set_cons_succ]
              refine step_yes 13 57 ?_ (by assumption) rfl rfl (by kernel_rfl) (by kernel_rfl) (by kernel_rfl) (fun _ _ _ h => h) (by rfl) ?_ ?_
              rotate_left
              · (intro w hSw; (try dsimp only at hSw); go_simp; try with_reducible rfl)
              try simp only [Act.put, List.setIfInBounds_toArray, List.set_cons_zero, List.set_cons_succ]
              have C0 := Lib.hid hHeld
              clear hHeld
              refine wpAnyH_ready (rs := [0, 9]) (by kernel_rfl) (by simp) ?_
              refine AllReadyH.cons rfl (fun K hK => ?_) (AllReadyH.cons rfl (fun K hK => ?_) AllReadyH.nil)
              · skip
                replace hK := Lib.hid hK
                obtain ⟨u1, hw, cc, bb⟩ := news1 u0 (.cells #[] 9)
                go_simp
                rw [← hw]
                have C1 := Lib.hid (C0.out.trans cc)
                have OE_1 := Lib.hid (own_empty bb)
                have FE_1 := Lib.hid (C0.out.size)
                have LE_1 := Lib.hid (lt_of_heap bb)
                clear hw cc bb
                refine hK.out _ _ C1.out (fun hHeld => ?_)
                clear hK K hHeld
                try simp only [Act.put, List.setIfInBounds_toArray, List.set_cons_zero, List.set_cons_succ]
                refine wpAnyH_ready (rs := [4, 9]) (by kernel_rfl) (by simp) ?_
                refine AllReadyH.cons rfl (fun K hK => ?_) (AllReadyH.cons rfl (fun K hK => ?_) AllReadyH.nil)
                · skip
                  replace hK := Lib.hid hK
                  refine step_appK (R := textTy) rfl (.tmp 44) (.tmp 47) rfl rfl (A := some ⟨u0.heap.size, 0, none⟩) (B := some ⟨g2, 0, none⟩) (n := 0) (m := out.length) (c := 0) (d := out.length) (xs := []) (ys := out.take out.length) OE_1.out rfl rfl (HA.out _ C1.out) N1.out ?_
                  rw [Nat.zero_add]
                  intro A_2 c_2 u2 o_ g_ e_
                  have O_2 := Lib.hid o_
                  have FA_2 := Lib.hid (fresh_row (A := some ⟨u0.heap.size, 0, none⟩) (by rintro a ha; cases ha; exact FE_1.out) C1.out e_)
                  have C2 := Lib.hid (C1.out.grown g_ (row_fresh (A := some ⟨u0.heap.size, 0, none⟩) (by rintro a ha; cases ha; exact FE_1.out)))
                  clear o_ g_ e_
                  refine hK.out _ _ C2.out (fun hHeld => ?_)
                  clear hK K hHeld
                  try simp only [Act.put, List.setIfInBounds_toArray, List.set_cons_zero, List.set_cons_succ]
                  refine wpAnyH_ready (rs := [9]) (by kernel_rfl) (by simp) ?_
                  refine AllReadyH.cons rfl (fun K hK => ?_) AllReadyH.nil
                  replace hK := Lib.hid hK
                  obtain ⟨u3, hw, cc, bb⟩ := news1 u2 (.cells #[.string (strOf x)] 9)
                  go_simp
                  rw [← hw]
                  have C3 := Lib.hid (C2.out.trans cc)
                  have O1_3 := Lib.hid (O_2.out.chg cc (by simp))
                  have RX_3 := Lib.hid (rd_text1 bb)
                  have LX_3 := Lib.hid (lt_of_heap bb)
                  clear hw cc bb
                  refine hK.out _ _ C3.out (fun hHeld => ?_)
                  clear hK K hHeld
                  try simp only [Act.put, List.setIfInBounds_toArray, List.set_cons_zero, List.set_cons_succ]
                  refine wpAnyH_ready (rs := [10]) (by kernel_rfl) (by simp) ?_
                  refine AllReadyH.cons rfl (fun K hK => ?_) AllReadyH.nil
                  replace hK := Lib.hid hK
                  refine step_appK (R := textTy) rfl (.tmp 48) (.tmp 53) rfl rfl (A := A_2) (B := some ⟨u2.heap.size, 0, none⟩) (n := out.length) (m := 1) (c := c_2) (d := 1) (xs := [] ++ out.take out.length) (ys := [x]) O1_3.out LL1.out rfl RX_3.out N2.out ?_
                  intro A_4 c_4 u4 o_ g_ e_
                  have O_4 := Lib.hid o_
                  have FA_4 := Lib.hid (fresh_row (A := A_2) FA_2.out C3.out e_)
                  have C4 := Lib.hid (C3.out.grown g_ (row_fresh (A := A_2) FA_2.out))
                  clear o_ g_ e_
                  refine hK.out _ _ C4.out (fun hHeld => ?_)
                  clear hK K hHeld
                  try simp only [Act.put, List.setIfInBounds_toArray, List.set_cons_zero, List.set_cons_succ]
                  refine wpAnyH_ready (rs := [14]) (by kernel_rfl) (by simp) ?_
                  refine AllReadyH.cons rfl (fun K hK => ?_) AllReadyH.nil
                  replace hK := Lib.hid hK
                  refine step_appK (R := textTy) rfl (.tmp 54) (.tmp 57) rfl rfl (A := A_4) (B := some ⟨g2, 0, none⟩) (n := (out.length + 1)) (m := 0) (c := c_4) (d := 0) (xs := [] ++ out.take out.length ++ [x]) (ys := out.drop out.length) O_4.out LL2.out rfl (HB.out _ C4.out) N3.out ?_
                  intro A_5 c_5 u5 o_ g_ e_
                  have O_5 := Lib.hid o_
                  have FA_5 := Lib.hid (fresh_row (A := A_4) FA_4.out C4.out e_)
                  have C5 := Lib.hid (C4.out.grown g_ (row_fresh (A := A_4) FA_4.out))
                  clear o_ g_ e_
                  refine hK.out _ _ C5.out (fun hHeld => ?_)
                  clear hK K hHeld
                  try simp only [Act.put, List.setIfInBounds_toArray, List.set_cons_zero, List.set_cons_succ]
                  refine step_yes 15 3 ?_ C5.out rfl rfl (by kernel_rfl) (by kernel_rfl) (by kernel_rfl) (fun _ _ _ h => h) (by rfl) ?_ ?_
                  rotate_left
                  · (intro w hSw; (try dsimp only at hSw); go_simp; try with_reducible rfl)
                  try simp only [Act.put, List.setIfInBounds_toArray, List.set_cons_zero, List.set_cons_succ]
                  refine wpAnyH_done (by kernel_rfl) ?_ _
                  skip
                  go_wp2
                  go_round
                  case rel =>
                    have HG := HI.out.2.2.trans (CK2.out.trans C5.out)
                    refine ⟨i + 1, A_5, c_5, by omega, by go_num, ?_, Lib.hid ?_⟩
                    · rw [HF.out]
                      congr 1
                      simp only [List.length_append, List.length_take, List.length_cons, List.length_drop]; omega
                    · rw [HF.out]
                      have o4 := O_5.out
                      simp only [List.nil_append, List.append_assoc, List.singleton_append] at o4
                      exact ⟨o4, fun a ha => Nat.le_trans (HI.out.2.2.trans CK2.out).size (FA_5.out a ha), HG⟩
                  case measure => simp [RowKit.intOf]; omega
                · skip
                  replace hK := Lib.hid hK
                  obtain ⟨u6, hw, cc, bb⟩ := news1 u1 (.cells #[.string (strOf x)] 9)
                  go_simp
                  rw [← hw]
                  have C6 := Lib.hid (C1.out.trans cc)
                  have OE_6 := Lib.hid (OE_1.out.chg cc (by simp))
                  have RX_6 := Lib.hid (rd_text1 bb)
                  have LX_6 := Lib.hid (lt_of_heap bb)
                  clear hw cc bb
                  refine hK.out _ _ C6.out (fun hHeld => ?_)
                  clear hK K hHeld
                  try simp only [Act.put, List.setIfInBounds_toArray, List.set_cons_zero, List.set_cons_succ]
                  refine wpAnyH_ready (rs := [4]) (by kernel_rfl) (by simp) ?_
                  refine AllReadyH.cons rfl (fun K hK => ?_) AllReadyH.nil
                  replace hK := Lib.hid hK
                  refine step_appK (R := textTy) rfl (.tmp 44) (.tmp 47) rfl rfl (A := some ⟨u0.heap.size, 0, none⟩) (B := some ⟨g2, 0, none⟩) (n := 0) (m := out.length) (c := 0) (d := out.length) (xs := []) (ys := out.take out.length) OE_6.out rfl rfl (HA.out _ C6.out) N1.out ?_
                  rw [Nat.zero_add]
                  intro A_7 c_7 u7 o_ g_ e_
                  have O_7 := Lib.hid o_
                  have FA_7 := Lib.hid (fresh_row (A := some ⟨u0.heap.size, 0, none⟩) (by rintro a ha; cases ha; exact FE_1.out) C6.out e_)
                  have C7 := Lib.hid (C6.out.grown g_ (row_fresh (A := some ⟨u0.heap.size, 0, none⟩) (by rintro a ha; cases ha; exact FE_1.out)))
                  have RX_7 := Lib.hid (RX_6.out.grown (A := some ⟨u0.heap.size, 0, none⟩) g_ (by rintro a b ha hb; cases ha; cases hb; have q1 := LE_1.out; have q2 := LX_6.out; simp only at q1 q2 ⊢; omega))
                  clear o_ g_ e_
                  refine hK.out _ _ C7.out (fun hHeld => ?_)
                  clear hK K hHeld
                  try simp only [Act.put, List.setIfInBounds_toArray, List.set_cons_zero, List.set_cons_succ]
                  refine wpAnyH_ready (rs := [10]) (by kernel_rfl) (by simp) ?_
                  refine AllReadyH.cons rfl (fun K hK => ?_) AllReadyH.nil
                  replace hK := Lib.hid hK
                  refine step_appK (R := textTy) rfl (.tmp 48) (.tmp 53) rfl rfl (A := A_7) (B := some ⟨u1.heap.size, 0, none⟩) (n := out.length) (m := 1) (c := c_7) (d := 1) (xs := [] ++ out.take out.length) (ys := [x]) O_7.out LL1.out rfl RX_7.out N2.out ?_
                  intro A_8 c_8 u8 o_ g_ e_
                  have O_8 := Lib.hid o_
                  have FA_8 := Lib.hid (fresh_row (A := A_7) FA_7.out C7.out e_)
                  have C8 := Lib.hid (C7.out.grown g_ (row_fresh (A := A_7) FA_7.out))
                  clear o_ g_ e_
                  refine hK.out _ _ C8.out (fun hHeld => ?_)
                  clear hK K hHeld
                  try simp only [Act.put, List.setIfInBounds_toArray, List.set_cons_zero, List.set_cons_succ]
                  refine wpAnyH_ready (rs := [14]) (by kernel_rfl) (by simp) ?_
                  refine AllReadyH.cons rfl (fun K hK => ?_) AllReadyH.nil
                  replace hK := Lib.hid hK
                  refine step_appK (R := textTy) rfl (.tmp 54) (.tmp 57) rfl rfl (A := A_8) (B := some ⟨g2, 0, none⟩) (n := (out.length + 1)) (m := 0) (c := c_8) (d := 0) (xs := [] ++ out.take out.length ++ [x]) (ys := out.drop out.length) O_8.out LL2.out rfl (HB.out _ C8.out) N3.out ?_
                  intro A_9 c_9 u9 o_ g_ e_
                  have O_9 := Lib.hid o_
                  have FA_9 := Lib.hid (fresh_row (A := A_8) FA_8.out C8.out e_)
                  have C9 := Lib.hid (C8.out.grown g_ (row_fresh (A := A_8) FA_8.out))
                  clear o_ g_ e_
                  refine hK.out _ _ C9.out (fun hHeld => ?_)
                  clear hK K hHeld
                  try simp only [Act.put, List.setIfInBounds_toArray, List.set_cons_zero, List.set_cons_succ]
                  refine step_yes 15 3 ?_ C9.out rfl rfl (by kernel_rfl) (by kernel_rfl) (by kernel_rfl) (fun _ _ _ h => h) (by rfl) ?_ ?_
                  rotate_left
                  · (intro w hSw; (try dsimp only at hSw); go_simp; try with_reducible rfl)
                  try simp only [Act.put, List.setIfInBounds_toArray, List.set_cons_zero, List.set_cons_succ]
                  refine wpAnyH_done (by kernel_rfl) ?_ _
                  skip
                  go_wp2
                  go_round
                  case rel =>
                    have HG := HI.out.2.2.trans (CK2.out.trans C9.out)
                    refine ⟨i + 1, A_9, c_9, by omega, by go_num, ?_, Lib.hid ?_⟩
                    · rw [HF.out]
                      congr 1
                      simp only [List.length_append, List.length_take, List.length_cons, List.length_drop]; omega
                    · rw [HF.out]
                      have o4 := O_9.out
                      simp only [List.nil_append, List.append_assoc, List.singleton_append] at o4
                      exact ⟨o4, fun a ha => Nat.le_trans (HI.out.2.2.trans CK2.out).size (FA_9.out a ha), HG⟩
                  case measure => simp [RowKit.intOf]; omega
              · skip
                replace hK := Lib.hid hK
                obtain ⟨u10, hw, cc, bb⟩ := news1 u0 (.cells #[.string (strOf x)] 9)
                go_simp
                rw [← hw]
                have C10 := Lib.hid (C0.out.trans cc)
                have RX_10 := Lib.hid (rd_text1 bb)
                have LX_10 := Lib.hid (lt_of_heap bb)
                clear hw cc bb
                refine hK.out _ _ C10.out (fun hHeld => ?_)
                clear hK K hHeld
                try simp only [Act.put, List.setIfInBounds_toArray, List.set_cons_zero, List.set_cons_succ]
                refine wpAnyH_ready (rs := [0]) (by kernel_rfl) (by simp) ?_
                refine AllReadyH.cons rfl (fun K hK => ?_) AllReadyH.nil
                replace hK := Lib.hid hK
                obtain ⟨u11, hw, cc, bb⟩ := news1 u10 (.cells #[] 9)
                go_simp
                rw [← hw]
                have C11 := Lib.hid (C10.out.trans cc)
                have RX_11 := Lib.hid (RX_10.out.chg cc (by simp))
                have OE_11 := Lib.hid (own_empty bb)
                have FE_11 := Lib.hid (C10.out.size)
                have LE_11 := Lib.hid (lt_of_heap bb)
                clear hw cc bb
                refine hK.out _ _ C11.out (fun hHeld => ?_)
                clear hK K hHeld
                try simp only [Act.put, List.setIfInBounds_toArray, List.set_cons_zero, List.set_cons_succ]
                refine wpAnyH_ready (rs := [4]) (by kernel_rfl) (by simp) ?_
                refine AllReadyH.cons rfl (fun K hK => ?_) AllReadyH.nil
                replace hK := Lib.hid hK
                refine step_appK (R := textTy) rfl (.tmp 44) (.tmp 47) rfl rfl (A := some ⟨u10.heap.size, 0, none⟩) (B := some ⟨g2, 0, none⟩) (n := 0) (m := out.length) (c := 0) (d := out.length) (xs := []) (ys := out.take out.length) OE_11.out rfl rfl (HA.out _ C11.out) N1.out ?_
                rw [Nat.zero_add]
                intro A_12 c_12 u12 o_ g_ e_
                have O_12 := Lib.hid o_
                have FA_12 := Lib.hid (fresh_row (A := some ⟨u10.heap.size, 0, none⟩) (by rintro a ha; cases ha; exact FE_11.out) C11.out e_)
                have C12 := Lib.hid (C11.out.grown g_ (row_fresh (A := some ⟨u10.heap.size, 0, none⟩) (by rintro a ha; cases ha; exact FE_11.out)))
                have RX_12 := Lib.hid (RX_11.out.grown (A := some ⟨u10.heap.size, 0, none⟩) g_ (by rintro a b ha hb; cases ha; cases hb; have q1 := LE_11.out; have q2 := LX_10.out; simp only at q1 q2 ⊢; omega))
                clear o_ g_ e_
                refine hK.out _ _ C12.out (fun hHeld => ?_)
                clear hK K hHeld
                try simp only [Act.put, List.setIfInBounds_toArray, List.set_cons_zero, List.set_cons_succ]
                refine wpAnyH_ready (rs := [10]) (by kernel_rfl) (by simp) ?_
                refine AllReadyH.cons rfl (fun K hK => ?_) AllReadyH.nil
                replace hK := Lib.hid hK
                refine step_appK (R := textTy) rfl (.tmp 48) (.tmp 53) rfl rfl (A := A_12) (B := some ⟨u0.heap.size, 0, none⟩) (n := out.length) (m := 1) (c := c_12) (d := 1) (xs := [] ++ out.take out.length) (ys := [x]) O_12.out LL1.out rfl RX_12.out N2.out ?_
                intro A_13 c_13 u13 o_ g_ e_
                have O_13 := Lib.hid o_
                have FA_13 := Lib.hid (fresh_row (A := A_12) FA_12.out C12.out e_)
                have C13 := Lib.hid (C12.out.grown g_ (row_fresh (A := A_12) FA_12.out))
                clear o_ g_ e_
                refine hK.out _ _ C13.out (fun hHeld => ?_)
                clear hK K hHeld
                try simp only [Act.put, List.setIfInBounds_toArray, List.set_cons_zero, List.set_cons_succ]
                refine wpAnyH_ready (rs := [14]) (by kernel_rfl) (by simp) ?_
                refine AllReadyH.cons rfl (fun K hK => ?_) AllReadyH.nil
                replace hK := Lib.hid hK
                refine step_appK (R := textTy) rfl (.tmp 54) (.tmp 57) rfl rfl (A := A_13) (B := some ⟨g2, 0, none⟩) (n := (out.length + 1)) (m := 0) (c := c_13) (d := 0) (xs := [] ++ out.take out.length ++ [x]) (ys := out.drop out.length) O_13.out LL2.out rfl (HB.out _ C13.out) N3.out ?_
                intro A_14 c_14 u14 o_ g_ e_
                have O_14 := Lib.hid o_
                have FA_14 := Lib.hid (fresh_row (A := A_13) FA_13.out C13.out e_)
                have C14 := Lib.hid (C13.out.grown g_ (row_fresh (A := A_13) FA_13.out))
                clear o_ g_ e_
                refine hK.out _ _ C14.out (fun hHeld => ?_)
                clear hK K hHeld
                try simp only [Act.put, List.setIfInBounds_toArray, List.set_cons_zero, List.set_cons_succ]
                refine step_yes 15 3 ?_ C14.out rfl rfl (by kernel_rfl) (by kernel_rfl) (by kernel_rfl) (fun _ _ _ h => h) (by rfl) ?_ ?_
                rotate_left
                · (intro w hSw; (try dsimp only at hSw); go_simp; try with_reducible rfl)
                try simp only [Act.put, List.setIfInBounds_toArray, List.set_cons_zero, List.set_cons_succ]
                refine wpAnyH_done (by kernel_rfl) ?_ _
                skip
                go_wp2
                go_round
                case rel =>
                  have HG := HI.out.2.2.trans (CK2.out.trans C14.out)
                  refine ⟨i + 1, A_14, c_14, by omega, by go_num, ?_, Lib.hid ?_⟩
                  · rw [HF.out]
                    congr 1
                    simp only [List.length_append, List.length_take, List.length_cons, List.length_drop]; omega
                  · rw [HF.out]
                    have o4 := O_14.out
                    simp only [List.nil_append, List.append_assoc, List.singleton_append] at o4
                    exact ⟨o4, fun a ha => Nat.le_trans (HI.out.2.2.trans CK2.out).size (FA_14.out a ha), HG⟩
                case measure => simp [RowKit.intOf]; omega
            · have b1 : ¬ out.length = d := by omega
              have b3 : ¬ d = out.length := by omega
              have b4 : (out.length : Int) ≤ (d : Int) := by omega
              go_upto_region 6 with fail
              refine wp_region_held_drew (S := fun w' => Chg [] wr w') (by kernel_rfl) (Chg.refl [] wr).drew (fun hHeld => ?_)
              refine step_yes 0 12 ?_ (by assumption) rfl rfl (by kernel_rfl) (by kernel_rfl) (by kernel_rfl) (fun _ _ _ h => h) (by rfl) ?_ ?_
              rotate_left
              · (intro w hSw; (try dsimp only at hSw); go_simp; try with_reducible rfl)
              try simp only [Act.put, List.setIfInBounds_toArray, List.set_cons_zero, List.set_cons_succ]
              refine step_yes 1 13 ?_ (by assumption) rfl rfl (by kernel_rfl) (by kernel_rfl) (by kernel_rfl) (fun _ _ _ h => h) (by rfl) ?_ ?_
              rotate_left
              · (intro w hSw; (try dsimp only at hSw); go_simp; try with_reducible rfl)
              try simp only [Act.put, List.setIfInBounds_toArray, List.set_cons_zero, List.set_cons_succ]
              refine step_yes 2 14 ?_ (by assumption) rfl rfl (by kernel_rfl) (by kernel_rfl) (by kernel_rfl) (fun _ _ _ h => h) (by rfl) ?_ ?_
              rotate_left
              · (intro w hSw; (try dsimp only at hSw); go_simp; try with_reducible rfl)
              try simp only [Act.put, List.setIfInBounds_toArray, List.set_cons_zero, List.set_cons_succ]
              refine step_yes 3 15 ?_ (by assumption) rfl rfl (by kernel_rfl) (by kernel_rfl) (by kernel_rfl) (fun _ _ _ h => h) (by rfl) ?_ ?_
              rotate_left
              · (intro w hSw; (try dsimp only at hSw); go_simp; try with_reducible rfl)
              try simp only [Act.put, List.setIfInBounds_toArray, List.set_cons_zero, List.set_cons_succ]
              refine step_yes 4 16 ?_ (by assumption) rfl rfl (by kernel_rfl) (by kernel_rfl) (by kernel_rfl) (fun _ _ _ h => h) (by rfl) ?_ ?_
              rotate_left
              · (intro w hSw; (try dsimp only at hSw); go_simp; try with_reducible rfl)
              try simp only [Act.put, List.setIfInBounds_toArray, List.set_cons_zero, List.set_cons_succ]
              refine step_no 5 17 (by assumption) rfl rfl (by kernel_rfl) (by kernel_rfl) (by kernel_rfl) (fun _ _ _ h => h) (by rfl) ?_
              try simp only [Act.put, List.setIfInBounds_toArray, List.set_cons_zero, List.set_cons_succ]
              refine step_no 6 18 (by assumption) rfl rfl (by kernel_rfl) (by kernel_rfl) (by kernel_rfl) (fun _ _ _ h => h) (by rfl) ?_
              try simp only [Act.put, List.setIfInBounds_toArray, List.set_cons_zero, List.set_cons_succ]
              refine step_no 7 19 (by assumption) rfl rfl (by kernel_rfl) (by kernel_rfl) (by kernel_rfl) (fun _ _ _ h => h) (by rfl) ?_
              try simp only [Act.put, List.setIfInBounds_toArray, List.set_cons_zero, List.set_cons_succ]
              refine step_no 8 20 (by assumption) rfl rfl (by kernel_rfl) (by kernel_rfl) (by kernel_rfl) (fun _ _ _ h => h) (by rfl) ?_
              try simp only [Act.put, List.setIfInBounds_toArray, List.set_cons_zero, List.set_cons_succ]
              refine step_no 9 21 (by assumption) rfl rfl (by kernel_rfl) (by kernel_rfl) (by kernel_rfl) (fun _ _ _ h => h) (by rfl) ?_
              try simp only [Act.put, List.setIfInBounds_toArray, List.set_cons_zero, List.set_cons_succ]
              refine step_no 10 22 (by assumption) rfl rfl (by kernel_rfl) (by kernel_rfl) (by kernel_rfl) (fun _ _ _ h => h) (by rfl) ?_
              try simp only [Act.put, List.setIfInBounds_toArray, List.set_cons_zero, List.set_cons_succ]
              refine step_no 11 23 (by assumption) rfl rfl (by kernel_rfl) (by kernel_rfl) (by kernel_rfl) (fun _ _ _ h => h) (by rfl) ?_
              try simp only [Act.put, List.setIfInBounds_toArray, List.set_cons_zero, List.set_cons_succ]
              refine step_no 12 24 (by assumption) rfl rfl (by kernel_rfl) (by kernel_rfl) (by kernel_rfl) (fun _ _ _ h => h) (by rfl) ?_
              try simp only [Act.put, List.setIfInBounds_toArray, List.set_cons_zero, List.set_cons_succ]
              refine step_no 13 25 (by assumption) rfl rfl (by kernel_rfl) (by kernel_rfl) (by kernel_rfl) (fun _ _ _ h => h) (by rfl) ?_
              try simp only [Act.put, List.setIfInBounds_toArray, List.set_cons_zero, List.set_cons_succ]
              refine step_yes 14 26 ?_ (by assumption) rfl rfl (by kernel_rfl) (by kernel_rfl) (by kernel_rfl) (fun _ _ _ h => h) (by rfl) ?_ ?_
              rotate_left
              · (intro w hSw; (try dsimp only at hSw); go_simp; try with_reducible rfl)
              try simp only [Act.put, List.setIfInBounds_toArray, List.set_cons_zero, List.set_cons_succ]
              refine wpAnyH_done (by kernel_rfl) ?_ _
              have K6 := Lib.hid hHeld
              clear hHeld
              generalize wr.drew = w8 at *
              go_upto_region 8 with fail
              refine wp_region_held_drew (S := fun w' => Chg [] w8 w') (by kernel_rfl) (Chg.refl [] w8).drew (fun hHeld => ?_)
              refine step_yes 0 29 ?_ (by assumption) rfl rfl (by kernel_rfl) (by kernel_rfl) (by kernel_rfl) (fun _ _ _ h => h) (by rfl) ?_ ?_
              rotate_left
              · (intro w hSw; (try dsimp only at hSw); go_simp; try with_reducible rfl)
              try simp only [Act.put, List.setIfInBounds_toArray, List.set_cons_zero, List.set_cons_succ]
              refine step_yes 1 30 ?_ (by assumption) rfl rfl (by kernel_rfl) (by kernel_rfl) (by kernel_rfl) (fun _ _ _ h => h) (by rfl) ?_ ?_
              rotate_left
              · (intro w hSw; (try dsimp only at hSw); go_simp; try with_reducible rfl)
              try simp only [Act.put, List.setIfInBounds_toArray, List.set_cons_zero, List.set_cons_succ]
              refine step_yes 2 31 ?_ (by assumption) rfl rfl (by kernel_rfl) (by kernel_rfl) (by kernel_rfl) (fun _ _ _ h => h) (by rfl) ?_ ?_
              rotate_left
              · (intro w hSw; (try dsimp only at hSw); go_simp; try with_reducible rfl)
              try simp only [Act.put, List.setIfInBounds_toArray, List.set_cons_zero, List.set_cons_succ]
              refine step_yes 3 32 ?_ (by assumption) rfl rfl (by kernel_rfl) (by kernel_rfl) (by kernel_rfl) (fun _ _ _ h => h) (by rfl) ?_ ?_
              rotate_left
              · (intro w hSw; (try dsimp only at hSw); go_simp; try with_reducible rfl)
              try simp only [Act.put, List.setIfInBounds_toArray, List.set_cons_zero, List.set_cons_succ]
              refine step_yes 4 33 ?_ (by assumption) rfl rfl (by kernel_rfl) (by kernel_rfl) (by kernel_rfl) (fun _ _ _ h => h) (by rfl) ?_ ?_
              rotate_left
              · (intro w hSw; (try dsimp only at hSw); go_simp; try with_reducible rfl)
              try simp only [Act.put, List.setIfInBounds_toArray, List.set_cons_zero, List.set_cons_succ]
              refine step_no 5 34 (by assumption) rfl rfl (by kernel_rfl) (by kernel_rfl) (by kernel_rfl) (fun _ _ _ h => h) (by rfl) ?_
              try simp only [Act.put, List.setIfInBounds_toArray, List.set_cons_zero, List.set_cons_succ]
              refine step_no 6 35 (by assumption) rfl rfl (by kernel_rfl) (by kernel_rfl) (by kernel_rfl) (fun _ _ _ h => h) (by rfl) ?_
              try simp only [Act.put, List.setIfInBounds_toArray, List.set_cons_zero, List.set_cons_succ]
              refine step_no 7 36 (by assumption) rfl rfl (by kernel_rfl) (by kernel_rfl) (by kernel_rfl) (fun _ _ _ h => h) (by rfl) ?_
              try simp only [Act.put, List.setIfInBounds_toArray, List.set_cons_zero, List.set_cons_succ]
              refine step_no 8 37 (by assumption) rfl rfl (by kernel_rfl) (by kernel_rfl) (by kernel_rfl) (fun _ _ _ h => h) (by rfl) ?_
              try simp only [Act.put, List.setIfInBounds_toArray, List.set_cons_zero, List.set_cons_succ]
              refine step_no 9 38 (by assumption) rfl rfl (by kernel_rfl) (by kernel_rfl) (by kernel_rfl) (fun _ _ _ h => h) (by rfl) ?_
              try simp only [Act.put, List.setIfInBounds_toArray, List.set_cons_zero, List.set_cons_succ]
              refine step_no 10 39 (by assumption) rfl rfl (by kernel_rfl) (by kernel_rfl) (by kernel_rfl) (fun _ _ _ h => h) (by rfl) ?_
              try simp only [Act.put, List.setIfInBounds_toArray, List.set_cons_zero, List.set_cons_succ]
              refine step_no 11 40 (by assumption) rfl rfl (by kernel_rfl) (by kernel_rfl) (by kernel_rfl) (fun _ _ _ h => h) (by rfl) ?_
              try simp only [Act.put, List.setIfInBounds_toArray, List.set_cons_zero, List.set_cons_succ]
              refine step_no 12 41 (by assumption) rfl rfl (by kernel_rfl) (by kernel_rfl) (by kernel_rfl) (fun _ _ _ h => h) (by rfl) ?_
              try simp only [Act.put, List.setIfInBounds_toArray, List.set_cons_zero, List.set_cons_succ]
              refine step_no 13 42 (by assumption) rfl rfl (by kernel_rfl) (by kernel_rfl) (by kernel_rfl) (fun _ _ _ h => h) (by rfl) ?_
              try simp only [Act.put, List.setIfInBounds_toArray, List.set_cons_zero, List.set_cons_succ]
              refine step_yes 14 43 ?_ (by assumption) rfl rfl (by kernel_rfl) (by kernel_rfl) (by kernel_rfl) (fun _ _ _ h => h) (by rfl) ?_ ?_
              rotate_left
              · (intro w hSw; (try dsimp only at hSw); go_simp; try with_reducible rfl)
              try simp only [Act.put, List.setIfInBounds_toArray, List.set_cons_zero, List.set_cons_succ]
              refine wpAnyH_done (by kernel_rfl) ?_ _
              have CK2 := Lib.hid (HJ.out.1.trans (K6.out.trans hHeld))
              clear hHeld
              generalize w8.drew = w2 at *
              go_upto_region 9 with fail
              have HA := Lib.hid (show ∀ w', Chg [] w2 w' → RdK textTy w' (some ⟨g2, 0, none⟩) out.length (out.take out.length) from fun w' hc => by
                have := ((HI.out.1.take out.length).reads.chg (CK2.out.trans hc) (by simp))
                rwa [List.length_take, Nat.min_eq_left (by omega)] at this)
              have HB := Lib.hid (show ∀ w', Chg [] w2 w' → RdK textTy w' (some ⟨g2, out.length, none⟩) 0 (out.drop out.length) from fun w' hc => by rw [List.drop_of_length_le (Nat.le_refl _)]; exact RdK.nil w' _)
              have HX := Lib.hid (fun (w' : World) (hc : Chg [] w2 w') => HXC.out w' (CK2.out.trans hc))
              have LL1 := Lib.hid (show ([] ++ out.take out.length).length = out.length by simp [List.length_take] <;> omega)
              have LL2 := Lib.hid (show ([] ++ out.take out.length ++ [x]).length = out.length + 1 by simp [List.length_take] <;> omega)
              have N1 := Lib.hid (show (0 + out.length) * 400 ≤ 140737488355327 by omega)
              have N2 := Lib.hid (show (out.length + 1) * 400 ≤ 140737488355327 by omega)
              have N3 := Lib.hid (show (out.length + 1 + (0)) * 400 ≤ 140737488355327 by omega)
              refine wp_region_held_drew (S := fun w' => Chg [] w2 w') (by kernel_rfl) (Chg.refl [] w2).drew (fun hHeld => ?_)
              generalize w2.drew = u0 at hHeld ⊢
              refine step_yes 1 45 ?_ (by assumption) rfl rfl (by kernel_rfl) (by kernel_rfl) (by kernel_rfl) (fun _ _ _ h => h) (by rfl) ?_ ?_
              rotate_left
              · (intro w hSw; (try dsimp only at hSw); go_simp; try with_reducible rfl)
              try simp only [Act.put, List.setIfInBounds_toArray, List.set_cons_zero, List.set_cons_succ]
              refine step_yes 2 46 ?_ (by assumption) rfl rfl (by kernel_rfl) (by kernel_rfl) (by kernel_rfl) (fun _ _ _ h => h) (by rfl) ?_ ?_
              rotate_left
              · (intro w hSw; (try dsimp only at hSw); go_simp; try with_reducible rfl)
              try simp only [Act.put, List.setIfInBounds_toArray, List.set_cons_zero, List.set_cons_succ]
              refine step_yes 3 47 ?_ (by assumption) rfl rfl (by kernel_rfl) (by kernel_rfl) (by kernel_rfl) (fun _ _ _ h => h) (by rfl) ?_ ?_
              rotate_left
              · (intro w hSw; (try dsimp only at hSw); go_simp; try with_reducible rfl)
              try simp only [Act.put, List.setIfInBounds_toArray, List.set_cons_zero, List.set_cons_succ]
              refine step_yes 5 49 ?_ (by assumption) rfl rfl (by kernel_rfl) (by kernel_rfl) (by kernel_rfl) (fun _ _ _ h => h) (by rfl) ?_ ?_
              rotate_left
              · (intro w hSw; (try dsimp only at hSw); go_simp; try with_reducible rfl)
              try simp only [Act.put, List.setIfInBounds_toArray, List.set_cons_zero, List.set_cons_succ]
              refine step_yes 6 50 ?_ (by assumption) rfl rfl (by kernel_rfl) (by kernel_rfl) (by kernel_rfl) (fun _ _ _ h => h) (by rfl) ?_ ?_
              rotate_left
              · (intro w hSw; (try dsimp only at hSw); go_simp; try with_reducible rfl)
              try simp only [Act.put, List.setIfInBounds_toArray, List.set_cons_zero, List.set_cons_succ]
              refine step_yes 7 51 ?_ (by assumption) rfl rfl (by kernel_rfl) (by kernel_rfl) (by kernel_rfl) (fun _ _ _ h => h) (by rfl) ?_ ?_
              rotate_left
              · (intro w hSw; (try dsimp only at hSw); go_simp; try with_reducible rfl)
              try simp only [Act.put, List.setIfInBounds_toArray, List.set_cons_zero, List.set_cons_succ]
              refine step_yes 8 52 ?_ (by assumption) rfl rfl (by kernel_rfl) (by kernel_rfl) (by kernel_rfl) (fun _ _ _ h => h) (by rfl) ?_ ?_
              rotate_left
              · (intro w hSw; (try dsimp only at hSw); have q := HX.out _ hSw; go_simp; try with_reducible rfl)
              try simp only [Act.put, List.setIfInBounds_toArray, List.set_cons_zero, List.set_cons_succ]
              refine step_yes 11 55 ?_ (by assumption) rfl rfl (by kernel_rfl) (by kernel_rfl) (by kernel_rfl) (fun _ _ _ h => h) (by rfl) ?_ ?_
              rotate_left
              · (intro w hSw; (try dsimp only at hSw); go_simp; try with_reducible rfl)
              try simp only [Act.put, List.setIfInBounds_toArray, List.set_cons_zero, List.set_cons_succ]
              refine step_yes 12 56 ?_ (by assumption) rfl rfl (by kernel_rfl) (by kernel_rfl) (by kernel_rfl) (fun _ _ _ h => h) (by rfl) ?_ ?_
              rotate_left
              · (intro w hSw; (try dsimp only at hSw); go_simp; try with_reducible rfl)
              try simp only [Act.put, List.setIfInBounds_toArray, List.set_cons_zero, List.set_cons_succ]
              refine step_yes 13 57 ?_ (by assumption) rfl rfl (by kernel_rfl) (by kernel_rfl) (by kernel_rfl) (fun _ _ _ h => h) (by rfl) ?_ ?_
              rotate_left
              · (intro w hSw; (try dsimp only at hSw); go_simp; try with_reducible rfl)
              try simp only [Act.put, List.setIfInBounds_toArray, List.set_cons_zero, List.set_cons_succ]
              have C0 := Lib.hid hHeld
              clear hHeld
              refine wpAnyH_ready (rs := [0, 9]) (by kernel_rfl) (by simp) ?_
              refine AllReadyH.cons rfl (fun K hK => ?_) (AllReadyH.cons rfl (fun K hK => ?_) AllReadyH.nil)
              · skip
                replace hK := Lib.hid hK
                obtain ⟨u1, hw, cc, bb⟩ := news1 u0 (.cells #[] 9)
                go_simp
                rw [← hw]
                have C1 := Lib.hid (C0.out.trans cc)
                have OE_1 := Lib.hid (own_empty bb)
                have FE_1 := Lib.hid (C0.out.size)
                have LE_1 := Lib.hid (lt_of_heap bb)
                clear hw cc bb
                refine hK.out _ _ C1.out (fun hHeld => ?_)
                clear hK K hHeld
                try simp only [Act.put, List.setIfInBounds_toArray, List.set_cons_zero, List.set_cons_succ]
                refine wpAnyH_ready (rs := [4, 9]) (by kernel_rfl) (by simp) ?_
                refine AllReadyH.cons rfl (fun K hK => ?_) (AllReadyH.cons rfl (fun K hK => ?_) AllReadyH.nil)
                · skip
                  replace hK := Lib.hid hK
                  refine step_appK (R := textTy) rfl (.tmp 44) (.tmp 47) rfl rfl (A := some ⟨u0.heap.size, 0, none⟩) (B := some ⟨g2, 0, none⟩) (n := 0) (m := out.length) (c := 0) (d := d) (xs := []) (ys := out.take out.length) OE_1.out rfl rfl (HA.out _ C1.out) N1.out ?_
                  rw [Nat.zero_add]
                  intro A_2 c_2 u2 o_ g_ e_
                  have O_2 := Lib.hid o_
                  have FA_2 := Lib.hid (fresh_row (A := some ⟨u0.heap.size, 0, none⟩) (by rintro a ha; cases ha; exact FE_1.out) C1.out e_)
                  have C2 := Lib.hid (C1.out.grown g_ (row_fresh (A := some ⟨u0.heap.size, 0, none⟩) (by rintro a ha; cases ha; exact FE_1.out)))
                  clear o_ g_ e_
                  refine hK.out _ _ C2.out (fun hHeld => ?_)
                  clear hK K hHeld
                  try simp only [Act.put, List.setIfInBounds_toArray, List.set_cons_zero, List.set_cons_succ]
                  refine wpAnyH_ready (rs := [9]) (by kernel_rfl) (by simp) ?_
                  refine AllReadyH.cons rfl (fun K hK => ?_) AllReadyH.nil
                  replace hK := Lib.hid hK
                  obtain ⟨u3, hw, cc, bb⟩ := news1 u2 (.cells #[.string (strOf x)] 9)
                  go_simp
                  rw [← hw]
                  have C3 := Lib.hid (C2.out.trans cc)
                  have O1_3 := Lib.hid (O_2.out.chg cc (by simp))
                  have RX_3 := Lib.hid (rd_text1 bb)
                  have LX_3 := Lib.hid (lt_of_heap bb)
                  clear hw cc bb
                  refine hK.out _ _ C3.out (fun hHeld => ?_)
                  clear hK K hHeld
                  try simp only [Act.put, List.setIfInBounds_toArray, List.set_cons_zero, List.set_cons_succ]
                  refine wpAnyH_ready (rs := [10]) (by kernel_rfl) (by simp) ?_
                  refine AllReadyH.cons rfl (fun K hK => ?_) AllReadyH.nil
                  replace hK := Lib.hid hK
                  refine step_appK (R := textTy) rfl (.tmp 48) (.tmp 53) rfl rfl (A := A_2) (B := some ⟨u2.heap.size, 0, none⟩) (n := out.length) (m := 1) (c := c_2) (d := 1) (xs := [] ++ out.take out.length) (ys := [x]) O1_3.out LL1.out rfl RX_3.out N2.out ?_
                  intro A_4 c_4 u4 o_ g_ e_
                  have O_4 := Lib.hid o_
                  have FA_4 := Lib.hid (fresh_row (A := A_2) FA_2.out C3.out e_)
                  have C4 := Lib.hid (C3.out.grown g_ (row_fresh (A := A_2) FA_2.out))
                  clear o_ g_ e_
                  refine hK.out _ _ C4.out (fun hHeld => ?_)
                  clear hK K hHeld
                  try simp only [Act.put, List.setIfInBounds_toArray, List.set_cons_zero, List.set_cons_succ]
                  refine wpAnyH_ready (rs := [14]) (by kernel_rfl) (by simp) ?_
                  refine AllReadyH.cons rfl (fun K hK => ?_) AllReadyH.nil
                  replace hK := Lib.hid hK
                  refine step_appK (R := textTy) rfl (.tmp 54) (.tmp 57) rfl rfl (A := A_4) (B := some ⟨g2, out.length, none⟩) (n := (out.length + 1)) (m := 0) (c := c_4) (d := d - out.length) (xs := [] ++ out.take out.length ++ [x]) (ys := out.drop out.length) O_4.out LL2.out rfl (HB.out _ C4.out) N3.out ?_
                  intro A_5 c_5 u5 o_ g_ e_
                  have O_5 := Lib.hid o_
                  have FA_5 := Lib.hid (fresh_row (A := A_4) FA_4.out C4.out e_)
                  have C5 := Lib.hid (C4.out.grown g_ (row_fresh (A := A_4) FA_4.out))
                  clear o_ g_ e_
                  refine hK.out _ _ C5.out (fun hHeld => ?_)
                  clear hK K hHeld
                  try simp only [Act.put, List.setIfInBounds_toArray, List.set_cons_zero, List.set_cons_succ]
                  refine step_yes 15 3 ?_ C5.out rfl rfl (by kernel_rfl) (by kernel_rfl) (by kernel_rfl) (fun _ _ _ h => h) (by rfl) ?_ ?_
                  rotate_left
                  · (intro w hSw; (try dsimp only at hSw); go_simp; try with_reducible rfl)
                  try simp only [Act.put, List.setIfInBounds_toArray, List.set_cons_zero, List.set_cons_succ]
                  refine wpAnyH_done (by kernel_rfl) ?_ _
                  skip
                  go_wp2
                  go_round
                  case rel =>
                    have HG := HI.out.2.2.trans (CK2.out.trans C5.out)
                    refine ⟨i + 1, A_5, c_5, by omega, by go_num, ?_, Lib.hid ?_⟩
                    · rw [HF.out]
                      congr 1
                      simp only [List.length_append, List.length_take, List.length_cons, List.length_drop]; omega
                    · rw [HF.out]
                      have o4 := O_5.out
                      simp only [List.nil_append, List.append_assoc, List.singleton_append] at o4
                      exact ⟨o4, fun a ha => Nat.le_trans (HI.out.2.2.trans CK2.out).size (FA_5.out a ha), HG⟩
                  case measure => simp [RowKit.intOf]; omega
                · skip
                  replace hK := Lib.hid hK
                  obtain ⟨u6, hw, cc, bb⟩ := news1 u1 (.cells #[.string (strOf x)] 9)
                  go_simp
                  rw [← hw]
                  have C6 := Lib.hid (C1.out.trans cc)
                  have OE_6 := Lib.hid (OE_1.out.chg cc (by simp))
                  have RX_6 := Lib.hid (rd_text1 bb)
                  have LX_6 := Lib.hid (lt_of_heap bb)
                  clear hw cc bb
                  refine hK.out _ _ C6.out (fun hHeld => ?_)
                  clear hK K hHeld
                  try simp only [Act.put, List.setIfInBounds_toArray, List.set_cons_zero, List.set_cons_succ]
                  refine wpAnyH_ready (rs := [4]) (by kernel_rfl) (by simp) ?_
                  refine AllReadyH.cons rfl (fun K hK => ?_) AllReadyH.nil
                  replace hK := Lib.hid hK
                  refine step_appK (R := textTy) rfl (.tmp 44) (.tmp 47) rfl rfl (A := some ⟨u0.heap.size, 0, none⟩) (B := some ⟨g2, 0, none⟩) (n := 0) (m := out.length) (c := 0) (d := d) (xs := []) (ys := out.take out.length) OE_6.out rfl rfl (HA.out _ C6.out) N1.out ?_
                  rw [Nat.zero_add]
                  intro A_7 c_7 u7 o_ g_ e_
                  have O_7 := Lib.hid o_
                  have FA_7 := Lib.hid (fresh_row (A := some ⟨u0.heap.size, 0, none⟩) (by rintro a ha; cases ha; exact FE_1.out) C6.out e_)
                  have C7 := Lib.hid (C6.out.grown g_ (row_fresh (A := some ⟨u0.heap.size, 0, none⟩) (by rintro a ha; cases ha; exact FE_1.out)))
                  have RX_7 := Lib.hid (RX_6.out.grown (A := some ⟨u0.heap.size, 0, none⟩) g_ (by rintro a b ha hb; cases ha; cases hb; have q1 := LE_1.out; have q2 := LX_6.out; simp only at q1 q2 ⊢; omega))
                  clear o_ g_ e_
                  refine hK.out _ _ C7.out (fun hHeld => ?_)
                  clear hK K hHeld
                  try simp only [Act.put, List.setIfInBounds_toArray, List.set_cons_zero, List.set_cons_succ]
                  refine wpAnyH_ready (rs := [10]) (by kernel_rfl) (by simp) ?_
                  refine AllReadyH.cons rfl (fun K hK => ?_) AllReadyH.nil
                  replace hK := Lib.hid hK
                  refine step_appK (R := textTy) rfl (.tmp 48) (.tmp 53) rfl rfl (A := A_7) (B := some ⟨u1.heap.size, 0, none⟩) (n := out.length) (m := 1) (c := c_7) (d := 1) (xs := [] ++ out.take out.length) (ys := [x]) O_7.out LL1.out rfl RX_7.out N2.out ?_
                  intro A_8 c_8 u8 o_ g_ e_
                  have O_8 := Lib.hid o_
                  have FA_8 := Lib.hid (fresh_row (A := A_7) FA_7.out C7.out e_)
                  have C8 := Lib.hid (C7.out.grown g_ (row_fresh (A := A_7) FA_7.out))
                  clear o_ g_ e_
                  refine hK.out _ _ C8.out (fun hHeld => ?_)
                  clear hK K hHeld
                  try simp only [Act.put, List.setIfInBounds_toArray, List.set_cons_zero, List.set_cons_succ]
                  refine wpAnyH_ready (rs := [14]) (by kernel_rfl) (by simp) ?_
                  refine AllReadyH.cons rfl (fun K hK => ?_) AllReadyH.nil
                  replace hK := Lib.hid hK
                  refine step_appK (R := textTy) rfl (.tmp 54) (.tmp 57) rfl rfl (A := A_8) (B := some ⟨g2, out.length, none⟩) (n := (out.length + 1)) (m := 0) (c := c_8) (d := d - out.length) (xs := [] ++ out.take out.length ++ [x]) (ys := out.drop out.length) O_8.out LL2.out rfl (HB.out _ C8.out) N3.out ?_
                  intro A_9 c_9 u9 o_ g_ e_
                  have O_9 := Lib.hid o_
                  have FA_9 := Lib.hid (fresh_row (A := A_8) FA_8.out C8.out e_)
                  have C9 := Lib.hid (C8.out.grown g_ (row_fresh (A := A_8) FA_8.out))
                  clear o_ g_ e_
                  refine hK.out _ _ C9.out (fun hHeld => ?_)
                  clear hK K hHeld
                  try simp only [Act.put, List.setIfInBounds_toArray, List.set_cons_zero, List.set_cons_succ]
                  refine step_yes 15 3 ?_ C9.out rfl rfl (by kernel_rfl) (by kernel_rfl) (by kernel_rfl) (fun _ _ _ h => h) (by rfl) ?_ ?_
                  rotate_left
                  · (intro w hSw; (try dsimp only at hSw); go_simp; try with_reducible rfl)
                  try simp only [Act.put, List.setIfInBounds_toArray, List.set_cons_zero, List.set_cons_succ]
                  refine wpAnyH_done (by kernel_rfl) ?_ _
                  skip
                  go_wp2
                  go_round
                  case rel =>
                    have HG := HI.out.2.2.trans (CK2.out.trans C9.out)
                    refine ⟨i + 1, A_9, c_9, by omega, by go_num, ?_, Lib.hid ?_⟩
                    · rw [HF.out]
                      congr 1
                      simp only [List.length_append, List.length_take, List.length_cons, List.length_drop]; omega
                    · rw [HF.out]
                      have o4 := O_9.out
                      simp only [List.nil_append, List.append_assoc, List.singleton_append] at o4
                      exact ⟨o4, fun a ha => Nat.le_trans (HI.out.2.2.trans CK2.out).size (FA_9.out a ha), HG⟩
                  case measure => simp [RowKit.intOf]; omega
              · skip
                replace hK := Lib.hid hK
                obtain ⟨u10, hw, cc, bb⟩ := news1 u0 (.cells #[.string (strOf x)] 9)
                go_simp
                rw [← hw]
                have C10 := Lib.hid (C0.out.trans cc)
                have RX_10 := Lib.hid (rd_text1 bb)
                have LX_10 := Lib.hid (lt_of_heap bb)
                clear hw cc bb
                refine hK.out _ _ C10.out (fun hHeld => ?_)
                clear hK K hHeld
                try simp only [Act.put, List.setIfInBounds_toArray, List.set_cons_zero, List.set_cons_succ]
                refine wpAnyH_ready (rs := [0]) (by kernel_rfl) (by simp) ?_
                refine AllReadyH.cons rfl (fun K hK => ?_) AllReadyH.nil
                replace hK := Lib.hid hK
                obtain ⟨u11, hw, cc, bb⟩ := news1 u10 (.cells #[] 9)
                go_simp
                rw [← hw]
                have C11 := Lib.hid (C10.out.trans cc)
                have RX_11 := Lib.hid (RX_10.out.chg cc (by simp))
                have OE_11 := Lib.hid (own_empty bb)
                have FE_11 := Lib.hid (C10.out.size)
                have LE_11 := Lib.hid (lt_of_heap bb)
                clear hw cc bb
                refine hK.out _ _ C11.out (fun hHeld => ?_)
                clear hK K hHeld
                try simp only [Act.put, List.setIfInBounds_toArray, List.set_cons_zero, List.set_cons_succ]
                refine wpAnyH_ready (rs := [4]) (by kernel_rfl) (by simp) ?_
                refine AllReadyH.cons rfl (fun K hK => ?_) AllReadyH.nil
                replace hK := Lib.hid hK
                refine step_appK (R := textTy) rfl (.tmp 44) (.tmp 47) rfl rfl (A := some ⟨u10.heap.size, 0, none⟩) (B := some ⟨g2, 0, none⟩) (n := 0) (m := out.length) (c := 0) (d := d) (xs := []) (ys := out.take out.length) OE_11.out rfl rfl (HA.out _ C11.out) N1.out ?_
                rw [Nat.zero_add]
                intro A_12 c_12 u12 o_ g_ e_
                have O_12 := Lib.hid o_
                have FA_12 := Lib.hid (fresh_row (A := some ⟨u10.heap.size, 0, none⟩) (by rintro a ha; cases ha; exact FE_11.out) C11.out e_)
                have C12 := Lib.hid (C11.out.grown g_ (row_fresh (A := some ⟨u10.heap.size, 0, none⟩) (by rintro a ha; cases ha; exact FE_11.out)))
                have RX_12 := Lib.hid (RX_11.out.grown (A := some ⟨u10.heap.size, 0, none⟩) g_ (by rintro a b ha hb; cases ha; cases hb; have q1 := LE_11.out; have q2 := LX_10.out; simp only at q1 q2 ⊢; omega))
                clear o_ g_ e_
                refine hK.out _ _ C12.out (fun hHeld => ?_)
                clear hK K hHeld
                try simp only [Act.put, List.setIfInBounds_toArray, List.set_cons_zero, List.set_cons_succ]
                refine wpAnyH_ready (rs := [10]) (by kernel_rfl) (by simp) ?_
                refine AllReadyH.cons rfl (fun K hK => ?_) AllReadyH.nil
                replace hK := Lib.hid hK
                refine step_appK (R := textTy) rfl (.tmp 48) (.tmp 53) rfl rfl (A := A_12) (B := some ⟨u0.heap.size, 0, none⟩) (n := out.length) (m := 1) (c := c_12) (d := 1) (xs := [] ++ out.take out.length) (ys := [x]) O_12.out LL1.out rfl RX_12.out N2.out ?_
                intro A_13 c_13 u13 o_ g_ e_
                have O_13 := Lib.hid o_
                have FA_13 := Lib.hid (fresh_row (A := A_12) FA_12.out C12.out e_)
                have C13 := Lib.hid (C12.out.grown g_ (row_fresh (A := A_12) FA_12.out))
                clear o_ g_ e_
                refine hK.out _ _ C13.out (fun hHeld => ?_)
                clear hK K hHeld
                try simp only [Act.put, List.setIfInBounds_toArray, List.set_cons_zero, List.set_cons_succ]
                refine wpAnyH_ready (rs := [14]) (by kernel_rfl) (by simp) ?_
                refine AllReadyH.cons rfl (fun K hK => ?_) AllReadyH.nil
                replace hK := Lib.hid hK
                refine step_appK (R := textTy) rfl (.tmp 54) (.tmp 57) rfl rfl (A := A_13) (B := some ⟨g2, out.length, none⟩) (n := (out.length + 1)) (m := 0) (c := c_13) (d := d - out.length) (xs := [] ++ out.take out.length ++ [x]) (ys := out.drop out.length) O_13.out LL2.out rfl (HB.out _ C13.out) N3.out ?_
                intro A_14 c_14 u14 o_ g_ e_
                have O_14 := Lib.hid o_
                have FA_14 := Lib.hid (fresh_row (A := A_13) FA_13.out C13.out e_)
                have C14 := Lib.hid (C13.out.grown g_ (row_fresh (A := A_13) FA_13.out))
                clear o_ g_ e_
                refine hK.out _ _ C14.out (fun hHeld => ?_)
                clear hK K hHeld
                try simp only [Act.put, List.setIfInBounds_toArray, List.set_cons_zero, List.set_cons_succ]
                refine step_yes 15 3 ?_ C14.out rfl rfl (by kernel_rfl) (by kernel_rfl) (by kernel_rfl) (fun _ _ _ h => h) (by rfl) ?_ ?_
                rotate_left
                · (intro w hSw; (try dsimp only at hSw); go_simp; try with_reducible rfl)
                try simp only [Act.put, List.setIfInBounds_toArray, List.set_cons_zero, List.set_cons_succ]
                refine wpAnyH_done (by kernel_rfl) ?_ _
                skip
                go_wp2
                go_round
                case rel =>
                  have HG := HI.out.2.2.trans (CK2.out.trans C14.out)
                  refine ⟨i + 1, A_14, c_14, by omega, by go_num, ?_, Lib.hid ?_⟩
                  · rw [HF.out]
                    congr 1
                    simp only [List.length_append, List.length_take, List.length_cons, List.length_drop]; omega
                  · rw [HF.out]
                    have o4 := O_14.out
                    simp only [List.nil_append, List.append_assoc, List.singleton_append] at o4
                    exact ⟨o4, fun a ha => Nat.le_trans (HI.out.2.2.trans CK2.out).size (FA_14.out a ha), HG⟩
                case measure => simp [RowKit.intOf]; omega
    · obtain rfl : i = xs.length := by omega
      have hfin := HI.out
      rw [List.take_length] at hfin ⊢
      have HF := Lib.hid hfin
      clear hfin
      go_wp2
      go_ret
      exact ⟨B, d, rfl, HF.out⟩
end
end Go.Proofs.YtimdfpejgaidhaaGreatDoor
