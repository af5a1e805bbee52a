/- A row of structs: one cell of one of them is stored. No program here. past.push onto the last span. -/
import Derived.Test.YtomgjogkkoigbaaGreatDoorZsta
import Derived.Test.YtomgjogkkoigbaaGreatDoorZstj
import Derived.Deep.Cut
import Derived.Deep.RegionHeld3
set_option linter.unusedSimpArgs false
set_option linter.unusedVariables false
namespace Go.Proofs.YtomgjogkkoigbaaGreatDoor
section
variable {α : Type} {R : RowTy α}
theorem flat_set (full : List α) (j i : Nat) (x x' : α) (v : Value) (hx : full[j]? = some x) (hi : i < R.k) (he : ∀ q, q < R.k → (R.enc x')[q]? = if q = i then some v else (R.enc x)[q]?) :
  (R.flat full).set (j * R.k + i) v = R.flat (full.set j x') := by
 have hj := (List.getElem?_eq_some_iff.1 hx).1
 have hb : j * R.k + i < full.length * R.k := by
  have : (j + 1) * R.k ≤ full.length * R.k := Nat.mul_le_mul_right _ hj
  rw [Nat.add_mul, Nat.one_mul] at this
  omega
 refine R.flat_ext _ _ (by rw [List.length_set, R.flat_len, List.length_set]) (fun q p y hy hp => ?_)
 rw [List.getElem?_set] at hy
 rw [List.getElem?_set, R.flat_len]
 by_cases e : j = q
 ·
  subst e
  rw [if_pos rfl, if_pos hj] at hy
  cases hy
  rw [he p hp]
  by_cases e2 : p = i
  ·
   subst e2
   rw [if_pos rfl, if_pos hb, if_pos rfl]
  ·
   rw [if_neg (by omega), if_neg e2, R.flat_at full j p x hx hp]
 ·
  rw [if_neg e] at hy
  rw [if_neg, R.flat_at full q p y hy hp]
  intro e3
  rcases Nat.lt_or_gt_of_ne e with h | h
  ·
   have : (j + 1) * R.k ≤ q * R.k := Nat.mul_le_mul_right _ h
   rw [Nat.add_mul, Nat.one_mul] at this
   omega
  ·
   have : (q + 1) * R.k ≤ j * R.k := Nat.mul_le_mul_right _ h
   rw [Nat.add_mul, Nat.one_mul] at this
   omega
theorem OwnK.setc {w : World} {g c : Nat} {xs : List α} (h : OwnK R w (some ⟨g, 0, none⟩) c xs) (j i : Nat) (x x' : α) (v : Value) (hx : xs[j]? = some x) (hi : i < R.k) (he : ∀ q, q < R.k → (R.enc x')[q]? = if q = i then some v else (R.enc x)[q]?) :
  OwnK R (w.setCell ⟨g, j * R.k + i, none⟩ v) (some ⟨g, 0, none⟩) c (xs.set j x') := by
 have hj := (List.getElem?_eq_some_iff.1 hx).1
 rcases h with ⟨h, _⟩ | ⟨g', full, e, hg, h1, h2, h3, h4⟩
 ·
  cases h
 ·
  cases e
  have hx' : full[j]? = some x := by
   rw [← h4, List.getElem?_take, if_pos hj] at hx
   exact hx
  refine OwnK.of (full := full.set j x') ?_ (by simpa using h3) h2 (by simpa using h1) ?_
  ·
   have := heap_setCell_same w g (j * R.k + i) _ _ v hg
   rw [this, List.setIfInBounds_toArray, flat_set full j i x x' v hx' hi he]
  ·
   rw [List.length_set, List.take_set, h4]
end
section
open Go.RowKit Go.Lib


theorem spanSetTo (y : Int × Int × Int) (v : Int) : ∀ q, q < spanTy.k → (spanTy.enc (y.1, y.2.1, v))[q]? = if q = 2 then some (.int .i64 v) else (spanTy.enc y)[q]?
 | 0, _ => rfl
 | 1, _ => rfl
 | 2, _ => rfl
 | q + 3, h => absurd h (by have : spanTy.k = 3 := rfl; omega)
theorem own_free {w : World} {g c : Nat} {xs : List (Int × Int × Int)} (h : OwnK spanTy w (some ⟨g, 0, none⟩) c xs) (j : Nat) : w.frozen? ⟨g, j, none⟩ = false := by
 rcases h with ⟨h, _⟩ | ⟨g', full, e, hg, _⟩
 ·
  cases h
 ·
  cases e; exact free_of hg j
set_option maxHeartbeats 4000000 in
set_option maxRecDepth 100000 in
theorem push_touches (w : World) (c : Nat) (n f t : Int) (A : Option Addr) (xs : List (Int × Int × Int)) (y : Int × Int × Int) (h : OwnK spanTy w A c xs) (hx : 0 < xs.length) (hn : xs.length ≤ 100000) (hy : xs[xs.length - 1]? = some y) (y1 : -2147483648 ≤ y.2.2) (y2 : y.2.2 ≤ 2147483647) (ha : ¬ ApartS y.1 y.2.2 n f) : Calls Tryz.prog 94 #[.slice A xs.length c, .agg #[.int .i64 n, .int .i64 f, .int .i64 t]] w fun e w' => e = .returned (.slice A xs.length c) ∧ OwnK spanTy w' A c (xs.set (xs.length - 1) (y.1, y.2.1, max y.2.2 t)) ∧ ∀ S : List Nat, (∀ a, A = some a → a.block ∈ S) → Chg S w w' := by

 have HO := Lib.hid h
 obtain ⟨g, o, eA, _⟩ := h.reads.line hx
 have eo : o = 0 := by
  rcases h.shape with ⟨h1, _⟩ | ⟨g', h1, _⟩
  ·
   rw [h1] at eA; cases eA
  ·
   rw [h1] at eA; cases eA; rfl
 subst eo; subst eA
 have EY := Lib.hid hy
 have HG := Lib.hid (h.lt ⟨g, 0, none⟩ rfl)
 clear h hy
 have C := Lib.hid (Chg.refl [] w)
 have hA : decide (ApartS y.1 y.2.2 n f) = false := decide_eq_false ha
 have LA := Lib.hid (fun w => apart_any w y.1 y.2.1 y.2.2 n f t y1 y2)
 rw [hA] at LA
 clear hA ha
 have k1 : (0 : Int) < (xs.length : Int) := by omega
 have k2 : ((xs.length : Int) - 1) = ((xs.length - 1 : Nat) : Int) := by omega
 have k3 : ((xs.length - 1 : Nat) : Int) < (xs.length : Int) := by omega
 have k4 : (0 : Int) ≤ ((xs.length - 1 : Nat) : Int) := by omega
 have k5 : IntKind.i64.wrap ((xs.length - 1 : Nat) : Int) = ((xs.length - 1 : Nat) : Int) := IntWalk.i64_in _ (by omega)
 have k6 : decide (0 < xs.length) = true := by simp; omega
 have k7 : decide ((0 : Int) < (xs.length : Int)) = true := by simp; omega
 obtain ⟨w1, hw1, cw1, b_B0⟩ := news1 w (.cells #[.int .i64 n, .int .i64 f, .int .i64 t] 72)
 have Ww1 := Lib.hid hw1
 have l_B0 := lt_of_heap b_B0
 replace C := Lib.hid (C.out.trans cw1)
 replace HO := Lib.hid (HO.out.chg cw1 (by simp))
 have B0 := Lib.hid (b_B0)
 clear hw1 cw1 b_B0
 go_enter Tryz.func94, Tryz.ntmps94
 go_upto_region 3 with fail
 rw [← Ww1.out]
 generalize w.heap.size = b0 at *
 clear Ww1
 have HY0 := Lib.hid (fun (w' : World) (hc : Chg [] w1 w') => spanCells (HO.out.reads.chg hc (by simp)) EY.out)
 have hc0 : ∀ w', Chg [] w1 w' → w'.cell? ⟨b0, 0, none⟩ = some (.int .i64 n) ∧ w'.cell? ⟨b0, 1, none⟩ = some (.int .i64 f) ∧ w'.cell? ⟨b0, 2, none⟩ = some (.int .i64 t) := by
  intro w' hc
  have b1 := hc.at_ B0.out (by simp)
  exact ⟨cell_of b1 0, cell_of b1 1, cell_of b1 2⟩
 have HC0 := Lib.hid hc0
 clear hc0
 refine wp_region_held_drew (S := fun w' => Chg [] w1 w') (by kernel_rfl) (Chg.refl [] w1).drew (fun hHeld => ?_)
 refine sy 0 14 rfl rfl ?_; try simp only [Act.put, sA, s0, s1]
 refine sy 1 15 rfl rfl ?_; try simp only [Act.put, sA, s0, s1]
 refine sy 2 16 rfl rfl ?_ (hy := by (intro w hSw; (try dsimp only at hSw); have hq := HY0.out _ hSw; obtain ⟨q0, q1, q2⟩ := hq; simp only [Nat.zero_add] at q0 q1 q2; go_simp; try with_reducible rfl))
 try simp only [Act.put, sA, s0, s1]
 refine sy 3 17 rfl rfl ?_ (hy := by (intro w hSw; (try dsimp only at hSw); have hq := HC0.out _ hSw; obtain ⟨q0, q1, q2⟩ := hq; go_simp; try with_reducible rfl))
 try simp only [Act.put, sA, s0, s1]
 refine wpAnyH_ready (rs := [4]) (by kernel_rfl) (by simp) ?_; refine AllReadyH.cons rfl (fun K hK => ?_) AllReadyH.nil; replace hK := Lib.hid hK; go_simp
 refine (LA.out _).mono ?_
 rintro e w9 ⟨rfl, hc⟩
 have C9 := Lib.hid (hHeld.trans hc)
 clear hc hHeld
 refine hK.out _ _ C9.out (fun hHeld => ?_)
 clear hK K; try simp only [Act.put, sA, s0, s1]
 refine sy 5 19 rfl rfl ?_; try simp only [Act.put, sA, s0, s1]
 refine wpAnyH_done (by kernel_rfl) ?_ _
 replace B0 := Lib.hid (C9.out.at_ B0.out (by simp))
 replace HO := Lib.hid (HO.out.chg C9.out (by simp))
 replace C := Lib.hid (C.out.trans C9.out)
 clear HY0 HC0 C9 hHeld
 go_upto_region 4 with fail
 have zt := cell_of B0.out 2
 simp only [List.getElem?_toArray, List.getElem?_cons_succ, List.getElem?_cons_zero] at zt
 refine wp_region_held_drew (S := fun w' => w'.cell? ⟨b0, 2, none⟩ = some (.int .i64 t)) (by kernel_rfl) zt (fun hHeld => ?_)
 have CD := Lib.hid (Chg.refl [] w9).drew
 have ZT : w9.drew.cell? ⟨b0, 2, none⟩ = some (.int .i64 t) := CD.out.cell zt (by simp)
 replace HO := Lib.hid (HO.out.chg CD.out (by simp))
 replace C := Lib.hid (C.out.trans CD.out)
 have BG : Hid (b0 ≠ g) := Lib.hid (by have := HG.out; simp only at this; omega)
 have SPC := Lib.hid (spanCells HO.out.reads EY.out)
 have FR := Lib.hid (own_free HO.out ((xs.length - 1) * 3 + 2))
 clear CD zt B0
 generalize w9.drew = wd at *
 refine sy 0 20 rfl rfl ?_; try simp only [Act.put, sA, s0, s1]
 refine sy 1 21 rfl rfl ?_; try simp only [Act.put, sA, s0, s1]
 refine sy 2 22 rfl rfl ?_; try simp only [Act.put, sA, s0, s1]
 refine sy 3 23 rfl rfl ?_; try simp only [Act.put, sA, s0, s1]
 refine sy 5 25 rfl rfl ?_; try simp only [Act.put, sA, s0, s1]
 refine sy 6 26 rfl rfl ?_ (hy := by (intro w hSw; (try dsimp only at hSw); have q := hSw; go_simp; try with_reducible rfl))
 try simp only [Act.put, sA, s0, s1]
 refine wpAnyH_ready (rs := [4]) (by kernel_rfl) (by simp) ?_; refine AllReadyH.cons rfl (fun K hK => ?_) AllReadyH.nil; replace hK := Lib.hid hK
 have z := SPC.out.2.2
 rw [Nat.zero_add] at z
 go_simp; clear z hHeld
 refine hK.out _ _ ZT (fun hHeld => ?_)
 clear hK K; try simp only [Act.put, sA, s0, s1]
 refine sy 7 27 rfl rfl ?_; try simp only [Act.put, sA, s0, s1]
 refine sy 8 28 rfl rfl ?_; try simp only [Act.put, sA, s0, s1]
 refine sy 9 29 rfl rfl ?_; try simp only [Act.put, sA, s0, s1]
 refine wpAnyH_ready (rs := [10]) (by kernel_rfl) (by simp) ?_; refine AllReadyH.cons rfl (fun K hK => ?_) AllReadyH.nil; replace hK := Lib.hid hK
 have z := SPC.out.2.2
 rw [Nat.zero_add] at z
 have fz := FR.out
 skip; go_simp; clear z fz hHeld
 refine hK.out _ _ (((Chg.refl [g] wd).setCell (p := ⟨g, (xs.length - 1) * 3 + 2, none⟩) (.inl (by simp)) _).cell ZT (by simp; exact BG.out)) (fun hHeld => ?_)
 clear hK K; try simp only [Act.put, sA, s0, s1]
 refine wpAnyH_done (by kernel_rfl) ?_ _
 have HX : Hid (∀ v : Int, v = max y.2.2 t → OwnK spanTy (wd.setCell ⟨g, (xs.length - 1) * 3 + 2, none⟩ (.int .i64 v)) (some ⟨g, 0, none⟩) c (xs.set (xs.length - 1) (y.1, y.2.1, max y.2.2 t)) ∧ ∀ S : List Nat, g ∈ S → Chg S w (wd.setCell ⟨g, (xs.length - 1) * 3 + 2, none⟩ (.int .i64 v))) := Lib.hid (fun v hv => by
  subst hv
  exact ⟨HO.out.setc (xs.length - 1) 2 y (y.1, y.2.1, max y.2.2 t) (.int .i64 (max y.2.2 t)) EY.out (by decide) (spanSetTo y _), fun S hS => (C.out.mono (by simp)).trans ((Chg.refl [g] wd).setCell (p := ⟨g, (xs.length - 1) * 3 + 2, none⟩) (.inl (by simp)) (.int .i64 (max y.2.2 t)) |>.mono (fun i hi => by simp at hi; subst hi; exact .inl hS))⟩)
 clear hHeld; go_wp2
 all_goals
  go_ret
  exact ⟨rfl, (HX.out _ (by omega)).1, fun S hS => (HX.out _ (by omega)).2 S (by simpa using hS)⟩
end
end Go.Proofs.YtomgjogkkoigbaaGreatDoor
