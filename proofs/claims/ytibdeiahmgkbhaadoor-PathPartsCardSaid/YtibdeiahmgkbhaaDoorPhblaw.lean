/- PathBack, walked. -/
import Derived.Test.YtibdeiahmgkbhaaDoorPhbmath
import Derived.Test.YtibdeiahmgkbhaaDoorPhlong
import Derived.Test.YtibdeiahmgkbhaaDoorPholaw
import Derived.Test.YtibdeiahmgkbhaaDoorTxargs
import Derived.Deep.Cut
namespace Go.Proofs.YtibdeiahmgkbhaaDoor
open Go.RowKit
set_option linter.unusedSimpArgs false
set_option linter.unusedVariables false


theorem unc_short {xs : List (List UInt8)} (h : longT xs = false) : (unc xs).length ≤ 10000 ∧ xs.length ≤ 30 ∧ ∀ x ∈ xs, x.length ≤ 10000000 := by
  unfold longT at h
  rw [Bool.or_eq_false_iff] at h
  have h1 : xs.length ≤ 30 := by have := h.2; simp at this; omega
  have h2 : ∀ x ∈ xs, x.length ≤ 200 := fun x hx => by
    have := List.any_eq_false.1 h.1 x hx
    simp at this
    omega
  have h3 := unc_len 200 xs h2
  have h4 : xs.length * (200 + 1) ≤ 30 * (200 + 1) := Nat.mul_le_mul_right _ h1
  exact ⟨by omega, h1, fun x hx => by have := h2 x hx; omega⟩
theorem last_at {l : List (List UInt8)} (h : l ≠ []) : l[l.length - 1]? = some (l.getLast h) := by
  rw [List.getLast_eq_getElem]
  exact List.getElem?_eq_getElem _
theorem rd_row {w : World} {g : Nat} {xs : List (List UInt8)} (h : w.heap[g]? = some (.cells (xs.map tv).toArray 9 (0, 0))) (hl : xs.length ≤ 1000000) : RdK textTy w (some ⟨g, 0, none⟩) xs.length xs :=
  (OwnK.of (R := textTy) (full := xs) (xs := xs) (by rw [flat_text]; exact h) (Nat.le_refl _) (by unfold maxLen; omega) rfl (List.take_length)).reads

set_option maxRecDepth 100000 in
set_option maxHeartbeats 4000000 in
theorem pathback_a (w : World) (s : List UInt8) (A : Option Addr) (c : Nat) (xs : List (List UInt8)) (h : RdK textTy w A xs.length xs) (hc : xs.length ≤ c) (hn : xs.length ≤ 140737488351232)
    (hs : 200 < s.length) : Calls Tryd.prog 7 #[.string (strOf s), .slice A xs.length c] w fun e w' => e = .returned (.bool true) ∧ Chg [] w w' := by
  have KN := Lib.hid (fun W => pathKnownR_run W)
  have HX := Lib.hid h
  have sz := strOf_size s
  have i1 : (200 : Int) < (s.length : Int) := by omega
  have i2 : (200 : Int) < ((strOf s).size : Int) := by omega
  clear hs h sz
  go_enter Tryd.func7, Tryd.ntmps7
  go_wp2_with fail
  refine (KN.out _).mono ?_
  rintro e w1 ⟨rfl, h1⟩
  have K1 := Lib.hid h1
  clear h1
  go_wp2
  go_ret
  exact ⟨rfl, K1.out⟩

set_option maxRecDepth 100000 in
set_option maxHeartbeats 4000000 in
theorem pathback_b (w : World) (s : List UInt8) (A : Option Addr) (c : Nat) (xs : List (List UInt8)) (h : RdK textTy w A xs.length xs) (hc : xs.length ≤ c) (hn : xs.length ≤ 140737488351232)
    (hs : s.length ≤ 200) (hl : longT xs = true) : Calls Tryd.prog 7 #[.string (strOf s), .slice A xs.length c] w fun e w' => e = .returned (.bool true) ∧ Chg [] w w' := by
  have KN := Lib.hid (fun W => pathKnownR_run W)
  have HX := Lib.hid h
  have sz := strOf_size s
  have i1 : ¬ ((200 : Int) < (s.length : Int)) := by omega
  have i2 : ¬ ((200 : Int) < ((strOf s).size : Int)) := by omega
  have LG := Lib.hid (fun W h => hl ▸ long_any W A c xs h hn)
  clear hs h sz hl
  go_enter Tryd.func7, Tryd.ntmps7
  go_wp2_with fail
  refine (KN.out _).mono ?_
  rintro e w1 ⟨rfl, h1⟩
  have K1 := Lib.hid h1
  clear h1
  have X1 := Lib.hid (HX.out.chg K1.out (by simp))
  go_wp2_with fail
  refine (LG.out _ X1.out).mono ?_
  rintro e w2 ⟨rfl, rfl⟩
  go_wp2
  go_ret
  exact ⟨rfl, K1.out⟩

set_option maxRecDepth 100000 in
set_option maxHeartbeats 4000000 in
theorem pathback_ft (w : World) (s : List UInt8) (A : Option Addr) (c : Nat) (xs : List (List UInt8)) (h : RdK textTy w A xs.length xs) (hc : xs.length ≤ c) (hn : xs.length ≤ 140737488351232)
    (hs : s.length ≤ 200) (hl : longT xs = false) (ho : okP s = false) (hq : partsL xs = true) : Calls Tryd.prog 7 #[.string (strOf s), .slice A xs.length c] w fun e w' => e = .returned (.bool true) ∧ Chg [] w w' := by
  have KN := Lib.hid (fun W => pathKnownR_run W)
  have HX := Lib.hid h
  have sz := strOf_size s
  have i1 : ¬ ((200 : Int) < (s.length : Int)) := by omega
  have i2 : ¬ ((200 : Int) < ((strOf s).size : Int)) := by omega
  have LG := Lib.hid (fun W h => hl ▸ long_any W A c xs h hn)
  obtain ⟨u1, u2, u3⟩ := unc_short hl
  have CK := Lib.hid (phcheck_p s false ho (by omega))
  have PC := parts_cut hq
  have JX := Lib.hid (fun w h => phjoin_t w A c xs h hc (by omega) u3 hq)
  have SX := Lib.hid (fun w => phsplit_yes w (unc xs) (by omega) PC.2)
  rw [PC.1] at SX
  have ST := Lib.hid (fun (w : World) (g : Nat) (h1 : w.heap[g]? = some (.cells (xs.map tv).toArray 9 (0, 0))) (h2 : RdK textTy w A xs.length xs) => sametexts_any w (some ⟨g, 0, none⟩) A xs.length c xs xs (rd_row h1 (by omega)) h2 (by omega) (by omega))
  have hxx : (xs == xs) = true := by simp
  rw [hxx] at ST
  clear PC hxx
  have SP := Lib.hid (fun w => phsplit_no w s (by omega) ho)
  clear hs hl ho hq h sz u1 u2 u3 hn hc
  go_enter Tryd.func7, Tryd.ntmps7
  go_wp2_with fail
  refine (KN.out _).mono ?_
  rintro e w1 ⟨rfl, h1⟩
  have K1 := Lib.hid h1
  clear h1
  have X1 := Lib.hid (HX.out.chg K1.out (by simp))
  go_wp2_with fail
  refine (LG.out _ X1.out).mono ?_
  rintro e w2 ⟨rfl, rfl⟩
  go_wp2_with fail
  refine (SP.out _).mono ?_
  rintro e w3 ⟨rfl, h3⟩
  have K3 := Lib.hid (K1.out.trans h3)
  clear h3
  go_wp2_with fail
  refine (CK.out _).mono ?_
  rintro e w4 ⟨rfl, h4⟩
  have K4 := Lib.hid (K3.out.trans (below_chg2 h4))
  clear h4
  have X7 := Lib.hid (HX.out.chg K4.out (by simp))
  go_wp2_with fail
  refine (JX.out _ X7.out).mono ?_
  rintro e w8 ⟨rfl, h8⟩
  have K8 := Lib.hid (K4.out.trans (below_chg2 h8))
  clear h8
  go_wp2_with fail
  refine (SX.out _).mono ?_
  rintro e w10 ⟨g2, hg, rfl, b3, h3⟩
  have K10 := Lib.hid (K8.out.trans h3)
  have Y10 := Lib.hid b3
  have X10 := Lib.hid (HX.out.chg K10.out (by simp))
  clear h3 b3 hg
  go_wp2_with fail
  refine (ST.out _ _ Y10.out X10.out).mono ?_
  rintro e w11 ⟨rfl, h11⟩
  have K11 := Lib.hid (K10.out.trans h11)
  clear h11
  go_wp2
  go_ret
  exact ⟨rfl, K11.out⟩

set_option maxRecDepth 100000 in
set_option maxHeartbeats 4000000 in
theorem pathback_ff (w : World) (s : List UInt8) (A : Option Addr) (c : Nat) (xs : List (List UInt8)) (h : RdK textTy w A xs.length xs) (hc : xs.length ≤ c) (hn : xs.length ≤ 140737488351232)
    (hs : s.length ≤ 200) (hl : longT xs = false) (ho : okP s = false) (hq : partsL xs = false) : Calls Tryd.prog 7 #[.string (strOf s), .slice A xs.length c] w fun e w' => e = .returned (.bool true) ∧ Chg [] w w' := by
  have KN := Lib.hid (fun W => pathKnownR_run W)
  have HX := Lib.hid h
  have sz := strOf_size s
  have i1 : ¬ ((200 : Int) < (s.length : Int)) := by omega
  have i2 : ¬ ((200 : Int) < ((strOf s).size : Int)) := by omega
  have LG := Lib.hid (fun W h => hl ▸ long_any W A c xs h hn)
  obtain ⟨u1, u2, u3⟩ := unc_short hl
  have CK := Lib.hid (phcheck_p s false ho (by omega))
  have JX := Lib.hid (fun w h => phjoin_f w A c xs h (by omega) hq)
  have SP := Lib.hid (fun w => phsplit_no w s (by omega) ho)
  clear hs hl ho hq h sz u1 u2 u3 hn hc
  go_enter Tryd.func7, Tryd.ntmps7
  go_wp2_with fail
  refine (KN.out _).mono ?_
  rintro e w1 ⟨rfl, h1⟩
  have K1 := Lib.hid h1
  clear h1
  have X1 := Lib.hid (HX.out.chg K1.out (by simp))
  go_wp2_with fail
  refine (LG.out _ X1.out).mono ?_
  rintro e w2 ⟨rfl, rfl⟩
  go_wp2_with fail
  refine (SP.out _).mono ?_
  rintro e w3 ⟨rfl, h3⟩
  have K3 := Lib.hid (K1.out.trans h3)
  clear h3
  go_wp2_with fail
  refine (CK.out _).mono ?_
  rintro e w4 ⟨rfl, h4⟩
  have K4 := Lib.hid (K3.out.trans (below_chg2 h4))
  clear h4
  have X7 := Lib.hid (HX.out.chg K4.out (by simp))
  go_wp2_with fail
  refine (JX.out _ X7.out).mono ?_
  rintro e w8 ⟨rfl, h8⟩
  have K8 := Lib.hid (K4.out.trans (below_chg2 h8))
  clear h8
  go_wp2
  go_ret
  exact ⟨rfl, K8.out⟩

set_option maxRecDepth 100000 in
set_option maxHeartbeats 4000000 in
theorem pathback_ttt (w : World) (s : List UInt8) (A : Option Addr) (c : Nat) (xs : List (List UInt8)) (h : RdK textTy w A xs.length xs) (hc : xs.length ≤ c) (hn : xs.length ≤ 140737488351232)
    (hs : s.length ≤ 200) (hl : longT xs = false) (ho : okP s = true) (hp : hasParent s = true) (hq : partsL xs = true) : Calls Tryd.prog 7 #[.string (strOf s), .slice A xs.length c] w fun e w' => e = .returned (.bool true) ∧ Chg [] w w' := by
  have KN := Lib.hid (fun W => pathKnownR_run W)
  have HX := Lib.hid h
  have sz := strOf_size s
  have i1 : ¬ ((200 : Int) < (s.length : Int)) := by omega
  have i2 : ¬ ((200 : Int) < ((strOf s).size : Int)) := by omega
  have LG := Lib.hid (fun W h => hl ▸ long_any W A c xs h hn)
  obtain ⟨u1, u2, u3⟩ := unc_short hl
  have CK := Lib.hid (phcheck_p s true ho (by omega))
  have PC := parts_cut hq
  have JX := Lib.hid (fun w h => phjoin_t w A c xs h hc (by omega) u3 hq)
  have SX := Lib.hid (fun w => phsplit_yes w (unc xs) (by omega) PC.2)
  rw [PC.1] at SX
  have ST := Lib.hid (fun (w : World) (g : Nat) (h1 : w.heap[g]? = some (.cells (xs.map tv).toArray 9 (0, 0))) (h2 : RdK textTy w A xs.length xs) => sametexts_any w (some ⟨g, 0, none⟩) A xs.length c xs xs (rd_row h1 (by omega)) h2 (by omega) (by omega))
  have hxx : (xs == xs) = true := by simp
  rw [hxx] at ST
  clear PC hxx
  have OP := ok_parts ho
  have hl6 : (cutL s).length ≤ 6 := by have := OP.1; unfold partsL at this; simp at this; omega
  have hne := cutA_ne [] s
  have hb : baseL s = (cutL s).getLast hne := by unfold baseL; rw [if_pos ho]
  have LA := last_at (l := cutL s) hne
  rw [show (cutL s).getLast hne = baseL s from hb.symm] at LA
  have hcl : ∀ x ∈ cutL s, x.length ≤ 10000000 := fun x hx => by have := cutA_short s [] x hx; simp at this; omega
  have SP := Lib.hid (fun w => phsplit_yes w s (by omega) ho)
  have JN := Lib.hid (fun (w : World) (g : Nat) (h1 : w.heap[g]? = some (.cells ((cutL s).map tv).toArray 9 (0, 0))) => phjoin_t w (some ⟨g, 0, none⟩) (cutL s).length (cutL s) (rd_row h1 (by omega)) (Nat.le_refl _) (by omega) hcl OP.1)
  rw [OP.2] at JN
  have PA := Lib.hid (fun w => hp ▸ phparent_any w s (by omega))
  have BA := Lib.hid (fun w => phbase_any w s (by omega))
  have hm1 : 1 ≤ (cutL s).length := List.length_pos_iff.2 hne
  have hm2 : decide ((1 : Int) < ((cutL s).length : Int)) = true := by
    unfold hasParent at hp
    rw [ho, Bool.true_and] at hp
    rw [← hp, Bool.eq_iff_iff, decide_eq_true_eq, decide_eq_true_eq]
    omega
  obtain ⟨PB, UN⟩ := parent_base hp
  have pl : (parentL s).length ≤ 200 := by have := congrArg List.length PB; simp at this; omega
  have U1 := Lib.hid (fun w => UN ▸ phunder_any w (parentL s) s (by omega) (by omega))
  have U2 := Lib.hid (fun w => under_not UN ▸ phunder_any w s (parentL s) (by omega) (by omega))
  have ea : strOf (parentL s) ++ (⟨#[47]⟩ : ByteArray) = strOf (parentL s ++ [47]) := by apply ByteArray.ext; simp [strOf]
  have eb : strOf (parentL s ++ [47]) ++ strOf (baseL s) = strOf s := by conv => { rhs; rw [← PB] }; apply ByteArray.ext; simp [strOf]
  have bl : (baseL s).length ≤ 200 := by have := congrArg List.length PB; simp at this; omega
  clear PB UN
  generalize parentL s = pp at *
  generalize baseL s = bb at *
  clear OP hb hcl
  generalize cutL s = ys at *
  have s1 := strOf_size pp
  have s2 := strOf_size bb
  have s3 := strOf_size (pp ++ [47])
  have s4 : (pp ++ [47]).length = pp.length + 1 := by simp
  have n1 : ¬ 9223372036854775807 < pp.length + 1 := by omega
  have n2 : ¬ 9223372036854775807 < pp.length + 1 + bb.length := by omega
  have m1 : ¬ ((ys.length : Int) < 1) := by omega
  have m2 : ((ys.length : Int) - 1) = ((ys.length - 1 : Nat) : Int) := by omega
  have m3 : IntKind.i64.wrap ((ys.length - 1 : Nat) : Int) = ((ys.length - 1 : Nat) : Int) := IntWalk.i64_in _ (by omega)
  have m4 : ((ys.length - 1 : Nat) : Int) < (ys.length : Int) := by omega
  have m5 : (0 : Int) ≤ ((ys.length - 1 : Nat) : Int) := by omega
  have m6 : decide ((ys.length : Int) < 1) = false := by simp; omega
  have m7 : decide (1 < ys.length) = true := by rw [← hm2, Bool.eq_iff_iff, decide_eq_true_eq, decide_eq_true_eq]; omega
  have m8 : ¬ ys.length = 0 := by omega
  have LL := Lib.hid LA
  clear LA hne hp
  clear hs hl ho hq h sz u1 u2 u3 hn hc
  go_enter Tryd.func7, Tryd.ntmps7
  go_wp2_with fail
  refine (KN.out _).mono ?_
  rintro e w1 ⟨rfl, h1⟩
  have K1 := Lib.hid h1
  clear h1
  have X1 := Lib.hid (HX.out.chg K1.out (by simp))
  go_wp2_with fail
  refine (LG.out _ X1.out).mono ?_
  rintro e w2 ⟨rfl, rfl⟩
  go_wp2_with fail
  refine (SP.out _).mono ?_
  rintro e w3 ⟨g, hg, rfl, b3, h3⟩
  have K3 := Lib.hid (K1.out.trans h3)
  have G3 := Lib.hid b3
  clear h3 b3 hg
  go_wp2_with fail
  refine (CK.out _).mono ?_
  rintro e w4 ⟨rfl, h4⟩
  have K4 := Lib.hid (K3.out.trans (below_chg2 h4))
  have G4 := Lib.hid ((below_chg2 h4).at_ G3.out (by simp))
  clear h4
  go_wp2_with fail
  refine (JN.out _ _ G4.out).mono ?_
  rintro e w5 ⟨rfl, h5⟩
  have K5 := Lib.hid (K4.out.trans (below_chg2 h5))
  have G5 := Lib.hid ((below_chg2 h5).at_ G4.out (by simp))
  clear h5
  go_wp2_with fail
  refine (PA.out _).mono ?_
  rintro e w6 ⟨rfl, h6⟩
  have K6 := Lib.hid (K5.out.trans (below_chg2 h6))
  have G6 := Lib.hid ((below_chg2 h6).at_ G5.out (by simp))
  clear h6
  have HZ := Lib.hid (fun (w' : World) (hc : Chg [] w6 w') => (cell_of (hc.at_ G6.out (by simp)) (ys.length - 1)).trans (show ((ys.map tv).toArray)[ys.length - 1]? = some (.string (strOf bb)) by rw [List.getElem?_toArray, List.getElem?_map, LL.out]; rfl))
  go_upto_region 10 with fail
  refine wp_region_held_drew (S := fun w' => Chg [] w6 w') (by kernel_rfl) (Chg.refl [] w6).drew (fun hHeld => ?_)
  refine step_yes 0 55 ?_ (by assumption) rfl rfl (by kernel_rfl) (by kernel_rfl) (by kernel_rfl) (fun _ _ _ h => h) (by rfl) ?_ ?_
  rotate_left
  · (intro w hSw; (try dsimp only at hSw); go_simp; try with_reducible rfl)
  try simp only [Act.put, List.setIfInBounds_toArray, List.set_cons_zero, List.set_cons_succ]
  refine step_yes 1 56 ?_ (by assumption) rfl rfl (by kernel_rfl) (by kernel_rfl) (by kernel_rfl) (fun _ _ _ h => h) (by rfl) ?_ ?_
  rotate_left
  · (intro w hSw; (try dsimp only at hSw); go_simp; try with_reducible rfl)
  try simp only [Act.put, List.setIfInBounds_toArray, List.set_cons_zero, List.set_cons_succ]
  refine step_yes 2 57 ?_ (by assumption) rfl rfl (by kernel_rfl) (by kernel_rfl) (by kernel_rfl) (fun _ _ _ h => h) (by rfl) ?_ ?_
  rotate_left
  · (intro w hSw; (try dsimp only at hSw); go_simp; try with_reducible rfl)
  try simp only [Act.put, List.setIfInBounds_toArray, List.set_cons_zero, List.set_cons_succ]
  refine step_yes 3 58 ?_ (by assumption) rfl rfl (by kernel_rfl) (by kernel_rfl) (by kernel_rfl) (fun _ _ _ h => h) (by rfl) ?_ ?_
  rotate_left
  · (intro w hSw; (try dsimp only at hSw); go_simp; try with_reducible rfl)
  try simp only [Act.put, List.setIfInBounds_toArray, List.set_cons_zero, List.set_cons_succ]
  refine step_yes 4 59 ?_ (by assumption) rfl rfl (by kernel_rfl) (by kernel_rfl) (by kernel_rfl) (fun _ _ _ h => h) (by rfl) ?_ ?_
  rotate_left
  · (intro w hSw; (try dsimp only at hSw); go_simp; try with_reducible rfl)
  try simp only [Act.put, List.setIfInBounds_toArray, List.set_cons_zero, List.set_cons_succ]
  refine step_yes 5 60 ?_ (by assumption) rfl rfl (by kernel_rfl) (by kernel_rfl) (by kernel_rfl) (fun _ _ _ h => h) (by rfl) ?_ ?_
  rotate_left
  · (intro w hSw; (try dsimp only at hSw); go_simp; try with_reducible rfl)
  try simp only [Act.put, List.setIfInBounds_toArray, List.set_cons_zero, List.set_cons_succ]
  refine step_yes 6 61 ?_ (by assumption) rfl rfl (by kernel_rfl) (by kernel_rfl) (by kernel_rfl) (fun _ _ _ h => h) (by rfl) ?_ ?_
  rotate_left
  · (intro w hSw; (try dsimp only at hSw); go_simp; try with_reducible rfl)
  try simp only [Act.put, List.setIfInBounds_toArray, List.set_cons_zero, List.set_cons_succ]
  refine step_yes 7 62 ?_ (by assumption) rfl rfl (by kernel_rfl) (by kernel_rfl) (by kernel_rfl) (fun _ _ _ h => h) (by rfl) ?_ ?_
  rotate_left
  · (intro w hSw; (try dsimp only at hSw); go_simp; try with_reducible rfl)
  try simp only [Act.put, List.setIfInBounds_toArray, List.set_cons_zero, List.set_cons_succ]
  refine step_yes 8 63 ?_ (by assumption) rfl rfl (by kernel_rfl) (by kernel_rfl) (by kernel_rfl) (fun _ _ _ h => h) (by rfl) ?_ ?_
  rotate_left
  · (intro w hSw; (try dsimp only at hSw); go_simp; try with_reducible rfl)
  try simp only [Act.put, List.setIfInBounds_toArray, List.set_cons_zero, List.set_cons_succ]
  refine step_yes 9 64 ?_ (by assumption) rfl rfl (by kernel_rfl) (by kernel_rfl) (by kernel_rfl) (fun _ _ _ h => h) (by rfl) ?_ ?_
  rotate_left
  · (intro w hSw; (try dsimp only at hSw); go_simp; try with_reducible rfl)
  try simp only [Act.put, List.setIfInBounds_toArray, List.set_cons_zero, List.set_cons_succ]
  refine step_yes 10 65 ?_ (by assumption) rfl rfl (by kernel_rfl) (by kernel_rfl) (by kernel_rfl) (fun _ _ _ h => h) (by rfl) ?_ ?_
  rotate_left
  · (intro w hSw; (try dsimp only at hSw); go_simp; try with_reducible rfl)
  try simp only [Act.put, List.setIfInBounds_toArray, List.set_cons_zero, List.set_cons_succ]
  refine step_yes 11 66 ?_ (by assumption) rfl rfl (by kernel_rfl) (by kernel_rfl) (by kernel_rfl) (fun _ _ _ h => h) (by rfl) ?_ ?_
  rotate_left
  · (intro w hSw; (try dsimp only at hSw); go_simp; try with_reducible rfl)
  try simp only [Act.put, List.setIfInBounds_toArray, List.set_cons_zero, List.set_cons_succ]
  refine step_yes 12 67 ?_ (by assumption) rfl rfl (by kernel_rfl) (by kernel_rfl) (by kernel_rfl) (fun _ _ _ h => h) (by rfl) ?_ ?_
  rotate_left
  · (intro w hSw; (try dsimp only at hSw); go_simp; try with_reducible rfl)
  try simp only [Act.put, List.setIfInBounds_toArray, List.set_cons_zero, List.set_cons_succ]
  refine step_yes 13 68 ?_ (by assumption) rfl rfl (by kernel_rfl) (by kernel_rfl) (by kernel_rfl) (fun _ _ _ h => h) (by rfl) ?_ ?_
  rotate_left
  · (intro w hSw; (try dsimp only at hSw); go_simp; try with_reducible rfl)
  try simp only [Act.put, List.setIfInBounds_toArray, List.set_cons_zero, List.set_cons_succ]
  refine step_yes 14 69 ?_ (by assumption) rfl rfl (by kernel_rfl) (by kernel_rfl) (by kernel_rfl) (fun _ _ _ h => h) (by rfl) ?_ ?_
  rotate_left
  · (intro w hSw; (try dsimp only at hSw); go_simp; try with_reducible rfl)
  try simp only [Act.put, List.setIfInBounds_toArray, List.set_cons_zero, List.set_cons_succ]
  refine step_yes 15 70 ?_ (by assumption) rfl rfl (by kernel_rfl) (by kernel_rfl) (by kernel_rfl) (fun _ _ _ h => h) (by rfl) ?_ ?_
  rotate_left
  · (intro w hSw; (try dsimp only at hSw); go_simp; try with_reducible rfl)
  try simp only [Act.put, List.setIfInBounds_toArray, List.set_cons_zero, List.set_cons_succ]
  refine step_yes 16 71 ?_ (by assumption) rfl rfl (by kernel_rfl) (by kernel_rfl) (by kernel_rfl) (fun _ _ _ h => h) (by rfl) ?_ ?_
  rotate_left
  · (intro w hSw; (try dsimp only at hSw); go_simp; try with_reducible rfl)
  try simp only [Act.put, List.setIfInBounds_toArray, List.set_cons_zero, List.set_cons_succ]
  refine step_yes 17 72 ?_ (by assumption) rfl rfl (by kernel_rfl) (by kernel_rfl) (by kernel_rfl) (fun _ _ _ h => h) (by rfl) ?_ ?_
  rotate_left
  · (intro w hSw; (try dsimp only at hSw); go_simp; try with_reducible rfl)
  try simp only [Act.put, List.setIfInBounds_toArray, List.set_cons_zero, List.set_cons_succ]
  refine step_yes 18 73 ?_ (by assumption) rfl rfl (by kernel_rfl) (by kernel_rfl) (by kernel_rfl) (fun _ _ _ h => h) (by rfl) ?_ ?_
  rotate_left
  · (intro w hSw; (try dsimp only at hSw); have z := HZ.out _ hSw; go_simp; try with_reducible rfl)
  try simp only [Act.put, List.setIfInBounds_toArray, List.set_cons_zero, List.set_cons_succ]
  refine step_yes 19 74 ?_ (by assumption) rfl rfl (by kernel_rfl) (by kernel_rfl) (by kernel_rfl) (fun _ _ _ h => h) (by rfl) ?_ ?_
  rotate_left
  · (intro w hSw; (try dsimp only at hSw); go_simp; try with_reducible rfl)
  try simp only [Act.put, List.setIfInBounds_toArray, List.set_cons_zero, List.set_cons_succ]
  refine wpAnyH_ready (rs := [20]) (by kernel_rfl) (by simp) ?_
  refine AllReadyH.cons rfl (fun K hK => ?_) AllReadyH.nil
  replace hK := Lib.hid hK
  go_simp
  refine (BA.out _).mono ?_
  rintro e v1 ⟨rfl, hb⟩
  have C1 := Lib.hid (hHeld.trans (below_chg2 hb))
  clear hb hHeld
  refine hK.out _ _ C1.out (fun hHeld => ?_)
  clear hK K
  try simp only [Act.put, List.setIfInBounds_toArray, List.set_cons_zero, List.set_cons_succ]
  refine step_yes 21 76 ?_ (by assumption) rfl rfl (by kernel_rfl) (by kernel_rfl) (by kernel_rfl) (fun _ _ _ h => h) (by rfl) ?_ ?_
  rotate_left
  · (intro w hSw; (try dsimp only at hSw); go_simp; try with_reducible rfl)
  try simp only [Act.put, List.setIfInBounds_toArray, List.set_cons_zero, List.set_cons_succ]
  refine step_yes 22 77 ?_ (by assumption) rfl rfl (by kernel_rfl) (by kernel_rfl) (by kernel_rfl) (fun _ _ _ h => h) (by rfl) ?_ ?_
  rotate_left
  · (intro w hSw; (try dsimp only at hSw); go_simp; try with_reducible rfl)
  try simp only [Act.put, List.setIfInBounds_toArray, List.set_cons_zero, List.set_cons_succ]
  refine step_yes 23 78 ?_ (by assumption) rfl rfl (by kernel_rfl) (by kernel_rfl) (by kernel_rfl) (fun _ _ _ h => h) (by rfl) ?_ ?_
  rotate_left
  · (intro w hSw; (try dsimp only at hSw); go_simp; try with_reducible rfl)
  try simp only [Act.put, List.setIfInBounds_toArray, List.set_cons_zero, List.set_cons_succ]
  refine step_yes 24 79 ?_ (by assumption) rfl rfl (by kernel_rfl) (by kernel_rfl) (by kernel_rfl) (fun _ _ _ h => h) (by rfl) ?_ ?_
  rotate_left
  · (intro w hSw; (try dsimp only at hSw); go_simp; try with_reducible rfl)
  try simp only [Act.put, List.setIfInBounds_toArray, List.set_cons_zero, List.set_cons_succ]
  refine step_yes 25 80 ?_ (by assumption) rfl rfl (by kernel_rfl) (by kernel_rfl) (by kernel_rfl) (fun _ _ _ h => h) (by rfl) ?_ ?_
  rotate_left
  · (intro w hSw; (try dsimp only at hSw); go_simp; try with_reducible rfl)
  try simp only [Act.put, List.setIfInBounds_toArray, List.set_cons_zero, List.set_cons_succ]
  refine step_yes 26 81 ?_ (by assumption) rfl rfl (by kernel_rfl) (by kernel_rfl) (by kernel_rfl) (fun _ _ _ h => h) (by rfl) ?_ ?_
  rotate_left
  · (intro w hSw; (try dsimp only at hSw); go_simp; try with_reducible rfl)
  try simp only [Act.put, List.setIfInBounds_toArray, List.set_cons_zero, List.set_cons_succ]
  refine step_yes 27 82 ?_ (by assumption) rfl rfl (by kernel_rfl) (by kernel_rfl) (by kernel_rfl) (fun _ _ _ h => h) (by rfl) ?_ ?_
  rotate_left
  · (intro w hSw; (try dsimp only at hSw); go_simp; try with_reducible rfl)
  try simp only [Act.put, List.setIfInBounds_toArray, List.set_cons_zero, List.set_cons_succ]
  refine step_yes 28 83 ?_ (by assumption) rfl rfl (by kernel_rfl) (by kernel_rfl) (by kernel_rfl) (fun _ _ _ h => h) (by rfl) ?_ ?_
  rotate_left
  · (intro w hSw; (try dsimp only at hSw); go_simp; try with_reducible rfl)
  try simp only [Act.put, List.setIfInBounds_toArray, List.set_cons_zero, List.set_cons_succ]
  refine step_yes 29 84 ?_ (by assumption) rfl rfl (by kernel_rfl) (by kernel_rfl) (by kernel_rfl) (fun _ _ _ h => h) (by rfl) ?_ ?_
  rotate_left
  · (intro w hSw; (try dsimp only at hSw); go_simp; try with_reducible rfl)
  try simp only [Act.put, List.setIfInBounds_toArray, List.set_cons_zero, List.set_cons_succ]
  refine step_yes 30 85 ?_ (by assumption) rfl rfl (by kernel_rfl) (by kernel_rfl) (by kernel_rfl) (fun _ _ _ h => h) (by rfl) ?_ ?_
  rotate_left
  · (intro w hSw; (try dsimp only at hSw); go_simp; try with_reducible rfl)
  try simp only [Act.put, List.setIfInBounds_toArray, List.set_cons_zero, List.set_cons_succ]
  refine step_yes 31 86 ?_ (by assumption) rfl rfl (by kernel_rfl) (by kernel_rfl) (by kernel_rfl) (fun _ _ _ h => h) (by rfl) ?_ ?_
  rotate_left
  · (intro w hSw; (try dsimp only at hSw); go_simp; try with_reducible rfl)
  try simp only [Act.put, List.setIfInBounds_toArray, List.set_cons_zero, List.set_cons_succ]
  refine step_yes 32 87 ?_ (by assumption) rfl rfl (by kernel_rfl) (by kernel_rfl) (by kernel_rfl) (fun _ _ _ h => h) (by rfl) ?_ ?_
  rotate_left
  · (intro w hSw; (try dsimp only at hSw); go_simp; try with_reducible rfl)
  try simp only [Act.put, List.setIfInBounds_toArray, List.set_cons_zero, List.set_cons_succ]
  refine step_yes 33 88 ?_ (by assumption) rfl rfl (by kernel_rfl) (by kernel_rfl) (by kernel_rfl) (fun _ _ _ h => h) (by rfl) ?_ ?_
  rotate_left
  · (intro w hSw; (try dsimp only at hSw); go_simp; try with_reducible rfl)
  try simp only [Act.put, List.setIfInBounds_toArray, List.set_cons_zero, List.set_cons_succ]
  refine step_yes 34 89 ?_ (by assumption) rfl rfl (by kernel_rfl) (by kernel_rfl) (by kernel_rfl) (fun _ _ _ h => h) (by rfl) ?_ ?_
  rotate_left
  · (intro w hSw; (try dsimp only at hSw); go_simp; try with_reducible rfl)
  try simp only [Act.put, List.setIfInBounds_toArray, List.set_cons_zero, List.set_cons_succ]
  refine step_yes 35 90 ?_ (by assumption) rfl rfl (by kernel_rfl) (by kernel_rfl) (by kernel_rfl) (fun _ _ _ h => h) (by rfl) ?_ ?_
  rotate_left
  · (intro w hSw; (try dsimp only at hSw); go_simp; try with_reducible rfl)
  try simp only [Act.put, List.setIfInBounds_toArray, List.set_cons_zero, List.set_cons_succ]
  refine step_yes 38 93 ?_ (by assumption) rfl rfl (by kernel_rfl) (by kernel_rfl) (by kernel_rfl) (fun _ _ _ h => h) (by rfl) ?_ ?_
  rotate_left
  · (intro w hSw; (try dsimp only at hSw); go_simp; try with_reducible rfl)
  try simp only [Act.put, List.setIfInBounds_toArray, List.set_cons_zero, List.set_cons_succ]
  refine wpAnyH_ready (rs := [36]) (by kernel_rfl) (by simp) ?_
  refine AllReadyH.cons rfl (fun K hK => ?_) AllReadyH.nil
  replace hK := Lib.hid hK
  go_simp
  refine (BA.out _).mono ?_
  rintro e v2 ⟨rfl, hb⟩
  have C2 := Lib.hid (hHeld.trans (below_chg2 hb))
  clear hb hHeld
  refine hK.out _ _ C2.out (fun hHeld => ?_)
  clear hK K
  try simp only [Act.put, List.setIfInBounds_toArray, List.set_cons_zero, List.set_cons_succ]
  refine step_yes 37 92 ?_ (by assumption) rfl rfl (by kernel_rfl) (by kernel_rfl) (by kernel_rfl) (fun _ _ _ h => h) (by rfl) ?_ ?_
  rotate_left
  · (intro w hSw; (try dsimp only at hSw); go_simp; try with_reducible rfl)
  try simp only [Act.put, List.setIfInBounds_toArray, List.set_cons_zero, List.set_cons_succ]
  refine step_yes 39 94 ?_ (by assumption) rfl rfl (by kernel_rfl) (by kernel_rfl) (by kernel_rfl) (fun _ _ _ h => h) (by rfl) ?_ ?_
  rotate_left
  · (intro w hSw; (try dsimp only at hSw); go_simp; try with_reducible rfl)
  try simp only [Act.put, List.setIfInBounds_toArray, List.set_cons_zero, List.set_cons_succ]
  refine step_yes 40 95 ?_ (by assumption) rfl rfl (by kernel_rfl) (by kernel_rfl) (by kernel_rfl) (fun _ _ _ h => h) (by rfl) ?_ ?_
  rotate_left
  · (intro w hSw; (try dsimp only at hSw); go_simp; try with_reducible rfl)
  try simp only [Act.put, List.setIfInBounds_toArray, List.set_cons_zero, List.set_cons_succ]
  refine step_yes 41 96 ?_ (by assumption) rfl rfl (by kernel_rfl) (by kernel_rfl) (by kernel_rfl) (fun _ _ _ h => h) (by rfl) ?_ ?_
  rotate_left
  · (intro w hSw; (try dsimp only at hSw); go_simp; try with_reducible rfl)
  try simp only [Act.put, List.setIfInBounds_toArray, List.set_cons_zero, List.set_cons_succ]
  refine step_yes 42 97 ?_ (by assumption) rfl rfl (by kernel_rfl) (by kernel_rfl) (by kernel_rfl) (fun _ _ _ h => h) (by rfl) ?_ ?_
  rotate_left
  · (intro w hSw; (try dsimp only at hSw); go_simp; try with_reducible rfl)
  try simp only [Act.put, List.setIfInBounds_toArray, List.set_cons_zero, List.set_cons_succ]
  refine wpAnyH_ready (rs := [43]) (by kernel_rfl) (by simp) ?_
  refine AllReadyH.cons rfl (fun K hK => ?_) AllReadyH.nil
  replace hK := Lib.hid hK
  go_simp
  refine (U1.out _).mono ?_
  rintro e v3 ⟨rfl, hb⟩
  have C3 := Lib.hid (hHeld.trans (below_chg2 hb))
  clear hb hHeld
  refine hK.out _ _ C3.out (fun hHeld => ?_)
  clear hK K
  try simp only [Act.put, List.setIfInBounds_toArray, List.set_cons_zero, List.set_cons_succ]
  refine step_yes 44 99 ?_ (by assumption) rfl rfl (by kernel_rfl) (by kernel_rfl) (by kernel_rfl) (fun _ _ _ h => h) (by rfl) ?_ ?_
  rotate_left
  · (intro w hSw; (try dsimp only at hSw); go_simp; try with_reducible rfl)
  try simp only [Act.put, List.setIfInBounds_toArray, List.set_cons_zero, List.set_cons_succ]
  refine step_yes 45 100 ?_ (by assumption) rfl rfl (by kernel_rfl) (by kernel_rfl) (by kernel_rfl) (fun _ _ _ h => h) (by rfl) ?_ ?_
  rotate_left
  · (intro w hSw; (try dsimp only at hSw); go_simp; try with_reducible rfl)
  try simp only [Act.put, List.setIfInBounds_toArray, List.set_cons_zero, List.set_cons_succ]
  refine step_yes 46 101 ?_ (by assumption) rfl rfl (by kernel_rfl) (by kernel_rfl) (by kernel_rfl) (fun _ _ _ h => h) (by rfl) ?_ ?_
  rotate_left
  · (intro w hSw; (try dsimp only at hSw); go_simp; try with_reducible rfl)
  try simp only [Act.put, List.setIfInBounds_toArray, List.set_cons_zero, List.set_cons_succ]
  refine step_yes 47 102 ?_ (by assumption) rfl rfl (by kernel_rfl) (by kernel_rfl) (by kernel_rfl) (fun _ _ _ h => h) (by rfl) ?_ ?_
  rotate_left
  · (intro w hSw; (try dsimp only at hSw); go_simp; try with_reducible rfl)
  try simp only [Act.put, List.setIfInBounds_toArray, List.set_cons_zero, List.set_cons_succ]
  refine step_yes 48 103 ?_ (by assumption) rfl rfl (by kernel_rfl) (by kernel_rfl) (by kernel_rfl) (fun _ _ _ h => h) (by rfl) ?_ ?_
  rotate_left
  · (intro w hSw; (try dsimp only at hSw); go_simp; try with_reducible rfl)
  try simp only [Act.put, List.setIfInBounds_toArray, List.set_cons_zero, List.set_cons_succ]
  refine wpAnyH_ready (rs := [49]) (by kernel_rfl) (by simp) ?_
  refine AllReadyH.cons rfl (fun K hK => ?_) AllReadyH.nil
  replace hK := Lib.hid hK
  go_simp
  refine (U2.out _).mono ?_
  rintro e v4 ⟨rfl, hb⟩
  have C4 := Lib.hid (hHeld.trans (below_chg2 hb))
  clear hb hHeld
  refine hK.out _ _ C4.out (fun hHeld => ?_)
  clear hK K
  try simp only [Act.put, List.setIfInBounds_toArray, List.set_cons_zero, List.set_cons_succ]
  refine step_yes 50 105 ?_ (by assumption) rfl rfl (by kernel_rfl) (by kernel_rfl) (by kernel_rfl) (fun _ _ _ h => h) (by rfl) ?_ ?_
  rotate_left
  · (intro w hSw; (try dsimp only at hSw); go_simp; try with_reducible rfl)
  try simp only [Act.put, List.setIfInBounds_toArray, List.set_cons_zero, List.set_cons_succ]
  refine step_yes 51 106 ?_ (by assumption) rfl rfl (by kernel_rfl) (by kernel_rfl) (by kernel_rfl) (fun _ _ _ h => h) (by rfl) ?_ ?_
  rotate_left
  · (intro w hSw; (try dsimp only at hSw); go_simp; try with_reducible rfl)
  try simp only [Act.put, List.setIfInBounds_toArray, List.set_cons_zero, List.set_cons_succ]
  refine step_yes 52 107 ?_ (by assumption) rfl rfl (by kernel_rfl) (by kernel_rfl) (by kernel_rfl) (fun _ _ _ h => h) (by rfl) ?_ ?_
  rotate_left
  · (intro w hSw; (try dsimp only at hSw); go_simp; try with_reducible rfl)
  try simp only [Act.put, List.setIfInBounds_toArray, List.set_cons_zero, List.set_cons_succ]
  refine wpAnyH_done (by kernel_rfl) ?_ _
  have K7 := Lib.hid (K6.out.trans C4.out)
  have X7 := Lib.hid (HX.out.chg K7.out (by simp))
  go_wp2_with fail
  refine (JX.out _ X7.out).mono ?_
  rintro e w8 ⟨rfl, h8⟩
  have K8 := Lib.hid (K7.out.trans (below_chg2 h8))
  clear h8
  go_wp2_with fail
  refine (SX.out _).mono ?_
  rintro e w10 ⟨g2, hg, rfl, b3, h3⟩
  have K10 := Lib.hid (K8.out.trans h3)
  have Y10 := Lib.hid b3
  have X10 := Lib.hid (HX.out.chg K10.out (by simp))
  clear h3 b3 hg
  go_wp2_with fail
  refine (ST.out _ _ Y10.out X10.out).mono ?_
  rintro e w11 ⟨rfl, h11⟩
  have K11 := Lib.hid (K10.out.trans h11)
  clear h11
  go_wp2
  go_ret
  exact ⟨rfl, K11.out⟩

set_option maxRecDepth 100000 in
set_option maxHeartbeats 4000000 in
theorem pathback_ttf (w : World) (s : List UInt8) (A : Option Addr) (c : Nat) (xs : List (List UInt8)) (h : RdK textTy w A xs.length xs) (hc : xs.length ≤ c) (hn : xs.length ≤ 140737488351232)
    (hs : s.length ≤ 200) (hl : longT xs = false) (ho : okP s = true) (hp : hasParent s = true) (hq : partsL xs = false) : Calls Tryd.prog 7 #[.string (strOf s), .slice A xs.length c] w fun e w' => e = .returned (.bool true) ∧ Chg [] w w' := by
  have KN := Lib.hid (fun W => pathKnownR_run W)
  have HX := Lib.hid h
  have sz := strOf_size s
  have i1 : ¬ ((200 : Int) < (s.length : Int)) := by omega
  have i2 : ¬ ((200 : Int) < ((strOf s).size : Int)) := by omega
  have LG := Lib.hid (fun W h => hl ▸ long_any W A c xs h hn)
  obtain ⟨u1, u2, u3⟩ := unc_short hl
  have CK := Lib.hid (phcheck_p s true ho (by omega))
  have JX := Lib.hid (fun w h => phjoin_f w A c xs h (by omega) hq)
  have OP := ok_parts ho
  have hl6 : (cutL s).length ≤ 6 := by have := OP.1; unfold partsL at this; simp at this; omega
  have hne := cutA_ne [] s
  have hb : baseL s = (cutL s).getLast hne := by unfold baseL; rw [if_pos ho]
  have LA := last_at (l := cutL s) hne
  rw [show (cutL s).getLast hne = baseL s from hb.symm] at LA
  have hcl : ∀ x ∈ cutL s, x.length ≤ 10000000 := fun x hx => by have := cutA_short s [] x hx; simp at this; omega
  have SP := Lib.hid (fun w => phsplit_yes w s (by omega) ho)
  have JN := Lib.hid (fun (w : World) (g : Nat) (h1 : w.heap[g]? = some (.cells ((cutL s).map tv).toArray 9 (0, 0))) => phjoin_t w (some ⟨g, 0, none⟩) (cutL s).length (cutL s) (rd_row h1 (by omega)) (Nat.le_refl _) (by omega) hcl OP.1)
  rw [OP.2] at JN
  have PA := Lib.hid (fun w => hp ▸ phparent_any w s (by omega))
  have BA := Lib.hid (fun w => phbase_any w s (by omega))
  have hm1 : 1 ≤ (cutL s).length := List.length_pos_iff.2 hne
  have hm2 : decide ((1 : Int) < ((cutL s).length : Int)) = true := by
    unfold hasParent at hp
    rw [ho, Bool.true_and] at hp
    rw [← hp, Bool.eq_iff_iff, decide_eq_true_eq, decide_eq_true_eq]
    omega
  obtain ⟨PB, UN⟩ := parent_base hp
  have pl : (parentL s).length ≤ 200 := by have := congrArg List.length PB; simp at this; omega
  have U1 := Lib.hid (fun w => UN ▸ phunder_any w (parentL s) s (by omega) (by omega))
  have U2 := Lib.hid (fun w => under_not UN ▸ phunder_any w s (parentL s) (by omega) (by omega))
  have ea : strOf (parentL s) ++ (⟨#[47]⟩ : ByteArray) = strOf (parentL s ++ [47]) := by apply ByteArray.ext; simp [strOf]
  have eb : strOf (parentL s ++ [47]) ++ strOf (baseL s) = strOf s := by conv => { rhs; rw [← PB] }; apply ByteArray.ext; simp [strOf]
  have bl : (baseL s).length ≤ 200 := by have := congrArg List.length PB; simp at this; omega
  clear PB UN
  generalize parentL s = pp at *
  generalize baseL s = bb at *
  clear OP hb hcl
  generalize cutL s = ys at *
  have s1 := strOf_size pp
  have s2 := strOf_size bb
  have s3 := strOf_size (pp ++ [47])
  have s4 : (pp ++ [47]).length = pp.length + 1 := by simp
  have n1 : ¬ 9223372036854775807 < pp.length + 1 := by omega
  have n2 : ¬ 9223372036854775807 < pp.length + 1 + bb.length := by omega
  have m1 : ¬ ((ys.length : Int) < 1) := by omega
  have m2 : ((ys.length : Int) - 1) = ((ys.length - 1 : Nat) : Int) := by omega
  have m3 : IntKind.i64.wrap ((ys.length - 1 : Nat) : Int) = ((ys.length - 1 : Nat) : Int) := IntWalk.i64_in _ (by omega)
  have m4 : ((ys.length - 1 : Nat) : Int) < (ys.length : Int) := by omega
  have m5 : (0 : Int) ≤ ((ys.length - 1 : Nat) : Int) := by omega
  have m6 : decide ((ys.length : Int) < 1) = false := by simp; omega
  have m7 : decide (1 < ys.length) = true := by rw [← hm2, Bool.eq_iff_iff, decide_eq_true_eq, decide_eq_true_eq]; omega
  have m8 : ¬ ys.length = 0 := by omega
  have LL := Lib.hid LA
  clear LA hne hp
  clear hs hl ho hq h sz u1 u2 u3 hn hc
  go_enter Tryd.func7, Tryd.ntmps7
  go_wp2_with fail
  refine (KN.out _).mono ?_
  rintro e w1 ⟨rfl, h1⟩
  have K1 := Lib.hid h1
  clear h1
  have X1 := Lib.hid (HX.out.chg K1.out (by simp))
  go_wp2_with fail
  refine (LG.out _ X1.out).mono ?_
  rintro e w2 ⟨rfl, rfl⟩
  go_wp2_with fail
  refine (SP.out _).mono ?_
  rintro e w3 ⟨g, hg, rfl, b3, h3⟩
  have K3 := Lib.hid (K1.out.trans h3)
  have G3 := Lib.hid b3
  clear h3 b3 hg
  go_wp2_with fail
  refine (CK.out _).mono ?_
  rintro e w4 ⟨rfl, h4⟩
  have K4 := Lib.hid (K3.out.trans (below_chg2 h4))
  have G4 := Lib.hid ((below_chg2 h4).at_ G3.out (by simp))
  clear h4
  go_wp2_with fail
  refine (JN.out _ _ G4.out).mono ?_
  rintro e w5 ⟨rfl, h5⟩
  have K5 := Lib.hid (K4.out.trans (below_chg2 h5))
  have G5 := Lib.hid ((below_chg2 h5).at_ G4.out (by simp))
  clear h5
  go_wp2_with fail
  refine (PA.out _).mono ?_
  rintro e w6 ⟨rfl, h6⟩
  have K6 := Lib.hid (K5.out.trans (below_chg2 h6))
  have G6 := Lib.hid ((below_chg2 h6).at_ G5.out (by simp))
  clear h6
  have HZ := Lib.hid (fun (w' : World) (hc : Chg [] w6 w') => (cell_of (hc.at_ G6.out (by simp)) (ys.length - 1)).trans (show ((ys.map tv).toArray)[ys.length - 1]? = some (.string (strOf bb)) by rw [List.getElem?_toArray, List.getElem?_map, LL.out]; rfl))
  go_upto_region 10 with fail
  refine wp_region_held_drew (S := fun w' => Chg [] w6 w') (by kernel_rfl) (Chg.refl [] w6).drew (fun hHeld => ?_)
  refine step_yes 0 55 ?_ (by assumption) rfl rfl (by kernel_rfl) (by kernel_rfl) (by kernel_rfl) (fun _ _ _ h => h) (by rfl) ?_ ?_
  rotate_left
  · (intro w hSw; (try dsimp only at hSw); go_simp; try with_reducible rfl)
  try simp only [Act.put, List.setIfInBounds_toArray, List.set_cons_zero, List.set_cons_succ]
  refine step_yes 1 56 ?_ (by assumption) rfl rfl (by kernel_rfl) (by kernel_rfl) (by kernel_rfl) (fun _ _ _ h => h) (by rfl) ?_ ?_
  rotate_left
  · (intro w hSw; (try dsimp only at hSw); go_simp; try with_reducible rfl)
  try simp only [Act.put, List.setIfInBounds_toArray, List.set_cons_zero, List.set_cons_succ]
  refine step_yes 2 57 ?_ (by assumption) rfl rfl (by kernel_rfl) (by kernel_rfl) (by kernel_rfl) (fun _ _ _ h => h) (by rfl) ?_ ?_
  rotate_left
  · (intro w hSw; (try dsimp only at hSw); go_simp; try with_reducible rfl)
  try simp only [Act.put, List.setIfInBounds_toArray, List.set_cons_zero, List.set_cons_succ]
  refine step_yes 3 58 ?_ (by assumption) rfl rfl (by kernel_rfl) (by kernel_rfl) (by kernel_rfl) (fun _ _ _ h => h) (by rfl) ?_ ?_
  rotate_left
  · (intro w hSw; (try dsimp only at hSw); go_simp; try with_reducible rfl)
  try simp only [Act.put, List.setIfInBounds_toArray, List.set_cons_zero, List.set_cons_succ]
  refine step_yes 4 59 ?_ (by assumption) rfl rfl (by kernel_rfl) (by kernel_rfl) (by kernel_rfl) (fun _ _ _ h => h) (by rfl) ?_ ?_
  rotate_left
  · (intro w hSw; (try dsimp only at hSw); go_simp; try with_reducible rfl)
  try simp only [Act.put, List.setIfInBounds_toArray, List.set_cons_zero, List.set_cons_succ]
  refine step_yes 5 60 ?_ (by assumption) rfl rfl (by kernel_rfl) (by kernel_rfl) (by kernel_rfl) (fun _ _ _ h => h) (by rfl) ?_ ?_
  rotate_left
  · (intro w hSw; (try dsimp only at hSw); go_simp; try with_reducible rfl)
  try simp only [Act.put, List.setIfInBounds_toArray, List.set_cons_zero, List.set_cons_succ]
  refine step_yes 6 61 ?_ (by assumption) rfl rfl (by kernel_rfl) (by kernel_rfl) (by kernel_rfl) (fun _ _ _ h => h) (by rfl) ?_ ?_
  rotate_left
  · (intro w hSw; (try dsimp only at hSw); go_simp; try with_reducible rfl)
  try simp only [Act.put, List.setIfInBounds_toArray, List.set_cons_zero, List.set_cons_succ]
  refine step_yes 7 62 ?_ (by assumption) rfl rfl (by kernel_rfl) (by kernel_rfl) (by kernel_rfl) (fun _ _ _ h => h) (by rfl) ?_ ?_
  rotate_left
  · (intro w hSw; (try dsimp only at hSw); go_simp; try with_reducible rfl)
  try simp only [Act.put, List.setIfInBounds_toArray, List.set_cons_zero, List.set_cons_succ]
  refine step_yes 8 63 ?_ (by assumption) rfl rfl (by kernel_rfl) (by kernel_rfl) (by kernel_rfl) (fun _ _ _ h => h) (by rfl) ?_ ?_
  rotate_left
  · (intro w hSw; (try dsimp only at hSw); go_simp; try with_reducible rfl)
  try simp only [Act.put, List.setIfInBounds_toArray, List.set_cons_zero, List.set_cons_succ]
  refine step_yes 9 64 ?_ (by assumption) rfl rfl (by kernel_rfl) (by kernel_rfl) (by kernel_rfl) (fun _ _ _ h => h) (by rfl) ?_ ?_
  rotate_left
  · (intro w hSw; (try dsimp only at hSw); go_simp; try with_reducible rfl)
  try simp only [Act.put, List.setIfInBounds_toArray, List.set_cons_zero, List.set_cons_succ]
  refine step_yes 10 65 ?_ (by assumption) rfl rfl (by kernel_rfl) (by kernel_rfl) (by kernel_rfl) (fun _ _ _ h => h) (by rfl) ?_ ?_
  rotate_left
  · (intro w hSw; (try dsimp only at hSw); go_simp; try with_reducible rfl)
  try simp only [Act.put, List.setIfInBounds_toArray, List.set_cons_zero, List.set_cons_succ]
  refine step_yes 11 66 ?_ (by assumption) rfl rfl (by kernel_rfl) (by kernel_rfl) (by kernel_rfl) (fun _ _ _ h => h) (by rfl) ?_ ?_
  rotate_left
  · (intro w hSw; (try dsimp only at hSw); go_simp; try with_reducible rfl)
  try simp only [Act.put, List.setIfInBounds_toArray, List.set_cons_zero, List.set_cons_succ]
  refine step_yes 12 67 ?_ (by assumption) rfl rfl (by kernel_rfl) (by kernel_rfl) (by kernel_rfl) (fun _ _ _ h => h) (by rfl) ?_ ?_
  rotate_left
  · (intro w hSw; (try dsimp only at hSw); go_simp; try with_reducible rfl)
  try simp only [Act.put, List.setIfInBounds_toArray, List.set_cons_zero, List.set_cons_succ]
  refine step_yes 13 68 ?_ (by assumption) rfl rfl (by kernel_rfl) (by kernel_rfl) (by kernel_rfl) (fun _ _ _ h => h) (by rfl) ?_ ?_
  rotate_left
  · (intro w hSw; (try dsimp only at hSw); go_simp; try with_reducible rfl)
  try simp only [Act.put, List.setIfInBounds_toArray, List.set_cons_zero, List.set_cons_succ]
  refine step_yes 14 69 ?_ (by assumption) rfl rfl (by kernel_rfl) (by kernel_rfl) (by kernel_rfl) (fun _ _ _ h => h) (by rfl) ?_ ?_
  rotate_left
  · (intro w hSw; (try dsimp only at hSw); go_simp; try with_reducible rfl)
  try simp only [Act.put, List.setIfInBounds_toArray, List.set_cons_zero, List.set_cons_succ]
  refine step_yes 15 70 ?_ (by assumption) rfl rfl (by kernel_rfl) (by kernel_rfl) (by kernel_rfl) (fun _ _ _ h => h) (by rfl) ?_ ?_
  rotate_left
  · (intro w hSw; (try dsimp only at hSw); go_simp; try with_reducible rfl)
  try simp only [Act.put, List.setIfInBounds_toArray, List.set_cons_zero, List.set_cons_succ]
  refine step_yes 16 71 ?_ (by assumption) rfl rfl (by kernel_rfl) (by kernel_rfl) (by kernel_rfl) (fun _ _ _ h => h) (by rfl) ?_ ?_
  rotate_left
  · (intro w hSw; (try dsimp only at hSw); go_simp; try with_reducible rfl)
  try simp only [Act.put, List.setIfInBounds_toArray, List.set_cons_zero, List.set_cons_succ]
  refine step_yes 17 72 ?_ (by assumption) rfl rfl (by kernel_rfl) (by kernel_rfl) (by kernel_rfl) (fun _ _ _ h => h) (by rfl) ?_ ?_
  rotate_left
  · (intro w hSw; (try dsimp only at hSw); go_simp; try with_reducible rfl)
  try simp only [Act.put, List.setIfInBounds_toArray, List.set_cons_zero, List.set_cons_succ]
  refine step_yes 18 73 ?_ (by assumption) rfl rfl (by kernel_rfl) (by kernel_rfl) (by kernel_rfl) (fun _ _ _ h => h) (by rfl) ?_ ?_
  rotate_left
  · (intro w hSw; (try dsimp only at hSw); have z := HZ.out _ hSw; go_simp; try with_reducible rfl)
  try simp only [Act.put, List.setIfInBounds_toArray, List.set_cons_zero, List.set_cons_succ]
  refine step_yes 19 74 ?_ (by assumption) rfl rfl (by kernel_rfl) (by kernel_rfl) (by kernel_rfl) (fun _ _ _ h => h) (by rfl) ?_ ?_
  rotate_left
  · (intro w hSw; (try dsimp only at hSw); go_simp; try with_reducible rfl)
  try simp only [Act.put, List.setIfInBounds_toArray, List.set_cons_zero, List.set_cons_succ]
  refine wpAnyH_ready (rs := [20]) (by kernel_rfl) (by simp) ?_
  refine AllReadyH.cons rfl (fun K hK => ?_) AllReadyH.nil
  replace hK := Lib.hid hK
  go_simp
  refine (BA.out _).mono ?_
  rintro e v1 ⟨rfl, hb⟩
  have C1 := Lib.hid (hHeld.trans (below_chg2 hb))
  clear hb hHeld
  refine hK.out _ _ C1.out (fun hHeld => ?_)
  clear hK K
  try simp only [Act.put, List.setIfInBounds_toArray, List.set_cons_zero, List.set_cons_succ]
  refine step_yes 21 76 ?_ (by assumption) rfl rfl (by kernel_rfl) (by kernel_rfl) (by kernel_rfl) (fun _ _ _ h => h) (by rfl) ?_ ?_
  rotate_left
  · (intro w hSw; (try dsimp only at hSw); go_simp; try with_reducible rfl)
  try simp only [Act.put, List.setIfInBounds_toArray, List.set_cons_zero, List.set_cons_succ]
  refine step_yes 22 77 ?_ (by assumption) rfl rfl (by kernel_rfl) (by kernel_rfl) (by kernel_rfl) (fun _ _ _ h => h) (by rfl) ?_ ?_
  rotate_left
  · (intro w hSw; (try dsimp only at hSw); go_simp; try with_reducible rfl)
  try simp only [Act.put, List.setIfInBounds_toArray, List.set_cons_zero, List.set_cons_succ]
  refine step_yes 23 78 ?_ (by assumption) rfl rfl (by kernel_rfl) (by kernel_rfl) (by kernel_rfl) (fun _ _ _ h => h) (by rfl) ?_ ?_
  rotate_left
  · (intro w hSw; (try dsimp only at hSw); go_simp; try with_reducible rfl)
  try simp only [Act.put, List.setIfInBounds_toArray, List.set_cons_zero, List.set_cons_succ]
  refine step_yes 24 79 ?_ (by assumption) rfl rfl (by kernel_rfl) (by kernel_rfl) (by kernel_rfl) (fun _ _ _ h => h) (by rfl) ?_ ?_
  rotate_left
  · (intro w hSw; (try dsimp only at hSw); go_simp; try with_reducible rfl)
  try simp only [Act.put, List.setIfInBounds_toArray, List.set_cons_zero, List.set_cons_succ]
  refine step_yes 25 80 ?_ (by assumption) rfl rfl (by kernel_rfl) (by kernel_rfl) (by kernel_rfl) (fun _ _ _ h => h) (by rfl) ?_ ?_
  rotate_left
  · (intro w hSw; (try dsimp only at hSw); go_simp; try with_reducible rfl)
  try simp only [Act.put, List.setIfInBounds_toArray, List.set_cons_zero, List.set_cons_succ]
  refine step_yes 26 81 ?_ (by assumption) rfl rfl (by kernel_rfl) (by kernel_rfl) (by kernel_rfl) (fun _ _ _ h => h) (by rfl) ?_ ?_
  rotate_left
  · (intro w hSw; (try dsimp only at hSw); go_simp; try with_reducible rfl)
  try simp only [Act.put, List.setIfInBounds_toArray, List.set_cons_zero, List.set_cons_succ]
  refine step_yes 27 82 ?_ (by assumption) rfl rfl (by kernel_rfl) (by kernel_rfl) (by kernel_rfl) (fun _ _ _ h => h) (by rfl) ?_ ?_
  rotate_left
  · (intro w hSw; (try dsimp only at hSw); go_simp; try with_reducible rfl)
  try simp only [Act.put, List.setIfInBounds_toArray, List.set_cons_zero, List.set_cons_succ]
  refine step_yes 28 83 ?_ (by assumption) rfl rfl (by kernel_rfl) (by kernel_rfl) (by kernel_rfl) (fun _ _ _ h => h) (by rfl) ?_ ?_
  rotate_left
  · (intro w hSw; (try dsimp only at hSw); go_simp; try with_reducible rfl)
  try simp only [Act.put, List.setIfInBounds_toArray, List.set_cons_zero, List.set_cons_succ]
  refine step_yes 29 84 ?_ (by assumption) rfl rfl (by kernel_rfl) (by kernel_rfl) (by kernel_rfl) (fun _ _ _ h => h) (by rfl) ?_ ?_
  rotate_left
  · (intro w hSw; (try dsimp only at hSw); go_simp; try with_reducible rfl)
  try simp only [Act.put, List.setIfInBounds_toArray, List.set_cons_zero, List.set_cons_succ]
  refine step_yes 30 85 ?_ (by assumption) rfl rfl (by kernel_rfl) (by kernel_rfl) (by kernel_rfl) (fun _ _ _ h => h) (by rfl) ?_ ?_
  rotate_left
  · (intro w hSw; (try dsimp only at hSw); go_simp; try with_reducible rfl)
  try simp only [Act.put, List.setIfInBounds_toArray, List.set_cons_zero, List.set_cons_succ]
  refine step_yes 31 86 ?_ (by assumption) rfl rfl (by kernel_rfl) (by kernel_rfl) (by kernel_rfl) (fun _ _ _ h => h) (by rfl) ?_ ?_
  rotate_left
  · (intro w hSw; (try dsimp only at hSw); go_simp; try with_reducible rfl)
  try simp only [Act.put, List.setIfInBounds_toArray, List.set_cons_zero, List.set_cons_succ]
  refine step_yes 32 87 ?_ (by assumption) rfl rfl (by kernel_rfl) (by kernel_rfl) (by kernel_rfl) (fun _ _ _ h => h) (by rfl) ?_ ?_
  rotate_left
  · (intro w hSw; (try dsimp only at hSw); go_simp; try with_reducible rfl)
  try simp only [Act.put, List.setIfInBounds_toArray, List.set_cons_zero, List.set_cons_succ]
  refine step_yes 33 88 ?_ (by assumption) rfl rfl (by kernel_rfl) (by kernel_rfl) (by kernel_rfl) (fun _ _ _ h => h) (by rfl) ?_ ?_
  rotate_left
  · (intro w hSw; (try dsimp only at hSw); go_simp; try with_reducible rfl)
  try simp only [Act.put, List.setIfInBounds_toArray, List.set_cons_zero, List.set_cons_succ]
  refine step_yes 34 89 ?_ (by assumption) rfl rfl (by kernel_rfl) (by kernel_rfl) (by kernel_rfl) (fun _ _ _ h => h) (by rfl) ?_ ?_
  rotate_left
  · (intro w hSw; (try dsimp only at hSw); go_simp; try with_reducible rfl)
  try simp only [Act.put, List.setIfInBounds_toArray, List.set_cons_zero, List.set_cons_succ]
  refine step_yes 35 90 ?_ (by assumption) rfl rfl (by kernel_rfl) (by kernel_rfl) (by kernel_rfl) (fun _ _ _ h => h) (by rfl) ?_ ?_
  rotate_left
  · (intro w hSw; (try dsimp only at hSw); go_simp; try with_reducible rfl)
  try simp only [Act.put, List.setIfInBounds_toArray, List.set_cons_zero, List.set_cons_succ]
  refine step_yes 38 93 ?_ (by assumption) rfl rfl (by kernel_rfl) (by kernel_rfl) (by kernel_rfl) (fun _ _ _ h => h) (by rfl) ?_ ?_
  rotate_left
  · (intro w hSw; (try dsimp only at hSw); go_simp; try with_reducible rfl)
  try simp only [Act.put, List.setIfInBounds_toArray, List.set_cons_zero, List.set_cons_succ]
  refine wpAnyH_ready (rs := [36]) (by kernel_rfl) (by simp) ?_
  refine AllReadyH.cons rfl (fun K hK => ?_) AllReadyH.nil
  replace hK := Lib.hid hK
  go_simp
  refine (BA.out _).mono ?_
  rintro e v2 ⟨rfl, hb⟩
  have C2 := Lib.hid (hHeld.trans (below_chg2 hb))
  clear hb hHeld
  refine hK.out _ _ C2.out (fun hHeld => ?_)
  clear hK K
  try simp only [Act.put, List.setIfInBounds_toArray, List.set_cons_zero, List.set_cons_succ]
  refine step_yes 37 92 ?_ (by assumption) rfl rfl (by kernel_rfl) (by kernel_rfl) (by kernel_rfl) (fun _ _ _ h => h) (by rfl) ?_ ?_
  rotate_left
  · (intro w hSw; (try dsimp only at hSw); go_simp; try with_reducible rfl)
  try simp only [Act.put, List.setIfInBounds_toArray, List.set_cons_zero, List.set_cons_succ]
  refine step_yes 39 94 ?_ (by assumption) rfl rfl (by kernel_rfl) (by kernel_rfl) (by kernel_rfl) (fun _ _ _ h => h) (by rfl) ?_ ?_
  rotate_left
  · (intro w hSw; (try dsimp only at hSw); go_simp; try with_reducible rfl)
  try simp only [Act.put, List.setIfInBounds_toArray, List.set_cons_zero, List.set_cons_succ]
  refine step_yes 40 95 ?_ (by assumption) rfl rfl (by kernel_rfl) (by kernel_rfl) (by kernel_rfl) (fun _ _ _ h => h) (by rfl) ?_ ?_
  rotate_left
  · (intro w hSw; (try dsimp only at hSw); go_simp; try with_reducible rfl)
  try simp only [Act.put, List.setIfInBounds_toArray, List.set_cons_zero, List.set_cons_succ]
  refine step_yes 41 96 ?_ (by assumption) rfl rfl (by kernel_rfl) (by kernel_rfl) (by kernel_rfl) (fun _ _ _ h => h) (by rfl) ?_ ?_
  rotate_left
  · (intro w hSw; (try dsimp only at hSw); go_simp; try with_reducible rfl)
  try simp only [Act.put, List.setIfInBounds_toArray, List.set_cons_zero, List.set_cons_succ]
  refine step_yes 42 97 ?_ (by assumption) rfl rfl (by kernel_rfl) (by kernel_rfl) (by kernel_rfl) (fun _ _ _ h => h) (by rfl) ?_ ?_
  rotate_left
  · (intro w hSw; (try dsimp only at hSw); go_simp; try with_reducible rfl)
  try simp only [Act.put, List.setIfInBounds_toArray, List.set_cons_zero, List.set_cons_succ]
  refine wpAnyH_ready (rs := [43]) (by kernel_rfl) (by simp) ?_
  refine AllReadyH.cons rfl (fun K hK => ?_) AllReadyH.nil
  replace hK := Lib.hid hK
  go_simp
  refine (U1.out _).mono ?_
  rintro e v3 ⟨rfl, hb⟩
  have C3 := Lib.hid (hHeld.trans (below_chg2 hb))
  clear hb hHeld
  refine hK.out _ _ C3.out (fun hHeld => ?_)
  clear hK K
  try simp only [Act.put, List.setIfInBounds_toArray, List.set_cons_zero, List.set_cons_succ]
  refine step_yes 44 99 ?_ (by assumption) rfl rfl (by kernel_rfl) (by kernel_rfl) (by kernel_rfl) (fun _ _ _ h => h) (by rfl) ?_ ?_
  rotate_left
  · (intro w hSw; (try dsimp only at hSw); go_simp; try with_reducible rfl)
  try simp only [Act.put, List.setIfInBounds_toArray, List.set_cons_zero, List.set_cons_succ]
  refine step_yes 45 100 ?_ (by assumption) rfl rfl (by kernel_rfl) (by kernel_rfl) (by kernel_rfl) (fun _ _ _ h => h) (by rfl) ?_ ?_
  rotate_left
  · (intro w hSw; (try dsimp only at hSw); go_simp; try with_reducible rfl)
  try simp only [Act.put, List.setIfInBounds_toArray, List.set_cons_zero, List.set_cons_succ]
  refine step_yes 46 101 ?_ (by assumption) rfl rfl (by kernel_rfl) (by kernel_rfl) (by kernel_rfl) (fun _ _ _ h => h) (by rfl) ?_ ?_
  rotate_left
  · (intro w hSw; (try dsimp only at hSw); go_simp; try with_reducible rfl)
  try simp only [Act.put, List.setIfInBounds_toArray, List.set_cons_zero, List.set_cons_succ]
  refine step_yes 47 102 ?_ (by assumption) rfl rfl (by kernel_rfl) (by kernel_rfl) (by kernel_rfl) (fun _ _ _ h => h) (by rfl) ?_ ?_
  rotate_left
  · (intro w hSw; (try dsimp only at hSw); go_simp; try with_reducible rfl)
  try simp only [Act.put, List.setIfInBounds_toArray, List.set_cons_zero, List.set_cons_succ]
  refine step_yes 48 103 ?_ (by assumption) rfl rfl (by kernel_rfl) (by kernel_rfl) (by kernel_rfl) (fun _ _ _ h => h) (by rfl) ?_ ?_
  rotate_left
  · (intro w hSw; (try dsimp only at hSw); go_simp; try with_reducible rfl)
  try simp only [Act.put, List.setIfInBounds_toArray, List.set_cons_zero, List.set_cons_succ]
  refine wpAnyH_ready (rs := [49]) (by kernel_rfl) (by simp) ?_
  refine AllReadyH.cons rfl (fun K hK => ?_) AllReadyH.nil
  replace hK := Lib.hid hK
  go_simp
  refine (U2.out _).mono ?_
  rintro e v4 ⟨rfl, hb⟩
  have C4 := Lib.hid (hHeld.trans (below_chg2 hb))
  clear hb hHeld
  refine hK.out _ _ C4.out (fun hHeld => ?_)
  clear hK K
  try simp only [Act.put, List.setIfInBounds_toArray, List.set_cons_zero, List.set_cons_succ]
  refine step_yes 50 105 ?_ (by assumption) rfl rfl (by kernel_rfl) (by kernel_rfl) (by kernel_rfl) (fun _ _ _ h => h) (by rfl) ?_ ?_
  rotate_left
  · (intro w hSw; (try dsimp only at hSw); go_simp; try with_reducible rfl)
  try simp only [Act.put, List.setIfInBounds_toArray, List.set_cons_zero, List.set_cons_succ]
  refine step_yes 51 106 ?_ (by assumption) rfl rfl (by kernel_rfl) (by kernel_rfl) (by kernel_rfl) (fun _ _ _ h => h) (by rfl) ?_ ?_
  rotate_left
  · (intro w hSw; (try dsimp only at hSw); go_simp; try with_reducible rfl)
  try simp only [Act.put, List.setIfInBounds_toArray, List.set_cons_zero, List.set_cons_succ]
  refine step_yes 52 107 ?_ (by assumption) rfl rfl (by kernel_rfl) (by kernel_rfl) (by kernel_rfl) (fun _ _ _ h => h) (by rfl) ?_ ?_
  rotate_left
  · (intro w hSw; (try dsimp only at hSw); go_simp; try with_reducible rfl)
  try simp only [Act.put, List.setIfInBounds_toArray, List.set_cons_zero, List.set_cons_succ]
  refine wpAnyH_done (by kernel_rfl) ?_ _
  have K7 := Lib.hid (K6.out.trans C4.out)
  have X7 := Lib.hid (HX.out.chg K7.out (by simp))
  go_wp2_with fail
  refine (JX.out _ X7.out).mono ?_
  rintro e w8 ⟨rfl, h8⟩
  have K8 := Lib.hid (K7.out.trans (below_chg2 h8))
  clear h8
  go_wp2
  go_ret
  exact ⟨rfl, K8.out⟩

set_option maxRecDepth 100000 in
set_option maxHeartbeats 4000000 in
theorem pathback_tft (w : World) (s : List UInt8) (A : Option Addr) (c : Nat) (xs : List (List UInt8)) (h : RdK textTy w A xs.length xs) (hc : xs.length ≤ c) (hn : xs.length ≤ 140737488351232)
    (hs : s.length ≤ 200) (hl : longT xs = false) (ho : okP s = true) (hp : hasParent s = false) (hq : partsL xs = true) : Calls Tryd.prog 7 #[.string (strOf s), .slice A xs.length c] w fun e w' => e = .returned (.bool true) ∧ Chg [] w w' := by
  have KN := Lib.hid (fun W => pathKnownR_run W)
  have HX := Lib.hid h
  have sz := strOf_size s
  have i1 : ¬ ((200 : Int) < (s.length : Int)) := by omega
  have i2 : ¬ ((200 : Int) < ((strOf s).size : Int)) := by omega
  have LG := Lib.hid (fun W h => hl ▸ long_any W A c xs h hn)
  obtain ⟨u1, u2, u3⟩ := unc_short hl
  have CK := Lib.hid (phcheck_p s true ho (by omega))
  have PC := parts_cut hq
  have JX := Lib.hid (fun w h => phjoin_t w A c xs h hc (by omega) u3 hq)
  have SX := Lib.hid (fun w => phsplit_yes w (unc xs) (by omega) PC.2)
  rw [PC.1] at SX
  have ST := Lib.hid (fun (w : World) (g : Nat) (h1 : w.heap[g]? = some (.cells (xs.map tv).toArray 9 (0, 0))) (h2 : RdK textTy w A xs.length xs) => sametexts_any w (some ⟨g, 0, none⟩) A xs.length c xs xs (rd_row h1 (by omega)) h2 (by omega) (by omega))
  have hxx : (xs == xs) = true := by simp
  rw [hxx] at ST
  clear PC hxx
  have OP := ok_parts ho
  have hl6 : (cutL s).length ≤ 6 := by have := OP.1; unfold partsL at this; simp at this; omega
  have hne := cutA_ne [] s
  have hb : baseL s = (cutL s).getLast hne := by unfold baseL; rw [if_pos ho]
  have LA := last_at (l := cutL s) hne
  rw [show (cutL s).getLast hne = baseL s from hb.symm] at LA
  have hcl : ∀ x ∈ cutL s, x.length ≤ 10000000 := fun x hx => by have := cutA_short s [] x hx; simp at this; omega
  have SP := Lib.hid (fun w => phsplit_yes w s (by omega) ho)
  have JN := Lib.hid (fun (w : World) (g : Nat) (h1 : w.heap[g]? = some (.cells ((cutL s).map tv).toArray 9 (0, 0))) => phjoin_t w (some ⟨g, 0, none⟩) (cutL s).length (cutL s) (rd_row h1 (by omega)) (Nat.le_refl _) (by omega) hcl OP.1)
  rw [OP.2] at JN
  have PA := Lib.hid (fun w => hp ▸ phparent_any w s (by omega))
  have BA := Lib.hid (fun w => phbase_any w s (by omega))
  have hm1 : 1 ≤ (cutL s).length := List.length_pos_iff.2 hne
  have hm2 : decide ((1 : Int) < ((cutL s).length : Int)) = false := by
    unfold hasParent at hp
    rw [ho, Bool.true_and] at hp
    rw [← hp, Bool.eq_iff_iff, decide_eq_true_eq, decide_eq_true_eq]
    omega
  generalize parentL s = pp at *
  generalize baseL s = bb at *
  clear OP hb hcl
  generalize cutL s = ys at *
  have m1 : ¬ ((ys.length : Int) < 1) := by omega
  have m2 : ((ys.length : Int) - 1) = ((ys.length - 1 : Nat) : Int) := by omega
  have m3 : IntKind.i64.wrap ((ys.length - 1 : Nat) : Int) = ((ys.length - 1 : Nat) : Int) := IntWalk.i64_in _ (by omega)
  have m4 : ((ys.length - 1 : Nat) : Int) < (ys.length : Int) := by omega
  have m5 : (0 : Int) ≤ ((ys.length - 1 : Nat) : Int) := by omega
  have m6 : decide ((ys.length : Int) < 1) = false := by simp; omega
  have m7 : decide (1 < ys.length) = false := by rw [← hm2, Bool.eq_iff_iff, decide_eq_true_eq, decide_eq_true_eq]; omega
  have m8 : ¬ ys.length = 0 := by omega
  have LL := Lib.hid LA
  clear LA hne hp
  clear hs hl ho hq h sz u1 u2 u3 hn hc
  go_enter Tryd.func7, Tryd.ntmps7
  go_wp2_with fail
  refine (KN.out _).mono ?_
  rintro e w1 ⟨rfl, h1⟩
  have K1 := Lib.hid h1
  clear h1
  have X1 := Lib.hid (HX.out.chg K1.out (by simp))
  go_wp2_with fail
  refine (LG.out _ X1.out).mono ?_
  rintro e w2 ⟨rfl, rfl⟩
  go_wp2_with fail
  refine (SP.out _).mono ?_
  rintro e w3 ⟨g, hg, rfl, b3, h3⟩
  have K3 := Lib.hid (K1.out.trans h3)
  have G3 := Lib.hid b3
  clear h3 b3 hg
  go_wp2_with fail
  refine (CK.out _).mono ?_
  rintro e w4 ⟨rfl, h4⟩
  have K4 := Lib.hid (K3.out.trans (below_chg2 h4))
  have G4 := Lib.hid ((below_chg2 h4).at_ G3.out (by simp))
  clear h4
  go_wp2_with fail
  refine (JN.out _ _ G4.out).mono ?_
  rintro e w5 ⟨rfl, h5⟩
  have K5 := Lib.hid (K4.out.trans (below_chg2 h5))
  have G5 := Lib.hid ((below_chg2 h5).at_ G4.out (by simp))
  clear h5
  go_wp2_with fail
  refine (PA.out _).mono ?_
  rintro e w6 ⟨rfl, h6⟩
  have K6 := Lib.hid (K5.out.trans (below_chg2 h6))
  have G6 := Lib.hid ((below_chg2 h6).at_ G5.out (by simp))
  clear h6
  have HZ := Lib.hid (fun (w' : World) (hc : Chg [] w6 w') => (cell_of (hc.at_ G6.out (by simp)) (ys.length - 1)).trans (show ((ys.map tv).toArray)[ys.length - 1]? = some (.string (strOf bb)) by rw [List.getElem?_toArray, List.getElem?_map, LL.out]; rfl))
  go_upto_region 10 with fail
  refine wp_region_held_drew (S := fun w' => Chg [] w6 w') (by kernel_rfl) (Chg.refl [] w6).drew (fun hHeld => ?_)
  refine step_yes 0 55 ?_ (by assumption) rfl rfl (by kernel_rfl) (by kernel_rfl) (by kernel_rfl) (fun _ _ _ h => h) (by rfl) ?_ ?_
  rotate_left
  · (intro w hSw; (try dsimp only at hSw); go_simp; try with_reducible rfl)
  try simp only [Act.put, List.setIfInBounds_toArray, List.set_cons_zero, List.set_cons_succ]
  refine step_yes 1 56 ?_ (by assumption) rfl rfl (by kernel_rfl) (by kernel_rfl) (by kernel_rfl) (fun _ _ _ h => h) (by rfl) ?_ ?_
  rotate_left
  · (intro w hSw; (try dsimp only at hSw); go_simp; try with_reducible rfl)
  try simp only [Act.put, List.setIfInBounds_toArray, List.set_cons_zero, List.set_cons_succ]
  refine step_yes 2 57 ?_ (by assumption) rfl rfl (by kernel_rfl) (by kernel_rfl) (by kernel_rfl) (fun _ _ _ h => h) (by rfl) ?_ ?_
  rotate_left
  · (intro w hSw; (try dsimp only at hSw); go_simp; try with_reducible rfl)
  try simp only [Act.put, List.setIfInBounds_toArray, List.set_cons_zero, List.set_cons_succ]
  refine step_yes 3 58 ?_ (by assumption) rfl rfl (by kernel_rfl) (by kernel_rfl) (by kernel_rfl) (fun _ _ _ h => h) (by rfl) ?_ ?_
  rotate_left
  · (intro w hSw; (try dsimp only at hSw); go_simp; try with_reducible rfl)
  try simp only [Act.put, List.setIfInBounds_toArray, List.set_cons_zero, List.set_cons_succ]
  refine step_yes 4 59 ?_ (by assumption) rfl rfl (by kernel_rfl) (by kernel_rfl) (by kernel_rfl) (fun _ _ _ h => h) (by rfl) ?_ ?_
  rotate_left
  · (intro w hSw; (try dsimp only at hSw); go_simp; try with_reducible rfl)
  try simp only [Act.put, List.setIfInBounds_toArray, List.set_cons_zero, List.set_cons_succ]
  refine step_yes 5 60 ?_ (by assumption) rfl rfl (by kernel_rfl) (by kernel_rfl) (by kernel_rfl) (fun _ _ _ h => h) (by rfl) ?_ ?_
  rotate_left
  · (intro w hSw; (try dsimp only at hSw); go_simp; try with_reducible rfl)
  try simp only [Act.put, List.setIfInBounds_toArray, List.set_cons_zero, List.set_cons_succ]
  refine step_yes 6 61 ?_ (by assumption) rfl rfl (by kernel_rfl) (by kernel_rfl) (by kernel_rfl) (fun _ _ _ h => h) (by rfl) ?_ ?_
  rotate_left
  · (intro w hSw; (try dsimp only at hSw); go_simp; try with_reducible rfl)
  try simp only [Act.put, List.setIfInBounds_toArray, List.set_cons_zero, List.set_cons_succ]
  refine step_yes 7 62 ?_ (by assumption) rfl rfl (by kernel_rfl) (by kernel_rfl) (by kernel_rfl) (fun _ _ _ h => h) (by rfl) ?_ ?_
  rotate_left
  · (intro w hSw; (try dsimp only at hSw); go_simp; try with_reducible rfl)
  try simp only [Act.put, List.setIfInBounds_toArray, List.set_cons_zero, List.set_cons_succ]
  refine step_yes 8 63 ?_ (by assumption) rfl rfl (by kernel_rfl) (by kernel_rfl) (by kernel_rfl) (fun _ _ _ h => h) (by rfl) ?_ ?_
  rotate_left
  · (intro w hSw; (try dsimp only at hSw); go_simp; try with_reducible rfl)
  try simp only [Act.put, List.setIfInBounds_toArray, List.set_cons_zero, List.set_cons_succ]
  refine step_yes 9 64 ?_ (by assumption) rfl rfl (by kernel_rfl) (by kernel_rfl) (by kernel_rfl) (fun _ _ _ h => h) (by rfl) ?_ ?_
  rotate_left
  · (intro w hSw; (try dsimp only at hSw); go_simp; try with_reducible rfl)
  try simp only [Act.put, List.setIfInBounds_toArray, List.set_cons_zero, List.set_cons_succ]
  refine step_yes 10 65 ?_ (by assumption) rfl rfl (by kernel_rfl) (by kernel_rfl) (by kernel_rfl) (fun _ _ _ h => h) (by rfl) ?_ ?_
  rotate_left
  · (intro w hSw; (try dsimp only at hSw); go_simp; try with_reducible rfl)
  try simp only [Act.put, List.setIfInBounds_toArray, List.set_cons_zero, List.set_cons_succ]
  refine step_yes 11 66 ?_ (by assumption) rfl rfl (by kernel_rfl) (by kernel_rfl) (by kernel_rfl) (fun _ _ _ h => h) (by rfl) ?_ ?_
  rotate_left
  · (intro w hSw; (try dsimp only at hSw); go_simp; try with_reducible rfl)
  try simp only [Act.put, List.setIfInBounds_toArray, List.set_cons_zero, List.set_cons_succ]
  refine step_yes 12 67 ?_ (by assumption) rfl rfl (by kernel_rfl) (by kernel_rfl) (by kernel_rfl) (fun _ _ _ h => h) (by rfl) ?_ ?_
  rotate_left
  · (intro w hSw; (try dsimp only at hSw); go_simp; try with_reducible rfl)
  try simp only [Act.put, List.setIfInBounds_toArray, List.set_cons_zero, List.set_cons_succ]
  refine step_yes 13 68 ?_ (by assumption) rfl rfl (by kernel_rfl) (by kernel_rfl) (by kernel_rfl) (fun _ _ _ h => h) (by rfl) ?_ ?_
  rotate_left
  · (intro w hSw; (try dsimp only at hSw); go_simp; try with_reducible rfl)
  try simp only [Act.put, List.setIfInBounds_toArray, List.set_cons_zero, List.set_cons_succ]
  refine step_yes 14 69 ?_ (by assumption) rfl rfl (by kernel_rfl) (by kernel_rfl) (by kernel_rfl) (fun _ _ _ h => h) (by rfl) ?_ ?_
  rotate_left
  · (intro w hSw; (try dsimp only at hSw); go_simp; try with_reducible rfl)
  try simp only [Act.put, List.setIfInBounds_toArray, List.set_cons_zero, List.set_cons_succ]
  refine step_yes 15 70 ?_ (by assumption) rfl rfl (by kernel_rfl) (by kernel_rfl) (by kernel_rfl) (fun _ _ _ h => h) (by rfl) ?_ ?_
  rotate_left
  · (intro w hSw; (try dsimp only at hSw); go_simp; try with_reducible rfl)
  try simp only [Act.put, List.setIfInBounds_toArray, List.set_cons_zero, List.set_cons_succ]
  refine step_yes 16 71 ?_ (by assumption) rfl rfl (by kernel_rfl) (by kernel_rfl) (by kernel_rfl) (fun _ _ _ h => h) (by rfl) ?_ ?_
  rotate_left
  · (intro w hSw; (try dsimp only at hSw); go_simp; try with_reducible rfl)
  try simp only [Act.put, List.setIfInBounds_toArray, List.set_cons_zero, List.set_cons_succ]
  refine step_yes 17 72 ?_ (by assumption) rfl rfl (by kernel_rfl) (by kernel_rfl) (by kernel_rfl) (fun _ _ _ h => h) (by rfl) ?_ ?_
  rotate_left
  · (intro w hSw; (try dsimp only at hSw); go_simp; try with_reducible rfl)
  try simp only [Act.put, List.setIfInBounds_toArray, List.set_cons_zero, List.set_cons_succ]
  refine step_yes 18 73 ?_ (by assumption) rfl rfl (by kernel_rfl) (by kernel_rfl) (by kernel_rfl) (fun _ _ _ h => h) (by rfl) ?_ ?_
  rotate_left
  · (intro w hSw; (try dsimp only at hSw); have z := HZ.out _ hSw; go_simp; try with_reducible rfl)
  try simp only [Act.put, List.setIfInBounds_toArray, List.set_cons_zero, List.set_cons_succ]
  refine step_yes 19 74 ?_ (by assumption) rfl rfl (by kernel_rfl) (by kernel_rfl) (by kernel_rfl) (fun _ _ _ h => h) (by rfl) ?_ ?_
  rotate_left
  · (intro w hSw; (try dsimp only at hSw); go_simp; try with_reducible rfl)
  try simp only [Act.put, List.setIfInBounds_toArray, List.set_cons_zero, List.set_cons_succ]
  refine wpAnyH_ready (rs := [20]) (by kernel_rfl) (by simp) ?_
  refine AllReadyH.cons rfl (fun K hK => ?_) AllReadyH.nil
  replace hK := Lib.hid hK
  go_simp
  refine (BA.out _).mono ?_
  rintro e v1 ⟨rfl, hb⟩
  have C1 := Lib.hid (hHeld.trans (below_chg2 hb))
  clear hb hHeld
  refine hK.out _ _ C1.out (fun hHeld => ?_)
  clear hK K
  try simp only [Act.put, List.setIfInBounds_toArray, List.set_cons_zero, List.set_cons_succ]
  refine step_yes 21 76 ?_ (by assumption) rfl rfl (by kernel_rfl) (by kernel_rfl) (by kernel_rfl) (fun _ _ _ h => h) (by rfl) ?_ ?_
  rotate_left
  · (intro w hSw; (try dsimp only at hSw); go_simp; try with_reducible rfl)
  try simp only [Act.put, List.setIfInBounds_toArray, List.set_cons_zero, List.set_cons_succ]
  refine step_yes 22 77 ?_ (by assumption) rfl rfl (by kernel_rfl) (by kernel_rfl) (by kernel_rfl) (fun _ _ _ h => h) (by rfl) ?_ ?_
  rotate_left
  · (intro w hSw; (try dsimp only at hSw); go_simp; try with_reducible rfl)
  try simp only [Act.put, List.setIfInBounds_toArray, List.set_cons_zero, List.set_cons_succ]
  refine step_yes 23 78 ?_ (by assumption) rfl rfl (by kernel_rfl) (by kernel_rfl) (by kernel_rfl) (fun _ _ _ h => h) (by rfl) ?_ ?_
  rotate_left
  · (intro w hSw; (try dsimp only at hSw); go_simp; try with_reducible rfl)
  try simp only [Act.put, List.setIfInBounds_toArray, List.set_cons_zero, List.set_cons_succ]
  refine step_yes 24 79 ?_ (by assumption) rfl rfl (by kernel_rfl) (by kernel_rfl) (by kernel_rfl) (fun _ _ _ h => h) (by rfl) ?_ ?_
  rotate_left
  · (intro w hSw; (try dsimp only at hSw); go_simp; try with_reducible rfl)
  try simp only [Act.put, List.setIfInBounds_toArray, List.set_cons_zero, List.set_cons_succ]
  refine step_yes 25 80 ?_ (by assumption) rfl rfl (by kernel_rfl) (by kernel_rfl) (by kernel_rfl) (fun _ _ _ h => h) (by rfl) ?_ ?_
  rotate_left
  · (intro w hSw; (try dsimp only at hSw); go_simp; try with_reducible rfl)
  try simp only [Act.put, List.setIfInBounds_toArray, List.set_cons_zero, List.set_cons_succ]
  refine step_yes 26 81 ?_ (by assumption) rfl rfl (by kernel_rfl) (by kernel_rfl) (by kernel_rfl) (fun _ _ _ h => h) (by rfl) ?_ ?_
  rotate_left
  · (intro w hSw; (try dsimp only at hSw); go_simp; try with_reducible rfl)
  try simp only [Act.put, List.setIfInBounds_toArray, List.set_cons_zero, List.set_cons_succ]
  refine step_yes 27 82 ?_ (by assumption) rfl rfl (by kernel_rfl) (by kernel_rfl) (by kernel_rfl) (fun _ _ _ h => h) (by rfl) ?_ ?_
  rotate_left
  · (intro w hSw; (try dsimp only at hSw); go_simp; try with_reducible rfl)
  try simp only [Act.put, List.setIfInBounds_toArray, List.set_cons_zero, List.set_cons_succ]
  refine step_yes 28 83 ?_ (by assumption) rfl rfl (by kernel_rfl) (by kernel_rfl) (by kernel_rfl) (fun _ _ _ h => h) (by rfl) ?_ ?_
  rotate_left
  · (intro w hSw; (try dsimp only at hSw); go_simp; try with_reducible rfl)
  try simp only [Act.put, List.setIfInBounds_toArray, List.set_cons_zero, List.set_cons_succ]
  refine step_yes 29 84 ?_ (by assumption) rfl rfl (by kernel_rfl) (by kernel_rfl) (by kernel_rfl) (fun _ _ _ h => h) (by rfl) ?_ ?_
  rotate_left
  · (intro w hSw; (try dsimp only at hSw); go_simp; try with_reducible rfl)
  try simp only [Act.put, List.setIfInBounds_toArray, List.set_cons_zero, List.set_cons_succ]
  refine step_yes 30 85 ?_ (by assumption) rfl rfl (by kernel_rfl) (by kernel_rfl) (by kernel_rfl) (fun _ _ _ h => h) (by rfl) ?_ ?_
  rotate_left
  · (intro w hSw; (try dsimp only at hSw); go_simp; try with_reducible rfl)
  try simp only [Act.put, List.setIfInBounds_toArray, List.set_cons_zero, List.set_cons_succ]
  refine step_yes 31 86 ?_ (by assumption) rfl rfl (by kernel_rfl) (by kernel_rfl) (by kernel_rfl) (fun _ _ _ h => h) (by rfl) ?_ ?_
  rotate_left
  · (intro w hSw; (try dsimp only at hSw); go_simp; try with_reducible rfl)
  try simp only [Act.put, List.setIfInBounds_toArray, List.set_cons_zero, List.set_cons_succ]
  refine step_yes 32 87 ?_ (by assumption) rfl rfl (by kernel_rfl) (by kernel_rfl) (by kernel_rfl) (fun _ _ _ h => h) (by rfl) ?_ ?_
  rotate_left
  · (intro w hSw; (try dsimp only at hSw); go_simp; try with_reducible rfl)
  try simp only [Act.put, List.setIfInBounds_toArray, List.set_cons_zero, List.set_cons_succ]
  refine step_no 33 88 (by assumption) rfl rfl (by kernel_rfl) (by kernel_rfl) (by kernel_rfl) (fun _ _ _ h => h) (by rfl) ?_
  try simp only [Act.put, List.setIfInBounds_toArray, List.set_cons_zero, List.set_cons_succ]
  refine step_no 34 89 (by assumption) rfl rfl (by kernel_rfl) (by kernel_rfl) (by kernel_rfl) (fun _ _ _ h => h) (by rfl) ?_
  try simp only [Act.put, List.setIfInBounds_toArray, List.set_cons_zero, List.set_cons_succ]
  refine step_no 35 90 (by assumption) rfl rfl (by kernel_rfl) (by kernel_rfl) (by kernel_rfl) (fun _ _ _ h => h) (by rfl) ?_
  try simp only [Act.put, List.setIfInBounds_toArray, List.set_cons_zero, List.set_cons_succ]
  refine step_no 36 91 (by assumption) rfl rfl (by kernel_rfl) (by kernel_rfl) (by kernel_rfl) (fun _ _ _ h => h) (by rfl) ?_
  try simp only [Act.put, List.setIfInBounds_toArray, List.set_cons_zero, List.set_cons_succ]
  refine step_no 37 92 (by assumption) rfl rfl (by kernel_rfl) (by kernel_rfl) (by kernel_rfl) (fun _ _ _ h => h) (by rfl) ?_
  try simp only [Act.put, List.setIfInBounds_toArray, List.set_cons_zero, List.set_cons_succ]
  refine step_no 38 93 (by assumption) rfl rfl (by kernel_rfl) (by kernel_rfl) (by kernel_rfl) (fun _ _ _ h => h) (by rfl) ?_
  try simp only [Act.put, List.setIfInBounds_toArray, List.set_cons_zero, List.set_cons_succ]
  refine step_no 39 94 (by assumption) rfl rfl (by kernel_rfl) (by kernel_rfl) (by kernel_rfl) (fun _ _ _ h => h) (by rfl) ?_
  try simp only [Act.put, List.setIfInBounds_toArray, List.set_cons_zero, List.set_cons_succ]
  refine step_no 40 95 (by assumption) rfl rfl (by kernel_rfl) (by kernel_rfl) (by kernel_rfl) (fun _ _ _ h => h) (by rfl) ?_
  try simp only [Act.put, List.setIfInBounds_toArray, List.set_cons_zero, List.set_cons_succ]
  refine step_no 41 96 (by assumption) rfl rfl (by kernel_rfl) (by kernel_rfl) (by kernel_rfl) (fun _ _ _ h => h) (by rfl) ?_
  try simp only [Act.put, List.setIfInBounds_toArray, List.set_cons_zero, List.set_cons_succ]
  refine step_no 42 97 (by assumption) rfl rfl (by kernel_rfl) (by kernel_rfl) (by kernel_rfl) (fun _ _ _ h => h) (by rfl) ?_
  try simp only [Act.put, List.setIfInBounds_toArray, List.set_cons_zero, List.set_cons_succ]
  refine step_no 43 98 (by assumption) rfl rfl (by kernel_rfl) (by kernel_rfl) (by kernel_rfl) (fun _ _ _ h => h) (by rfl) ?_
  try simp only [Act.put, List.setIfInBounds_toArray, List.set_cons_zero, List.set_cons_succ]
  refine step_no 44 99 (by assumption) rfl rfl (by kernel_rfl) (by kernel_rfl) (by kernel_rfl) (fun _ _ _ h => h) (by rfl) ?_
  try simp only [Act.put, List.setIfInBounds_toArray, List.set_cons_zero, List.set_cons_succ]
  refine step_no 45 100 (by assumption) rfl rfl (by kernel_rfl) (by kernel_rfl) (by kernel_rfl) (fun _ _ _ h => h) (by rfl) ?_
  try simp only [Act.put, List.setIfInBounds_toArray, List.set_cons_zero, List.set_cons_succ]
  refine step_no 46 101 (by assumption) rfl rfl (by kernel_rfl) (by kernel_rfl) (by kernel_rfl) (fun _ _ _ h => h) (by rfl) ?_
  try simp only [Act.put, List.setIfInBounds_toArray, List.set_cons_zero, List.set_cons_succ]
  refine step_no 47 102 (by assumption) rfl rfl (by kernel_rfl) (by kernel_rfl) (by kernel_rfl) (fun _ _ _ h => h) (by rfl) ?_
  try simp only [Act.put, List.setIfInBounds_toArray, List.set_cons_zero, List.set_cons_succ]
  refine step_no 48 103 (by assumption) rfl rfl (by kernel_rfl) (by kernel_rfl) (by kernel_rfl) (fun _ _ _ h => h) (by rfl) ?_
  try simp only [Act.put, List.setIfInBounds_toArray, List.set_cons_zero, List.set_cons_succ]
  refine step_no 49 104 (by assumption) rfl rfl (by kernel_rfl) (by kernel_rfl) (by kernel_rfl) (fun _ _ _ h => h) (by rfl) ?_
  try simp only [Act.put, List.setIfInBounds_toArray, List.set_cons_zero, List.set_cons_succ]
  refine step_no 50 105 (by assumption) rfl rfl (by kernel_rfl) (by kernel_rfl) (by kernel_rfl) (fun _ _ _ h => h) (by rfl) ?_
  try simp only [Act.put, List.setIfInBounds_toArray, List.set_cons_zero, List.set_cons_succ]
  refine step_yes 51 106 ?_ (by assumption) rfl rfl (by kernel_rfl) (by kernel_rfl) (by kernel_rfl) (fun _ _ _ h => h) (by rfl) ?_ ?_
  rotate_left
  · (intro w hSw; (try dsimp only at hSw); go_simp; try with_reducible rfl)
  try simp only [Act.put, List.setIfInBounds_toArray, List.set_cons_zero, List.set_cons_succ]
  refine step_yes 52 107 ?_ (by assumption) rfl rfl (by kernel_rfl) (by kernel_rfl) (by kernel_rfl) (fun _ _ _ h => h) (by rfl) ?_ ?_
  rotate_left
  · (intro w hSw; (try dsimp only at hSw); go_simp; try with_reducible rfl)
  try simp only [Act.put, List.setIfInBounds_toArray, List.set_cons_zero, List.set_cons_succ]
  refine wpAnyH_done (by kernel_rfl) ?_ _
  have K7 := Lib.hid (K6.out.trans C1.out)
  have X7 := Lib.hid (HX.out.chg K7.out (by simp))
  go_wp2_with fail
  refine (JX.out _ X7.out).mono ?_
  rintro e w8 ⟨rfl, h8⟩
  have K8 := Lib.hid (K7.out.trans (below_chg2 h8))
  clear h8
  go_wp2_with fail
  refine (SX.out _).mono ?_
  rintro e w10 ⟨g2, hg, rfl, b3, h3⟩
  have K10 := Lib.hid (K8.out.trans h3)
  have Y10 := Lib.hid b3
  have X10 := Lib.hid (HX.out.chg K10.out (by simp))
  clear h3 b3 hg
  go_wp2_with fail
  refine (ST.out _ _ Y10.out X10.out).mono ?_
  rintro e w11 ⟨rfl, h11⟩
  have K11 := Lib.hid (K10.out.trans h11)
  clear h11
  go_wp2
  go_ret
  exact ⟨rfl, K11.out⟩

set_option maxRecDepth 100000 in
set_option maxHeartbeats 4000000 in
theorem pathback_tff (w : World) (s : List UInt8) (A : Option Addr) (c : Nat) (xs : List (List UInt8)) (h : RdK textTy w A xs.length xs) (hc : xs.length ≤ c) (hn : xs.length ≤ 140737488351232)
    (hs : s.length ≤ 200) (hl : longT xs = false) (ho : okP s = true) (hp : hasParent s = false) (hq : partsL xs = false) : Calls Tryd.prog 7 #[.string (strOf s), .slice A xs.length c] w fun e w' => e = .returned (.bool true) ∧ Chg [] w w' := by
  have KN := Lib.hid (fun W => pathKnownR_run W)
  have HX := Lib.hid h
  have sz := strOf_size s
  have i1 : ¬ ((200 : Int) < (s.length : Int)) := by omega
  have i2 : ¬ ((200 : Int) < ((strOf s).size : Int)) := by omega
  have LG := Lib.hid (fun W h => hl ▸ long_any W A c xs h hn)
  obtain ⟨u1, u2, u3⟩ := unc_short hl
  have CK := Lib.hid (phcheck_p s true ho (by omega))
  have JX := Lib.hid (fun w h => phjoin_f w A c xs h (by omega) hq)
  have OP := ok_parts ho
  have hl6 : (cutL s).length ≤ 6 := by have := OP.1; unfold partsL at this; simp at this; omega
  have hne := cutA_ne [] s
  have hb : baseL s = (cutL s).getLast hne := by unfold baseL; rw [if_pos ho]
  have LA := last_at (l := cutL s) hne
  rw [show (cutL s).getLast hne = baseL s from hb.symm] at LA
  have hcl : ∀ x ∈ cutL s, x.length ≤ 10000000 := fun x hx => by have := cutA_short s [] x hx; simp at this; omega
  have SP := Lib.hid (fun w => phsplit_yes w s (by omega) ho)
  have JN := Lib.hid (fun (w : World) (g : Nat) (h1 : w.heap[g]? = some (.cells ((cutL s).map tv).toArray 9 (0, 0))) => phjoin_t w (some ⟨g, 0, none⟩) (cutL s).length (cutL s) (rd_row h1 (by omega)) (Nat.le_refl _) (by omega) hcl OP.1)
  rw [OP.2] at JN
  have PA := Lib.hid (fun w => hp ▸ phparent_any w s (by omega))
  have BA := Lib.hid (fun w => phbase_any w s (by omega))
  have hm1 : 1 ≤ (cutL s).length := List.length_pos_iff.2 hne
  have hm2 : decide ((1 : Int) < ((cutL s).length : Int)) = false := by
    unfold hasParent at hp
    rw [ho, Bool.true_and] at hp
    rw [← hp, Bool.eq_iff_iff, decide_eq_true_eq, decide_eq_true_eq]
    omega
  generalize parentL s = pp at *
  generalize baseL s = bb at *
  clear OP hb hcl
  generalize cutL s = ys at *
  have m1 : ¬ ((ys.length : Int) < 1) := by omega
  have m2 : ((ys.length : Int) - 1) = ((ys.length - 1 : Nat) : Int) := by omega
  have m3 : IntKind.i64.wrap ((ys.length - 1 : Nat) : Int) = ((ys.length - 1 : Nat) : Int) := IntWalk.i64_in _ (by omega)
  have m4 : ((ys.length - 1 : Nat) : Int) < (ys.length : Int) := by omega
  have m5 : (0 : Int) ≤ ((ys.length - 1 : Nat) : Int) := by omega
  have m6 : decide ((ys.length : Int) < 1) = false := by simp; omega
  have m7 : decide (1 < ys.length) = false := by rw [← hm2, Bool.eq_iff_iff, decide_eq_true_eq, decide_eq_true_eq]; omega
  have m8 : ¬ ys.length = 0 := by omega
  have LL := Lib.hid LA
  clear LA hne hp
  clear hs hl ho hq h sz u1 u2 u3 hn hc
  go_enter Tryd.func7, Tryd.ntmps7
  go_wp2_with fail
  refine (KN.out _).mono ?_
  rintro e w1 ⟨rfl, h1⟩
  have K1 := Lib.hid h1
  clear h1
  have X1 := Lib.hid (HX.out.chg K1.out (by simp))
  go_wp2_with fail
  refine (LG.out _ X1.out).mono ?_
  rintro e w2 ⟨rfl, rfl⟩
  go_wp2_with fail
  refine (SP.out _).mono ?_
  rintro e w3 ⟨g, hg, rfl, b3, h3⟩
  have K3 := Lib.hid (K1.out.trans h3)
  have G3 := Lib.hid b3
  clear h3 b3 hg
  go_wp2_with fail
  refine (CK.out _).mono ?_
  rintro e w4 ⟨rfl, h4⟩
  have K4 := Lib.hid (K3.out.trans (below_chg2 h4))
  have G4 := Lib.hid ((below_chg2 h4).at_ G3.out (by simp))
  clear h4
  go_wp2_with fail
  refine (JN.out _ _ G4.out).mono ?_
  rintro e w5 ⟨rfl, h5⟩
  have K5 := Lib.hid (K4.out.trans (below_chg2 h5))
  have G5 := Lib.hid ((below_chg2 h5).at_ G4.out (by simp))
  clear h5
  go_wp2_with fail
  refine (PA.out _).mono ?_
  rintro e w6 ⟨rfl, h6⟩
  have K6 := Lib.hid (K5.out.trans (below_chg2 h6))
  have G6 := Lib.hid ((below_chg2 h6).at_ G5.out (by simp))
  clear h6
  have HZ := Lib.hid (fun (w' : World) (hc : Chg [] w6 w') => (cell_of (hc.at_ G6.out (by simp)) (ys.length - 1)).trans (show ((ys.map tv).toArray)[ys.length - 1]? = some (.string (strOf bb)) by rw [List.getElem?_toArray, List.getElem?_map, LL.out]; rfl))
  go_upto_region 10 with fail
  refine wp_region_held_drew (S := fun w' => Chg [] w6 w') (by kernel_rfl) (Chg.refl [] w6).drew (fun hHeld => ?_)
  refine step_yes 0 55 ?_ (by assumption) rfl rfl (by kernel_rfl) (by kernel_rfl) (by kernel_rfl) (fun _ _ _ h => h) (by rfl) ?_ ?_
  rotate_left
  · (intro w hSw; (try dsimp only at hSw); go_simp; try with_reducible rfl)
  try simp only [Act.put, List.setIfInBounds_toArray, List.set_cons_zero, List.set_cons_succ]
  refine step_yes 1 56 ?_ (by assumption) rfl rfl (by kernel_rfl) (by kernel_rfl) (by kernel_rfl) (fun _ _ _ h => h) (by rfl) ?_ ?_
  rotate_left
  · (intro w hSw; (try dsimp only at hSw); go_simp; try with_reducible rfl)
  try simp only [Act.put, List.setIfInBounds_toArray, List.set_cons_zero, List.set_cons_succ]
  refine step_yes 2 57 ?_ (by assumption) rfl rfl (by kernel_rfl) (by kernel_rfl) (by kernel_rfl) (fun _ _ _ h => h) (by rfl) ?_ ?_
  rotate_left
  · (intro w hSw; (try dsimp only at hSw); go_simp; try with_reducible rfl)
  try simp only [Act.put, List.setIfInBounds_toArray, List.set_cons_zero, List.set_cons_succ]
  refine step_yes 3 58 ?_ (by assumption) rfl rfl (by kernel_rfl) (by kernel_rfl) (by kernel_rfl) (fun _ _ _ h => h) (by rfl) ?_ ?_
  rotate_left
  · (intro w hSw; (try dsimp only at hSw); go_simp; try with_reducible rfl)
  try simp only [Act.put, List.setIfInBounds_toArray, List.set_cons_zero, List.set_cons_succ]
  refine step_yes 4 59 ?_ (by assumption) rfl rfl (by kernel_rfl) (by kernel_rfl) (by kernel_rfl) (fun _ _ _ h => h) (by rfl) ?_ ?_
  rotate_left
  · (intro w hSw; (try dsimp only at hSw); go_simp; try with_reducible rfl)
  try simp only [Act.put, List.setIfInBounds_toArray, List.set_cons_zero, List.set_cons_succ]
  refine step_yes 5 60 ?_ (by assumption) rfl rfl (by kernel_rfl) (by kernel_rfl) (by kernel_rfl) (fun _ _ _ h => h) (by rfl) ?_ ?_
  rotate_left
  · (intro w hSw; (try dsimp only at hSw); go_simp; try with_reducible rfl)
  try simp only [Act.put, List.setIfInBounds_toArray, List.set_cons_zero, List.set_cons_succ]
  refine step_yes 6 61 ?_ (by assumption) rfl rfl (by kernel_rfl) (by kernel_rfl) (by kernel_rfl) (fun _ _ _ h => h) (by rfl) ?_ ?_
  rotate_left
  · (intro w hSw; (try dsimp only at hSw); go_simp; try with_reducible rfl)
  try simp only [Act.put, List.setIfInBounds_toArray, List.set_cons_zero, List.set_cons_succ]
  refine step_yes 7 62 ?_ (by assumption) rfl rfl (by kernel_rfl) (by kernel_rfl) (by kernel_rfl) (fun _ _ _ h => h) (by rfl) ?_ ?_
  rotate_left
  · (intro w hSw; (try dsimp only at hSw); go_simp; try with_reducible rfl)
  try simp only [Act.put, List.setIfInBounds_toArray, List.set_cons_zero, List.set_cons_succ]
  refine step_yes 8 63 ?_ (by assumption) rfl rfl (by kernel_rfl) (by kernel_rfl) (by kernel_rfl) (fun _ _ _ h => h) (by rfl) ?_ ?_
  rotate_left
  · (intro w hSw; (try dsimp only at hSw); go_simp; try with_reducible rfl)
  try simp only [Act.put, List.setIfInBounds_toArray, List.set_cons_zero, List.set_cons_succ]
  refine step_yes 9 64 ?_ (by assumption) rfl rfl (by kernel_rfl) (by kernel_rfl) (by kernel_rfl) (fun _ _ _ h => h) (by rfl) ?_ ?_
  rotate_left
  · (intro w hSw; (try dsimp only at hSw); go_simp; try with_reducible rfl)
  try simp only [Act.put, List.setIfInBounds_toArray, List.set_cons_zero, List.set_cons_succ]
  refine step_yes 10 65 ?_ (by assumption) rfl rfl (by kernel_rfl) (by kernel_rfl) (by kernel_rfl) (fun _ _ _ h => h) (by rfl) ?_ ?_
  rotate_left
  · (intro w hSw; (try dsimp only at hSw); go_simp; try with_reducible rfl)
  try simp only [Act.put, List.setIfInBounds_toArray, List.set_cons_zero, List.set_cons_succ]
  refine step_yes 11 66 ?_ (by assumption) rfl rfl (by kernel_rfl) (by kernel_rfl) (by kernel_rfl) (fun _ _ _ h => h) (by rfl) ?_ ?_
  rotate_left
  · (intro w hSw; (try dsimp only at hSw); go_simp; try with_reducible rfl)
  try simp only [Act.put, List.setIfInBounds_toArray, List.set_cons_zero, List.set_cons_succ]
  refine step_yes 12 67 ?_ (by assumption) rfl rfl (by kernel_rfl) (by kernel_rfl) (by kernel_rfl) (fun _ _ _ h => h) (by rfl) ?_ ?_
  rotate_left
  · (intro w hSw; (try dsimp only at hSw); go_simp; try with_reducible rfl)
  try simp only [Act.put, List.setIfInBounds_toArray, List.set_cons_zero, List.set_cons_succ]
  refine step_yes 13 68 ?_ (by assumption) rfl rfl (by kernel_rfl) (by kernel_rfl) (by kernel_rfl) (fun _ _ _ h => h) (by rfl) ?_ ?_
  rotate_left
  · (intro w hSw; (try dsimp only at hSw); go_simp; try with_reducible rfl)
  try simp only [Act.put, List.setIfInBounds_toArray, List.set_cons_zero, List.set_cons_succ]
  refine step_yes 14 69 ?_ (by assumption) rfl rfl (by kernel_rfl) (by kernel_rfl) (by kernel_rfl) (fun _ _ _ h => h) (by rfl) ?_ ?_
  rotate_left
  · (intro w hSw; (try dsimp only at hSw); go_simp; try with_reducible rfl)
  try simp only [Act.put, List.setIfInBounds_toArray, List.set_cons_zero, List.set_cons_succ]
  refine step_yes 15 70 ?_ (by assumption) rfl rfl (by kernel_rfl) (by kernel_rfl) (by kernel_rfl) (fun _ _ _ h => h) (by rfl) ?_ ?_
  rotate_left
  · (intro w hSw; (try dsimp only at hSw); go_simp; try with_reducible rfl)
  try simp only [Act.put, List.setIfInBounds_toArray, List.set_cons_zero, List.set_cons_succ]
  refine step_yes 16 71 ?_ (by assumption) rfl rfl (by kernel_rfl) (by kernel_rfl) (by kernel_rfl) (fun _ _ _ h => h) (by rfl) ?_ ?_
  rotate_left
  · (intro w hSw; (try dsimp only at hSw); go_simp; try with_reducible rfl)
  try simp only [Act.put, List.setIfInBounds_toArray, List.set_cons_zero, List.set_cons_succ]
  refine step_yes 17 72 ?_ (by assumption) rfl rfl (by kernel_rfl) (by kernel_rfl) (by kernel_rfl) (fun _ _ _ h => h) (by rfl) ?_ ?_
  rotate_left
  · (intro w hSw; (try dsimp only at hSw); go_simp; try with_reducible rfl)
  try simp only [Act.put, List.setIfInBounds_toArray, List.set_cons_zero, List.set_cons_succ]
  refine step_yes 18 73 ?_ (by assumption) rfl rfl (by kernel_rfl) (by kernel_rfl) (by kernel_rfl) (fun _ _ _ h => h) (by rfl) ?_ ?_
  rotate_left
  · (intro w hSw; (try dsimp only at hSw); have z := HZ.out _ hSw; go_simp; try with_reducible rfl)
  try simp only [Act.put, List.setIfInBounds_toArray, List.set_cons_zero, List.set_cons_succ]
  refine step_yes 19 74 ?_ (by assumption) rfl rfl (by kernel_rfl) (by kernel_rfl) (by kernel_rfl) (fun _ _ _ h => h) (by rfl) ?_ ?_
  rotate_left
  · (intro w hSw; (try dsimp only at hSw); go_simp; try with_reducible rfl)
  try simp only [Act.put, List.setIfInBounds_toArray, List.set_cons_zero, List.set_cons_succ]
  refine wpAnyH_ready (rs := [20]) (by kernel_rfl) (by simp) ?_
  refine AllReadyH.cons rfl (fun K hK => ?_) AllReadyH.nil
  replace hK := Lib.hid hK
  go_simp
  refine (BA.out _).mono ?_
  rintro e v1 ⟨rfl, hb⟩
  have C1 := Lib.hid (hHeld.trans (below_chg2 hb))
  clear hb hHeld
  refine hK.out _ _ C1.out (fun hHeld => ?_)
  clear hK K
  try simp only [Act.put, List.setIfInBounds_toArray, List.set_cons_zero, List.set_cons_succ]
  refine step_yes 21 76 ?_ (by assumption) rfl rfl (by kernel_rfl) (by kernel_rfl) (by kernel_rfl) (fun _ _ _ h => h) (by rfl) ?_ ?_
  rotate_left
  · (intro w hSw; (try dsimp only at hSw); go_simp; try with_reducible rfl)
  try simp only [Act.put, List.setIfInBounds_toArray, List.set_cons_zero, List.set_cons_succ]
  refine step_yes 22 77 ?_ (by assumption) rfl rfl (by kernel_rfl) (by kernel_rfl) (by kernel_rfl) (fun _ _ _ h => h) (by rfl) ?_ ?_
  rotate_left
  · (intro w hSw; (try dsimp only at hSw); go_simp; try with_reducible rfl)
  try simp only [Act.put, List.setIfInBounds_toArray, List.set_cons_zero, List.set_cons_succ]
  refine step_yes 23 78 ?_ (by assumption) rfl rfl (by kernel_rfl) (by kernel_rfl) (by kernel_rfl) (fun _ _ _ h => h) (by rfl) ?_ ?_
  rotate_left
  · (intro w hSw; (try dsimp only at hSw); go_simp; try with_reducible rfl)
  try simp only [Act.put, List.setIfInBounds_toArray, List.set_cons_zero, List.set_cons_succ]
  refine step_yes 24 79 ?_ (by assumption) rfl rfl (by kernel_rfl) (by kernel_rfl) (by kernel_rfl) (fun _ _ _ h => h) (by rfl) ?_ ?_
  rotate_left
  · (intro w hSw; (try dsimp only at hSw); go_simp; try with_reducible rfl)
  try simp only [Act.put, List.setIfInBounds_toArray, List.set_cons_zero, List.set_cons_succ]
  refine step_yes 25 80 ?_ (by assumption) rfl rfl (by kernel_rfl) (by kernel_rfl) (by kernel_rfl) (fun _ _ _ h => h) (by rfl) ?_ ?_
  rotate_left
  · (intro w hSw; (try dsimp only at hSw); go_simp; try with_reducible rfl)
  try simp only [Act.put, List.setIfInBounds_toArray, List.set_cons_zero, List.set_cons_succ]
  refine step_yes 26 81 ?_ (by assumption) rfl rfl (by kernel_rfl) (by kernel_rfl) (by kernel_rfl) (fun _ _ _ h => h) (by rfl) ?_ ?_
  rotate_left
  · (intro w hSw; (try dsimp only at hSw); go_simp; try with_reducible rfl)
  try simp only [Act.put, List.setIfInBounds_toArray, List.set_cons_zero, List.set_cons_succ]
  refine step_yes 27 82 ?_ (by assumption) rfl rfl (by kernel_rfl) (by kernel_rfl) (by kernel_rfl) (fun _ _ _ h => h) (by rfl) ?_ ?_
  rotate_left
  · (intro w hSw; (try dsimp only at hSw); go_simp; try with_reducible rfl)
  try simp only [Act.put, List.setIfInBounds_toArray, List.set_cons_zero, List.set_cons_succ]
  refine step_yes 28 83 ?_ (by assumption) rfl rfl (by kernel_rfl) (by kernel_rfl) (by kernel_rfl) (fun _ _ _ h => h) (by rfl) ?_ ?_
  rotate_left
  · (intro w hSw; (try dsimp only at hSw); go_simp; try with_reducible rfl)
  try simp only [Act.put, List.setIfInBounds_toArray, List.set_cons_zero, List.set_cons_succ]
  refine step_yes 29 84 ?_ (by assumption) rfl rfl (by kernel_rfl) (by kernel_rfl) (by kernel_rfl) (fun _ _ _ h => h) (by rfl) ?_ ?_
  rotate_left
  · (intro w hSw; (try dsimp only at hSw); go_simp; try with_reducible rfl)
  try simp only [Act.put, List.setIfInBounds_toArray, List.set_cons_zero, List.set_cons_succ]
  refine step_yes 30 85 ?_ (by assumption) rfl rfl (by kernel_rfl) (by kernel_rfl) (by kernel_rfl) (fun _ _ _ h => h) (by rfl) ?_ ?_
  rotate_left
  · (intro w hSw; (try dsimp only at hSw); go_simp; try with_reducible rfl)
  try simp only [Act.put, List.setIfInBounds_toArray, List.set_cons_zero, List.set_cons_succ]
  refine step_yes 31 86 ?_ (by assumption) rfl rfl (by kernel_rfl) (by kernel_rfl) (by kernel_rfl) (fun _ _ _ h => h) (by rfl) ?_ ?_
  rotate_left
  · (intro w hSw; (try dsimp only at hSw); go_simp; try with_reducible rfl)
  try simp only [Act.put, List.setIfInBounds_toArray, List.set_cons_zero, List.set_cons_succ]
  refine step_yes 32 87 ?_ (by assumption) rfl rfl (by kernel_rfl) (by kernel_rfl) (by kernel_rfl) (fun _ _ _ h => h) (by rfl) ?_ ?_
  rotate_left
  · (intro w hSw; (try dsimp only at hSw); go_simp; try with_reducible rfl)
  try simp only [Act.put, List.setIfInBounds_toArray, List.set_cons_zero, List.set_cons_succ]
  refine step_no 33 88 (by assumption) rfl rfl (by kernel_rfl) (by kernel_rfl) (by kernel_rfl) (fun _ _ _ h => h) (by rfl) ?_
  try simp only [Act.put, List.setIfInBounds_toArray, List.set_cons_zero, List.set_cons_succ]
  refine step_no 34 89 (by assumption) rfl rfl (by kernel_rfl) (by kernel_rfl) (by kernel_rfl) (fun _ _ _ h => h) (by rfl) ?_
  try simp only [Act.put, List.setIfInBounds_toArray, List.set_cons_zero, List.set_cons_succ]
  refine step_no 35 90 (by assumption) rfl rfl (by kernel_rfl) (by kernel_rfl) (by kernel_rfl) (fun _ _ _ h => h) (by rfl) ?_
  try simp only [Act.put, List.setIfInBounds_toArray, List.set_cons_zero, List.set_cons_succ]
  refine step_no 36 91 (by assumption) rfl rfl (by kernel_rfl) (by kernel_rfl) (by kernel_rfl) (fun _ _ _ h => h) (by rfl) ?_
  try simp only [Act.put, List.setIfInBounds_toArray, List.set_cons_zero, List.set_cons_succ]
  refine step_no 37 92 (by assumption) rfl rfl (by kernel_rfl) (by kernel_rfl) (by kernel_rfl) (fun _ _ _ h => h) (by rfl) ?_
  try simp only [Act.put, List.setIfInBounds_toArray, List.set_cons_zero, List.set_cons_succ]
  refine step_no 38 93 (by assumption) rfl rfl (by kernel_rfl) (by kernel_rfl) (by kernel_rfl) (fun _ _ _ h => h) (by rfl) ?_
  try simp only [Act.put, List.setIfInBounds_toArray, List.set_cons_zero, List.set_cons_succ]
  refine step_no 39 94 (by assumption) rfl rfl (by kernel_rfl) (by kernel_rfl) (by kernel_rfl) (fun _ _ _ h => h) (by rfl) ?_
  try simp only [Act.put, List.setIfInBounds_toArray, List.set_cons_zero, List.set_cons_succ]
  refine step_no 40 95 (by assumption) rfl rfl (by kernel_rfl) (by kernel_rfl) (by kernel_rfl) (fun _ _ _ h => h) (by rfl) ?_
  try simp only [Act.put, List.setIfInBounds_toArray, List.set_cons_zero, List.set_cons_succ]
  refine step_no 41 96 (by assumption) rfl rfl (by kernel_rfl) (by kernel_rfl) (by kernel_rfl) (fun _ _ _ h => h) (by rfl) ?_
  try simp only [Act.put, List.setIfInBounds_toArray, List.set_cons_zero, List.set_cons_succ]
  refine step_no 42 97 (by assumption) rfl rfl (by kernel_rfl) (by kernel_rfl) (by kernel_rfl) (fun _ _ _ h => h) (by rfl) ?_
  try simp only [Act.put, List.setIfInBounds_toArray, List.set_cons_zero, List.set_cons_succ]
  refine step_no 43 98 (by assumption) rfl rfl (by kernel_rfl) (by kernel_rfl) (by kernel_rfl) (fun _ _ _ h => h) (by rfl) ?_
  try simp only [Act.put, List.setIfInBounds_toArray, List.set_cons_zero, List.set_cons_succ]
  refine step_no 44 99 (by assumption) rfl rfl (by kernel_rfl) (by kernel_rfl) (by kernel_rfl) (fun _ _ _ h => h) (by rfl) ?_
  try simp only [Act.put, List.setIfInBounds_toArray, List.set_cons_zero, List.set_cons_succ]
  refine step_no 45 100 (by assumption) rfl rfl (by kernel_rfl) (by kernel_rfl) (by kernel_rfl) (fun _ _ _ h => h) (by rfl) ?_
  try simp only [Act.put, List.setIfInBounds_toArray, List.set_cons_zero, List.set_cons_succ]
  refine step_no 46 101 (by assumption) rfl rfl (by kernel_rfl) (by kernel_rfl) (by kernel_rfl) (fun _ _ _ h => h) (by rfl) ?_
  try simp only [Act.put, List.setIfInBounds_toArray, List.set_cons_zero, List.set_cons_succ]
  refine step_no 47 102 (by assumption) rfl rfl (by kernel_rfl) (by kernel_rfl) (by kernel_rfl) (fun _ _ _ h => h) (by rfl) ?_
  try simp only [Act.put, List.setIfInBounds_toArray, List.set_cons_zero, List.set_cons_succ]
  refine step_no 48 103 (by assumption) rfl rfl (by kernel_rfl) (by kernel_rfl) (by kernel_rfl) (fun _ _ _ h => h) (by rfl) ?_
  try simp only [Act.put, List.setIfInBounds_toArray, List.set_cons_zero, List.set_cons_succ]
  refine step_no 49 104 (by assumption) rfl rfl (by kernel_rfl) (by kernel_rfl) (by kernel_rfl) (fun _ _ _ h => h) (by rfl) ?_
  try simp only [Act.put, List.setIfInBounds_toArray, List.set_cons_zero, List.set_cons_succ]
  refine step_no 50 105 (by assumption) rfl rfl (by kernel_rfl) (by kernel_rfl) (by kernel_rfl) (fun _ _ _ h => h) (by rfl) ?_
  try simp only [Act.put, List.setIfInBounds_toArray, List.set_cons_zero, List.set_cons_succ]
  refine step_yes 51 106 ?_ (by assumption) rfl rfl (by kernel_rfl) (by kernel_rfl) (by kernel_rfl) (fun _ _ _ h => h) (by rfl) ?_ ?_
  rotate_left
  · (intro w hSw; (try dsimp only at hSw); go_simp; try with_reducible rfl)
  try simp only [Act.put, List.setIfInBounds_toArray, List.set_cons_zero, List.set_cons_succ]
  refine step_yes 52 107 ?_ (by assumption) rfl rfl (by kernel_rfl) (by kernel_rfl) (by kernel_rfl) (fun _ _ _ h => h) (by rfl) ?_ ?_
  rotate_left
  · (intro w hSw; (try dsimp only at hSw); go_simp; try with_reducible rfl)
  try simp only [Act.put, List.setIfInBounds_toArray, List.set_cons_zero, List.set_cons_succ]
  refine wpAnyH_done (by kernel_rfl) ?_ _
  have K7 := Lib.hid (K6.out.trans C1.out)
  have X7 := Lib.hid (HX.out.chg K7.out (by simp))
  go_wp2_with fail
  refine (JX.out _ X7.out).mono ?_
  rintro e w8 ⟨rfl, h8⟩
  have K8 := Lib.hid (K7.out.trans (below_chg2 h8))
  clear h8
  go_wp2
  go_ret
  exact ⟨rfl, K8.out⟩

theorem pathback_walk (w : World) (s : List UInt8) (A : Option Addr) (c : Nat) (xs : List (List UInt8)) (h : RdK textTy w A xs.length xs) (hc : xs.length ≤ c) (hn : xs.length ≤ 140737488351232) :
    Calls Tryd.prog 7 #[.string (strOf s), .slice A xs.length c] w fun e w' => e = .returned (.bool true) ∧ Chg [] w w' := by
  by_cases hs : s.length ≤ 200
  · cases hl : longT xs with
    | true => exact pathback_b w s A c xs h hc hn hs hl
    | false =>
      cases hq : partsL xs with
      | true =>
        cases ho : okP s with
        | false => exact pathback_ft w s A c xs h hc hn hs hl ho hq
        | true =>
          cases hp : hasParent s with
          | true => exact pathback_ttt w s A c xs h hc hn hs hl ho hp hq
          | false => exact pathback_tft w s A c xs h hc hn hs hl ho hp hq
      | false =>
        cases ho : okP s with
        | false => exact pathback_ff w s A c xs h hc hn hs hl ho hq
        | true =>
          cases hp : hasParent s with
          | true => exact pathback_ttf w s A c xs h hc hn hs hl ho hp hq
          | false => exact pathback_tff w s A c xs h hc hn hs hl ho hp hq
  · exact pathback_a w s A c xs h hc hn (by omega)
theorem pathback_yes (w : World) (s : ByteArray) (A : Option Addr) (n c : Nat) (xs : List (List UInt8)) (h : RdK textTy w A n xs) (hc : n ≤ c) (hn : n * 16 ≤ 140737488351232) :
    Calls Tryd.prog 7 #[.string s, .slice A n c] w fun e w' => e = .returned (.bool true) ∧ Chg [] w w' := by
  have hl := h.len
  subst hl
  have := pathback_walk w s.data.toList A c xs h hc (by omega)
  rwa [strOf_of] at this
end Go.Proofs.YtibdeiahmgkbhaaDoor
