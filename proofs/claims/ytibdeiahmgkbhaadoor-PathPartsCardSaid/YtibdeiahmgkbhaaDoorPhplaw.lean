/- PathParts, walked. -/
import Derived.Test.YtibdeiahmgkbhaaDoorPhblaw
import Derived.Test.YtibdeiahmgkbhaaDoorPhlent
import Derived.Test.YtibdeiahmgkbhaaDoorPathAwake
namespace Go.Proofs.YtibdeiahmgkbhaaDoor
open Go.RowKit
set_option linter.unusedSimpArgs false
set_option linter.unusedVariables false


set_option maxRecDepth 100000 in
set_option maxHeartbeats 4000000 in
theorem pathparts_a (w : World) (s : List UInt8) (A : Option Addr) (c : Nat) (xs : List (List UInt8)) (h : RdK textTy w A xs.length xs) (hc : xs.length ≤ c) (hn : xs.length ≤ 140737488351232)
    (hs : 200 < s.length) : Calls Tryd.prog 3 #[.string (strOf s), .slice A xs.length c] w fun e w' => e = .returned (.bool true) ∧ Chg [] w w' := by
  have AW := Lib.hid (fun W => pathAwake_run W)
  have HX := Lib.hid h
  have sz := strOf_size s
  have i1 : (200 : Int) < (s.length : Int) := by omega
  have i2 : (200 : Int) < ((strOf s).size : Int) := by omega
  clear hs h sz
  go_enter Tryd.func3, Tryd.ntmps3
  go_wp2_with fail
  refine (AW.out _).mono ?_
  rintro e w1 ⟨rfl, h1⟩
  have K1 := Lib.hid h1
  clear h1
  go_wp2
  go_ret
  exact ⟨rfl, K1.out⟩

set_option maxRecDepth 100000 in
set_option maxHeartbeats 4000000 in
theorem pathparts_b (w : World) (s : List UInt8) (A : Option Addr) (c : Nat) (xs : List (List UInt8)) (h : RdK textTy w A xs.length xs) (hc : xs.length ≤ c) (hn : xs.length ≤ 140737488351232)
    (hs : s.length ≤ 200) (hl : longT xs = true) : Calls Tryd.prog 3 #[.string (strOf s), .slice A xs.length c] w fun e w' => e = .returned (.bool true) ∧ Chg [] w w' := by
  have AW := Lib.hid (fun W => pathAwake_run W)
  have HX := Lib.hid h
  have sz := strOf_size s
  have i1 : ¬ ((200 : Int) < (s.length : Int)) := by omega
  have i2 : ¬ ((200 : Int) < ((strOf s).size : Int)) := by omega
  have LG := Lib.hid (hl ▸ long_any w A c xs h hn)
  clear hs h sz hl
  go_enter Tryd.func3, Tryd.ntmps3
  go_wp2_with fail
  refine LG.out.mono ?_
  rintro e w0 ⟨rfl, rfl⟩
  go_wp2_with fail
  refine (AW.out _).mono ?_
  rintro e w1 ⟨rfl, h1⟩
  have K1 := Lib.hid h1
  clear h1
  go_wp2
  go_ret
  exact ⟨rfl, K1.out⟩

set_option maxRecDepth 100000 in
set_option maxHeartbeats 4000000 in
theorem pathparts_tt (w : World) (s : List UInt8) (A : Option Addr) (c : Nat) (xs : List (List UInt8)) (h : RdK textTy w A xs.length xs) (hc : xs.length ≤ c) (hn : xs.length ≤ 140737488351232)
    (hs : s.length ≤ 200) (hl : longT xs = false) (ho : okP s = true) (hq : partsL xs = true) : Calls Tryd.prog 3 #[.string (strOf s), .slice A xs.length c] w fun e w' => e = .returned (.bool true) ∧ Chg [] w w' := by
  have AW := Lib.hid (fun W => pathAwake_run W)
  have HX := Lib.hid h
  have sz := strOf_size s
  have i1 : ¬ ((200 : Int) < (s.length : Int)) := by omega
  have i2 : ¬ ((200 : Int) < ((strOf s).size : Int)) := by omega
  have LG := Lib.hid (hl ▸ long_any w A c xs h hn)
  obtain ⟨u1, u2, u3⟩ := unc_short hl
  have LN := Lib.hid (lent_any w A c xs h (by omega))
  have CK := Lib.hid (phcheck_p s true ho (by omega))
  have QC := Lib.hid (qcheck_p s true ho (by omega))
  have JX := Lib.hid (fun w B h => phjoin_t w B (xs.length + 3) xs h (by omega) (by omega) u3 hq)
  have QJ := Lib.hid (fun w h => qhjoin_t w A c xs h (by omega) u3 hq)
  generalize unc xs = uu at *
  have SP := Lib.hid (fun w => phsplit_yes w s (by omega) ho)
  have QS := Lib.hid (fun w => qsplit_yes w s (by omega) ho)
  have PA := Lib.hid (fun w => phparent_any w s (by omega))
  have QP := Lib.hid (fun w => qparent_any w s (by omega))
  have BA := Lib.hid (fun w => phbase_any w s (by omega))
  have QB := Lib.hid (fun w => qbase_any w s (by omega))
  have KP := Lib.hid (fun w g hB h => kept_any w g c A xs hB h (by omega))
  have hl6 : (cutL s).length ≤ 6 := by have := (ok_parts ho).1; unfold partsL at this; simp at this; omega
  generalize parentL s = pp at *
  generalize hasParent s = hp at *
  generalize baseL s = bb at *
  generalize cutL s = ys at *
  have e1 : (hp == hp) = true := by simp
  clear hs hl ho hq h sz u1 u3 hn hc
  go_enter Tryd.func3, Tryd.ntmps3
  go_wp2_with fail
  refine LG.out.mono ?_
  rintro e w0 ⟨rfl, rfl⟩
  go_wp2_with fail
  refine LN.out.mono ?_
  rintro e w2 ⟨g, rfl, hg, hB, h2⟩
  have hgl : g < w2.heap.size := by obtain ⟨g2, o2, e2, hlt⟩ := hB.line (by omega); cases e2; exact hlt
  have K2 := Lib.hid h2
  have B2 := Lib.hid hB
  have hp2 := hB.part 0 xs.length (by omega)
  rw [Nat.zero_mul, Nat.zero_add, List.drop_zero, List.take_left] at hp2
  have P2 := Lib.hid hp2
  clear h2 hB hp2 hg
  go_wp2_with fail
  refine (SP.out _).mono ?_
  rintro e w3 ⟨g3, hg3, rfl, b3, h3⟩
  have K3 := Lib.hid h3
  have G3 := Lib.hid b3
  have HG := Lib.hid hg3
  clear h3 b3
  go_wp2_with fail
  refine (QS.out _).mono ?_
  rintro e w4 ⟨A4, c4, rfl, o4, n4, h4⟩
  have K4 := Lib.hid (K3.out.trans h4)
  have G4 := Lib.hid (h4.at_ G3.out (by simp))
  have O4 := Lib.hid o4
  clear h4 o4 n4
  have P4 := Lib.hid (P2.out.chg K4.out (by simp))
  go_wp2_with fail
  refine (JX.out _ _ P4.out).mono ?_
  rintro e w5 ⟨rfl, h5⟩
  have D5 := Lib.hid (below_chg2 h5)
  have K5 := Lib.hid (K4.out.trans D5.out)
  clear h5
  have X5 := Lib.hid (HX.out.chg (K2.out.trans K5.out) (by simp))
  go_wp2_with fail
  refine (QJ.out _ X5.out).mono ?_
  rintro e w6 ⟨rfl, rfl⟩
  have E6 := Lib.hid D5.out
  go_wp2_with fail
  refine (PA.out _).mono ?_
  rintro e w7 ⟨rfl, h7⟩
  have K7 := Lib.hid (K5.out.trans (below_chg2 h7))
  have E7 := Lib.hid (E6.out.trans (below_chg2 h7))
  clear h7
  go_wp2_with fail
  refine (QP.out _).mono ?_
  rintro e w8 ⟨rfl, h8⟩
  have K8 := Lib.hid (K7.out.trans h8)
  have E8 := Lib.hid (E7.out.trans h8)
  clear h8
  have G8 := Lib.hid (rd_row (E8.out.at_ G4.out (by simp)) (by omega))
  have R8 := Lib.hid (O4.out.reads.chg E8.out (by simp))
  go_wp2_with fail
  refine (sametexts_any _ _ _ _ _ ys ys G8.out R8.out (by omega) (by omega)).mono ?_
  rw [show (ys == ys) = true by simp]
  rintro e w9 ⟨rfl, h9⟩
  have K9 := Lib.hid (K8.out.trans h9)
  have E9 := Lib.hid (E8.out.trans h9)
  clear h9
  go_wp2_with fail
  refine (CK.out _).mono ?_
  rintro e w10 ⟨rfl, h10⟩
  have K10 := Lib.hid (K9.out.trans (below_chg2 h10))
  have E10 := Lib.hid (E9.out.trans (below_chg2 h10))
  clear h10
  go_wp2_with fail
  refine (QC.out _).mono ?_
  rintro e w11 ⟨rfl, h11⟩
  have K11 := Lib.hid (K10.out.trans h11)
  have E11 := Lib.hid (E10.out.trans h11)
  clear h11
  go_wp2_with fail
  refine (BA.out _).mono ?_
  rintro e w12 ⟨rfl, h12⟩
  have K12 := Lib.hid (K11.out.trans (below_chg2 h12))
  have E12 := Lib.hid (E11.out.trans (below_chg2 h12))
  clear h12
  go_wp2_with fail
  refine (QB.out _).mono ?_
  rintro e w13 ⟨rfl, h13⟩
  have K13 := Lib.hid (K12.out.trans h13)
  have E13 := Lib.hid (E12.out.trans h13)
  clear h13
  have OW := Lib.hid (show OwnK textTy w13 (some ⟨g3, 0, none⟩) ys.length ys from OwnK.of (R := textTy) (full := ys) (by rw [flat_text]; exact E13.out.at_ G4.out (by simp)) (Nat.le_refl _) (by unfold maxLen; omega) rfl (List.take_length))
  go_wp2_with fail
  refine (overtexts_own _ _ _ _ ys OW.out rfl).mono ?_
  rintro e w14 ⟨rfl, h14⟩
  have h15 := h14 [g3] (by rintro a ha; cases ha; simp)
  have K14 := Lib.hid ((K2.out.trans K13.out).trans' h15 (fun i hi => by simp at hi; subst hi; exact .inr (Nat.le_trans K2.out.size HG.out)))
  have B14 := Lib.hid ((B2.out.chg K13.out (by simp)).chg h15 (by rintro a ha; cases ha; have := HG.out; simp; omega))
  clear h14 h15
  have X14 := Lib.hid (HX.out.chg K14.out (by simp))
  go_wp2_with fail
  refine (KP.out _ _ B14.out X14.out).mono ?_
  rintro e w15 ⟨rfl, h15⟩
  have K15 := Lib.hid (K14.out.trans h15)
  clear h15
  go_wp2_with fail
  refine (AW.out _).mono ?_
  rintro e w16 ⟨rfl, h16⟩
  have K16 := Lib.hid (K15.out.trans h16)
  clear h16
  go_wp2
  go_ret
  exact ⟨rfl, K16.out⟩

set_option maxRecDepth 100000 in
set_option maxHeartbeats 4000000 in
theorem pathparts_tf (w : World) (s : List UInt8) (A : Option Addr) (c : Nat) (xs : List (List UInt8)) (h : RdK textTy w A xs.length xs) (hc : xs.length ≤ c) (hn : xs.length ≤ 140737488351232)
    (hs : s.length ≤ 200) (hl : longT xs = false) (ho : okP s = true) (hq : partsL xs = false) : Calls Tryd.prog 3 #[.string (strOf s), .slice A xs.length c] w fun e w' => e = .returned (.bool true) ∧ Chg [] w w' := by
  have AW := Lib.hid (fun W => pathAwake_run W)
  have HX := Lib.hid h
  have sz := strOf_size s
  have i1 : ¬ ((200 : Int) < (s.length : Int)) := by omega
  have i2 : ¬ ((200 : Int) < ((strOf s).size : Int)) := by omega
  have LG := Lib.hid (hl ▸ long_any w A c xs h hn)
  obtain ⟨u1, u2, u3⟩ := unc_short hl
  have LN := Lib.hid (lent_any w A c xs h (by omega))
  have CK := Lib.hid (phcheck_p s true ho (by omega))
  have QC := Lib.hid (qcheck_p s true ho (by omega))
  have JX := Lib.hid (fun w B h => phjoin_f w B (xs.length + 3) xs h (by omega) hq)
  have QJ := Lib.hid (fun w h => qhjoin_f w A c xs h (by omega) u3 hq)
  have SP := Lib.hid (fun w => phsplit_yes w s (by omega) ho)
  have QS := Lib.hid (fun w => qsplit_yes w s (by omega) ho)
  have PA := Lib.hid (fun w => phparent_any w s (by omega))
  have QP := Lib.hid (fun w => qparent_any w s (by omega))
  have BA := Lib.hid (fun w => phbase_any w s (by omega))
  have QB := Lib.hid (fun w => qbase_any w s (by omega))
  have KP := Lib.hid (fun w g hB h => kept_any w g c A xs hB h (by omega))
  have hl6 : (cutL s).length ≤ 6 := by have := (ok_parts ho).1; unfold partsL at this; simp at this; omega
  generalize parentL s = pp at *
  generalize hasParent s = hp at *
  generalize baseL s = bb at *
  generalize cutL s = ys at *
  have e1 : (hp == hp) = true := by simp
  clear hs hl ho hq h sz u1 u3 hn hc
  go_enter Tryd.func3, Tryd.ntmps3
  go_wp2_with fail
  refine LG.out.mono ?_
  rintro e w0 ⟨rfl, rfl⟩
  go_wp2_with fail
  refine LN.out.mono ?_
  rintro e w2 ⟨g, rfl, hg, hB, h2⟩
  have hgl : g < w2.heap.size := by obtain ⟨g2, o2, e2, hlt⟩ := hB.line (by omega); cases e2; exact hlt
  have K2 := Lib.hid h2
  have B2 := Lib.hid hB
  have hp2 := hB.part 0 xs.length (by omega)
  rw [Nat.zero_mul, Nat.zero_add, List.drop_zero, List.take_left] at hp2
  have P2 := Lib.hid hp2
  clear h2 hB hp2 hg
  go_wp2_with fail
  refine (SP.out _).mono ?_
  rintro e w3 ⟨g3, hg3, rfl, b3, h3⟩
  have K3 := Lib.hid h3
  have G3 := Lib.hid b3
  have HG := Lib.hid hg3
  clear h3 b3
  go_wp2_with fail
  refine (QS.out _).mono ?_
  rintro e w4 ⟨A4, c4, rfl, o4, n4, h4⟩
  have K4 := Lib.hid (K3.out.trans h4)
  have G4 := Lib.hid (h4.at_ G3.out (by simp))
  have O4 := Lib.hid o4
  clear h4 o4 n4
  have P4 := Lib.hid (P2.out.chg K4.out (by simp))
  go_wp2_with fail
  refine (JX.out _ _ P4.out).mono ?_
  rintro e w5 ⟨rfl, h5⟩
  have D5 := Lib.hid (below_chg2 h5)
  have K5 := Lib.hid (K4.out.trans D5.out)
  clear h5
  have X5 := Lib.hid (HX.out.chg (K2.out.trans K5.out) (by simp))
  go_wp2_with fail
  refine (QJ.out _ X5.out).mono ?_
  rintro e w6 ⟨rfl, rfl⟩
  have E6 := Lib.hid D5.out
  go_wp2_with fail
  refine (PA.out _).mono ?_
  rintro e w7 ⟨rfl, h7⟩
  have K7 := Lib.hid (K5.out.trans (below_chg2 h7))
  have E7 := Lib.hid (E6.out.trans (below_chg2 h7))
  clear h7
  go_wp2_with fail
  refine (QP.out _).mono ?_
  rintro e w8 ⟨rfl, h8⟩
  have K8 := Lib.hid (K7.out.trans h8)
  have E8 := Lib.hid (E7.out.trans h8)
  clear h8
  have G8 := Lib.hid (rd_row (E8.out.at_ G4.out (by simp)) (by omega))
  have R8 := Lib.hid (O4.out.reads.chg E8.out (by simp))
  go_wp2_with fail
  refine (sametexts_any _ _ _ _ _ ys ys G8.out R8.out (by omega) (by omega)).mono ?_
  rw [show (ys == ys) = true by simp]
  rintro e w9 ⟨rfl, h9⟩
  have K9 := Lib.hid (K8.out.trans h9)
  have E9 := Lib.hid (E8.out.trans h9)
  clear h9
  go_wp2_with fail
  refine (CK.out _).mono ?_
  rintro e w10 ⟨rfl, h10⟩
  have K10 := Lib.hid (K9.out.trans (below_chg2 h10))
  have E10 := Lib.hid (E9.out.trans (below_chg2 h10))
  clear h10
  go_wp2_with fail
  refine (QC.out _).mono ?_
  rintro e w11 ⟨rfl, h11⟩
  have K11 := Lib.hid (K10.out.trans h11)
  have E11 := Lib.hid (E10.out.trans h11)
  clear h11
  go_wp2_with fail
  refine (BA.out _).mono ?_
  rintro e w12 ⟨rfl, h12⟩
  have K12 := Lib.hid (K11.out.trans (below_chg2 h12))
  have E12 := Lib.hid (E11.out.trans (below_chg2 h12))
  clear h12
  go_wp2_with fail
  refine (QB.out _).mono ?_
  rintro e w13 ⟨rfl, h13⟩
  have K13 := Lib.hid (K12.out.trans h13)
  have E13 := Lib.hid (E12.out.trans h13)
  clear h13
  have OW := Lib.hid (show OwnK textTy w13 (some ⟨g3, 0, none⟩) ys.length ys from OwnK.of (R := textTy) (full := ys) (by rw [flat_text]; exact E13.out.at_ G4.out (by simp)) (Nat.le_refl _) (by unfold maxLen; omega) rfl (List.take_length))
  go_wp2_with fail
  refine (overtexts_own _ _ _ _ ys OW.out rfl).mono ?_
  rintro e w14 ⟨rfl, h14⟩
  have h15 := h14 [g3] (by rintro a ha; cases ha; simp)
  have K14 := Lib.hid ((K2.out.trans K13.out).trans' h15 (fun i hi => by simp at hi; subst hi; exact .inr (Nat.le_trans K2.out.size HG.out)))
  have B14 := Lib.hid ((B2.out.chg K13.out (by simp)).chg h15 (by rintro a ha; cases ha; have := HG.out; simp; omega))
  clear h14 h15
  have X14 := Lib.hid (HX.out.chg K14.out (by simp))
  go_wp2_with fail
  refine (KP.out _ _ B14.out X14.out).mono ?_
  rintro e w15 ⟨rfl, h15⟩
  have K15 := Lib.hid (K14.out.trans h15)
  clear h15
  go_wp2_with fail
  refine (AW.out _).mono ?_
  rintro e w16 ⟨rfl, h16⟩
  have K16 := Lib.hid (K15.out.trans h16)
  clear h16
  go_wp2
  go_ret
  exact ⟨rfl, K16.out⟩

set_option maxRecDepth 100000 in
set_option maxHeartbeats 4000000 in
theorem pathparts_ft (w : World) (s : List UInt8) (A : Option Addr) (c : Nat) (xs : List (List UInt8)) (h : RdK textTy w A xs.length xs) (hc : xs.length ≤ c) (hn : xs.length ≤ 140737488351232)
    (hs : s.length ≤ 200) (hl : longT xs = false) (ho : okP s = false) (hq : partsL xs = true) : Calls Tryd.prog 3 #[.string (strOf s), .slice A xs.length c] w fun e w' => e = .returned (.bool true) ∧ Chg [] w w' := by
  have AW := Lib.hid (fun W => pathAwake_run W)
  have HX := Lib.hid h
  have sz := strOf_size s
  have i1 : ¬ ((200 : Int) < (s.length : Int)) := by omega
  have i2 : ¬ ((200 : Int) < ((strOf s).size : Int)) := by omega
  have LG := Lib.hid (hl ▸ long_any w A c xs h hn)
  obtain ⟨u1, u2, u3⟩ := unc_short hl
  have LN := Lib.hid (lent_any w A c xs h (by omega))
  have CK := Lib.hid (phcheck_p s false ho (by omega))
  have QC := Lib.hid (qcheck_p s false ho (by omega))
  have JX := Lib.hid (fun w B h => phjoin_t w B (xs.length + 3) xs h (by omega) (by omega) u3 hq)
  have QJ := Lib.hid (fun w h => qhjoin_t w A c xs h (by omega) u3 hq)
  generalize unc xs = uu at *
  have SP := Lib.hid (fun w => phsplit_no w s (by omega) ho)
  have QS := Lib.hid (fun w => qsplit_no w s (by omega) ho)
  have PA := Lib.hid (fun w => phparent_any w s (by omega))
  have QP := Lib.hid (fun w => qparent_any w s (by omega))
  have BA := Lib.hid (fun w => phbase_any w s (by omega))
  have QB := Lib.hid (fun w => qbase_any w s (by omega))
  have KP := Lib.hid (fun w g hB h => kept_any w g c A xs hB h (by omega))
  generalize parentL s = pp at *
  generalize hasParent s = hp at *
  generalize baseL s = bb at *
  have e1 : (hp == hp) = true := by simp
  clear hs hl ho hq h sz u1 u3 hn hc
  go_enter Tryd.func3, Tryd.ntmps3
  go_wp2_with fail
  refine LG.out.mono ?_
  rintro e w0 ⟨rfl, rfl⟩
  go_wp2_with fail
  refine LN.out.mono ?_
  rintro e w2 ⟨g, rfl, hg, hB, h2⟩
  have hgl : g < w2.heap.size := by obtain ⟨g2, o2, e2, hlt⟩ := hB.line (by omega); cases e2; exact hlt
  have K2 := Lib.hid h2
  have B2 := Lib.hid hB
  have hp2 := hB.part 0 xs.length (by omega)
  rw [Nat.zero_mul, Nat.zero_add, List.drop_zero, List.take_left] at hp2
  have P2 := Lib.hid hp2
  clear h2 hB hp2 hg
  go_wp2_with fail
  refine (SP.out _).mono ?_
  rintro e w3 ⟨rfl, h3⟩
  have K3 := Lib.hid h3
  clear h3
  go_wp2_with fail
  refine (QS.out _).mono ?_
  rintro e w4 ⟨rfl, h4⟩
  have K4 := Lib.hid (K3.out.trans h4)
  clear h4
  have P4 := Lib.hid (P2.out.chg K4.out (by simp))
  go_wp2_with fail
  refine (JX.out _ _ P4.out).mono ?_
  rintro e w5 ⟨rfl, h5⟩
  have D5 := Lib.hid (below_chg2 h5)
  have K5 := Lib.hid (K4.out.trans D5.out)
  clear h5
  have X5 := Lib.hid (HX.out.chg (K2.out.trans K5.out) (by simp))
  go_wp2_with fail
  refine (QJ.out _ X5.out).mono ?_
  rintro e w6 ⟨rfl, rfl⟩
  go_wp2_with fail
  refine (PA.out _).mono ?_
  rintro e w7 ⟨rfl, h7⟩
  have K7 := Lib.hid (K5.out.trans (below_chg2 h7))
  clear h7
  go_wp2_with fail
  refine (QP.out _).mono ?_
  rintro e w8 ⟨rfl, h8⟩
  have K8 := Lib.hid (K7.out.trans h8)
  clear h8
  go_wp2_with fail
  refine (sametexts_any _ none none _ _ [] [] (RdK.nil _ _) (RdK.nil _ _) (by decide) (by decide)).mono ?_
  rw [show (([] : List (List UInt8)) == []) = true from rfl]
  rintro e w9 ⟨rfl, h9⟩
  have K9 := Lib.hid (K8.out.trans h9)
  clear h9
  go_wp2_with fail
  refine (CK.out _).mono ?_
  rintro e w10 ⟨rfl, h10⟩
  have K10 := Lib.hid (K9.out.trans (below_chg2 h10))
  clear h10
  go_wp2_with fail
  refine (QC.out _).mono ?_
  rintro e w11 ⟨rfl, h11⟩
  have K11 := Lib.hid (K10.out.trans h11)
  clear h11
  go_wp2_with fail
  refine (BA.out _).mono ?_
  rintro e w12 ⟨rfl, h12⟩
  have K12 := Lib.hid (K11.out.trans (below_chg2 h12))
  clear h12
  go_wp2_with fail
  refine (QB.out _).mono ?_
  rintro e w13 ⟨rfl, h13⟩
  have K13 := Lib.hid (K12.out.trans h13)
  clear h13
  go_wp2_with fail
  refine (overtexts_own _ none 0 0 [] (OwnK.none_ _) rfl).mono ?_
  rintro e w14 ⟨rfl, h14⟩
  have h15 := h14 [] (by simp)
  have K14 := Lib.hid ((K2.out.trans K13.out).trans h15)
  have B14 := Lib.hid (B2.out.chg (K13.out.trans h15) (by simp))
  clear h14 h15
  have X14 := Lib.hid (HX.out.chg K14.out (by simp))
  go_wp2_with fail
  refine (KP.out _ _ B14.out X14.out).mono ?_
  rintro e w15 ⟨rfl, h15⟩
  have K15 := Lib.hid (K14.out.trans h15)
  clear h15
  go_wp2_with fail
  refine (AW.out _).mono ?_
  rintro e w16 ⟨rfl, h16⟩
  have K16 := Lib.hid (K15.out.trans h16)
  clear h16
  go_wp2
  go_ret
  exact ⟨rfl, K16.out⟩

set_option maxRecDepth 100000 in
set_option maxHeartbeats 4000000 in
theorem pathparts_ff (w : World) (s : List UInt8) (A : Option Addr) (c : Nat) (xs : List (List UInt8)) (h : RdK textTy w A xs.length xs) (hc : xs.length ≤ c) (hn : xs.length ≤ 140737488351232)
    (hs : s.length ≤ 200) (hl : longT xs = false) (ho : okP s = false) (hq : partsL xs = false) : Calls Tryd.prog 3 #[.string (strOf s), .slice A xs.length c] w fun e w' => e = .returned (.bool true) ∧ Chg [] w w' := by
  have AW := Lib.hid (fun W => pathAwake_run W)
  have HX := Lib.hid h
  have sz := strOf_size s
  have i1 : ¬ ((200 : Int) < (s.length : Int)) := by omega
  have i2 : ¬ ((200 : Int) < ((strOf s).size : Int)) := by omega
  have LG := Lib.hid (hl ▸ long_any w A c xs h hn)
  obtain ⟨u1, u2, u3⟩ := unc_short hl
  have LN := Lib.hid (lent_any w A c xs h (by omega))
  have CK := Lib.hid (phcheck_p s false ho (by omega))
  have QC := Lib.hid (qcheck_p s false ho (by omega))
  have JX := Lib.hid (fun w B h => phjoin_f w B (xs.length + 3) xs h (by omega) hq)
  have QJ := Lib.hid (fun w h => qhjoin_f w A c xs h (by omega) u3 hq)
  have SP := Lib.hid (fun w => phsplit_no w s (by omega) ho)
  have QS := Lib.hid (fun w => qsplit_no w s (by omega) ho)
  have PA := Lib.hid (fun w => phparent_any w s (by omega))
  have QP := Lib.hid (fun w => qparent_any w s (by omega))
  have BA := Lib.hid (fun w => phbase_any w s (by omega))
  have QB := Lib.hid (fun w => qbase_any w s (by omega))
  have KP := Lib.hid (fun w g hB h => kept_any w g c A xs hB h (by omega))
  generalize parentL s = pp at *
  generalize hasParent s = hp at *
  generalize baseL s = bb at *
  have e1 : (hp == hp) = true := by simp
  clear hs hl ho hq h sz u1 u3 hn hc
  go_enter Tryd.func3, Tryd.ntmps3
  go_wp2_with fail
  refine LG.out.mono ?_
  rintro e w0 ⟨rfl, rfl⟩
  go_wp2_with fail
  refine LN.out.mono ?_
  rintro e w2 ⟨g, rfl, hg, hB, h2⟩
  have hgl : g < w2.heap.size := by obtain ⟨g2, o2, e2, hlt⟩ := hB.line (by omega); cases e2; exact hlt
  have K2 := Lib.hid h2
  have B2 := Lib.hid hB
  have hp2 := hB.part 0 xs.length (by omega)
  rw [Nat.zero_mul, Nat.zero_add, List.drop_zero, List.take_left] at hp2
  have P2 := Lib.hid hp2
  clear h2 hB hp2 hg
  go_wp2_with fail
  refine (SP.out _).mono ?_
  rintro e w3 ⟨rfl, h3⟩
  have K3 := Lib.hid h3
  clear h3
  go_wp2_with fail
  refine (QS.out _).mono ?_
  rintro e w4 ⟨rfl, h4⟩
  have K4 := Lib.hid (K3.out.trans h4)
  clear h4
  have P4 := Lib.hid (P2.out.chg K4.out (by simp))
  go_wp2_with fail
  refine (JX.out _ _ P4.out).mono ?_
  rintro e w5 ⟨rfl, h5⟩
  have D5 := Lib.hid (below_chg2 h5)
  have K5 := Lib.hid (K4.out.trans D5.out)
  clear h5
  have X5 := Lib.hid (HX.out.chg (K2.out.trans K5.out) (by simp))
  go_wp2_with fail
  refine (QJ.out _ X5.out).mono ?_
  rintro e w6 ⟨rfl, rfl⟩
  go_wp2_with fail
  refine (PA.out _).mono ?_
  rintro e w7 ⟨rfl, h7⟩
  have K7 := Lib.hid (K5.out.trans (below_chg2 h7))
  clear h7
  go_wp2_with fail
  refine (QP.out _).mono ?_
  rintro e w8 ⟨rfl, h8⟩
  have K8 := Lib.hid (K7.out.trans h8)
  clear h8
  go_wp2_with fail
  refine (sametexts_any _ none none _ _ [] [] (RdK.nil _ _) (RdK.nil _ _) (by decide) (by decide)).mono ?_
  rw [show (([] : List (List UInt8)) == []) = true from rfl]
  rintro e w9 ⟨rfl, h9⟩
  have K9 := Lib.hid (K8.out.trans h9)
  clear h9
  go_wp2_with fail
  refine (CK.out _).mono ?_
  rintro e w10 ⟨rfl, h10⟩
  have K10 := Lib.hid (K9.out.trans (below_chg2 h10))
  clear h10
  go_wp2_with fail
  refine (QC.out _).mono ?_
  rintro e w11 ⟨rfl, h11⟩
  have K11 := Lib.hid (K10.out.trans h11)
  clear h11
  go_wp2_with fail
  refine (BA.out _).mono ?_
  rintro e w12 ⟨rfl, h12⟩
  have K12 := Lib.hid (K11.out.trans (below_chg2 h12))
  clear h12
  go_wp2_with fail
  refine (QB.out _).mono ?_
  rintro e w13 ⟨rfl, h13⟩
  have K13 := Lib.hid (K12.out.trans h13)
  clear h13
  go_wp2_with fail
  refine (overtexts_own _ none 0 0 [] (OwnK.none_ _) rfl).mono ?_
  rintro e w14 ⟨rfl, h14⟩
  have h15 := h14 [] (by simp)
  have K14 := Lib.hid ((K2.out.trans K13.out).trans h15)
  have B14 := Lib.hid (B2.out.chg (K13.out.trans h15) (by simp))
  clear h14 h15
  have X14 := Lib.hid (HX.out.chg K14.out (by simp))
  go_wp2_with fail
  refine (KP.out _ _ B14.out X14.out).mono ?_
  rintro e w15 ⟨rfl, h15⟩
  have K15 := Lib.hid (K14.out.trans h15)
  clear h15
  go_wp2_with fail
  refine (AW.out _).mono ?_
  rintro e w16 ⟨rfl, h16⟩
  have K16 := Lib.hid (K15.out.trans h16)
  clear h16
  go_wp2
  go_ret
  exact ⟨rfl, K16.out⟩

theorem pathparts_walk (w : World) (s : List UInt8) (A : Option Addr) (c : Nat) (xs : List (List UInt8)) (h : RdK textTy w A xs.length xs) (hc : xs.length ≤ c) (hn : xs.length ≤ 140737488351232) :
    Calls Tryd.prog 3 #[.string (strOf s), .slice A xs.length c] w fun e w' => e = .returned (.bool true) ∧ Chg [] w w' := by
  by_cases hs : s.length ≤ 200
  · cases hl : longT xs with
    | true => exact pathparts_b w s A c xs h hc hn hs hl
    | false =>
      cases hq : partsL xs with
      | true =>
        cases ho : okP s with
        | false => exact pathparts_ft w s A c xs h hc hn hs hl ho hq
        | true => exact pathparts_tt w s A c xs h hc hn hs hl ho hq
      | false =>
        cases ho : okP s with
        | false => exact pathparts_ff w s A c xs h hc hn hs hl ho hq
        | true => exact pathparts_tf w s A c xs h hc hn hs hl ho hq
  · exact pathparts_a w s A c xs h hc hn (by omega)
theorem pathparts_yes (w : World) (s : ByteArray) (A : Option Addr) (n c : Nat) (xs : List (List UInt8)) (h : RdK textTy w A n xs) (hc : n ≤ c) (hn : n * 16 ≤ 140737488351232) :
    Calls Tryd.prog 3 #[.string s, .slice A n c] w fun e w' => e = .returned (.bool true) ∧ Chg [] w w' := by
  have hl := h.len
  subst hl
  have := pathparts_walk w s.data.toList A c xs h hc (by omega)
  rwa [strOf_of] at this
end Go.Proofs.YtibdeiahmgkbhaaDoor
