/- PathOrder, walked. -/
import Derived.Test.YtibdeiahmgkbhaaDoorQhless
import Derived.Test.YtibdeiahmgkbhaaDoorPhlong
import Derived.Test.YtibdeiahmgkbhaaDoorPhmath
import Derived.Test.YtibdeiahmgkbhaaDoorPathKnownR
namespace Go.Proofs.YtibdeiahmgkbhaaDoor
open Go.RowKit
set_option linter.unusedSimpArgs false
set_option linter.unusedVariables false
theorem below_chg2 {w w' : World} (h : Below w.heap.size w w') : Chg [] w w' := ⟨h.os, h.tape, h.output, h.size, fun k hk _ => h.block k hk⟩
theorem phcheck_p (l : List UInt8) (p : Bool) (hp : okP l = p) (hl : l.length ≤ 140737488351232) (w : World) :
    Calls Tryd.prog 20 #[.string (strOf l)] w fun e w' => e = .returned (.int .i64 (if p then 0 else 2)) ∧ Below w.heap.size w w' := by
  have := phcheck_any w l hl
  rw [show checkL 6 12 l = p from hp] at this
  exact this
set_option maxRecDepth 100000 in
set_option maxHeartbeats 4000000 in
theorem po_1 (w : World) (a b c : List UInt8) (n : Bool) (ha : a.length ≤ 200) (hb : b.length ≤ 200) (hc : c.length ≤ 200)
    (hp : lessL a b = true)
    (hq : lessL b a = false)
    (hr : lessL b c = true)
    (hs : lessL a c = true)
    (hu : underL a b = true)
    (hv2 : underL a c = true)
    (hv : okP b = true)
    (hn : nearL a b = n) (heq : (a == b) = false) : Calls Tryd.prog 8 #[.string (strOf a), .string (strOf b), .string (strOf c)] w fun e w' => e = .returned (.bool true) ∧ Chg [] w w' := by
  have hn2 : nearL b a = n := by rw [near_sym b a]; exact hn
  have hlt : longT [a, b, c] = false := by simp [longT]; omega
  have LGE := Lib.hid hlt
  clear hlt
  have KN := Lib.hid (fun W => pathKnownR_run W)
  have AA := Lib.hid (fun w => phless_any w a a (by omega) (by omega))
  rw [less_self] at AA
  have AB := Lib.hid (fun w => hp ▸ phless_any w a b (by omega) (by omega))
  have BA := Lib.hid (fun w => hq ▸ phless_any w b a (by omega) (by omega))
  have BC := Lib.hid (fun w => hr ▸ phless_any w b c (by omega) (by omega))
  have AC := Lib.hid (fun w => hs ▸ phless_any w a c (by omega) (by omega))
  have UAB := Lib.hid (fun w => hu ▸ phunder_any w a b (by omega) (by omega))
  have UAC := Lib.hid (fun w => hv2 ▸ phunder_any w a c (by omega) (by omega))
  have CB := Lib.hid (phcheck_p b true hv (by omega))
  have NAB := Lib.hid (fun w => hn ▸ phnear_any w a b (by omega) (by omega))
  have NBA := Lib.hid (fun w => hn2 ▸ phnear_any w b a (by omega) (by omega))
  have hne : a ≠ b := by simpa using heq
  have hse := str_ne hne
  clear hne
  have hnn : (n == n) = true := by simp
  clear hn hn2 ha hb hc hp hq hr hs hu hv2 hv
  go_enter Tryd.func8, Tryd.ntmps8
  go_wp2_with fail
  refine (KN.out _).mono ?_
  rintro e w1 ⟨rfl, h1⟩
  have K1 := Lib.hid h1
  clear h1
  obtain ⟨w2, hw2, c2, b2⟩ := news1 w1 (.cells #[.string (strOf a), .string (strOf b), .string (strOf c)] 9)
  have W2 := Lib.hid hw2
  have R2 := Lib.hid (OwnK.of (R := textTy) (c := 3) (full := [a, b, c]) (xs := [a, b, c]) b2 (Nat.le_refl _) (by decide) rfl rfl).reads
  have K2 := Lib.hid (K1.out.trans c2)
  have LG2 := Lib.hid (fun W h => long_any W (some ⟨w1.heap.size, 0, none⟩) 3 [a, b, c] h (by simp))
  rw [LGE.out] at LG2
  clear hw2 c2 b2
  go_wp2_with fail
  rw [← W2.out]
  refine (LG2.out _ R2.out).mono ?_
  rintro e w3 ⟨rfl, rfl⟩
  go_wp2_with fail
  refine (AB.out _).mono ?_
  rintro e v0 ⟨rfl, h0⟩
  have K3 := Lib.hid (K2.out.trans h0)
  clear h0
  go_wp2_with fail
  refine (BA.out _).mono ?_
  rintro e v1 ⟨rfl, h1⟩
  have K4 := Lib.hid (K3.out.trans h1)
  clear h1
  go_wp2_with fail
  refine (AA.out _).mono ?_
  rintro e v2 ⟨rfl, h2⟩
  have K5 := Lib.hid (K4.out.trans h2)
  clear h2
  go_wp2_with fail
  refine (BC.out _).mono ?_
  rintro e v3 ⟨rfl, h3⟩
  have K6 := Lib.hid (K5.out.trans h3)
  clear h3
  go_wp2_with fail
  refine (AC.out _).mono ?_
  rintro e v4 ⟨rfl, h4⟩
  have K7 := Lib.hid (K6.out.trans h4)
  clear h4
  go_wp2_with fail
  refine (BC.out _).mono ?_
  rintro e v5 ⟨rfl, h5⟩
  have K8 := Lib.hid (K7.out.trans h5)
  clear h5
  go_wp2_with fail
  refine (UAC.out _).mono ?_
  rintro e v6 ⟨rfl, h6⟩
  have K9 := Lib.hid (K8.out.trans (below_chg2 h6))
  clear h6
  go_wp2_with fail
  refine (CB.out _).mono ?_
  rintro e v7 ⟨rfl, h7⟩
  have K10 := Lib.hid (K9.out.trans (below_chg2 h7))
  clear h7
  go_wp2_with fail
  refine (UAB.out _).mono ?_
  rintro e v8 ⟨rfl, h8⟩
  have K11 := Lib.hid (K10.out.trans (below_chg2 h8))
  clear h8
  go_wp2_with fail
  refine (UAB.out _).mono ?_
  rintro e v9 ⟨rfl, h9⟩
  have K12 := Lib.hid (K11.out.trans (below_chg2 h9))
  clear h9
  go_wp2_with fail
  refine (NAB.out _).mono ?_
  rintro e v10 ⟨rfl, h10⟩
  have K13 := Lib.hid (K12.out.trans (below_chg2 h10))
  clear h10
  go_wp2_with fail
  refine (NBA.out _).mono ?_
  rintro e v11 ⟨rfl, h11⟩
  have K14 := Lib.hid (K13.out.trans (below_chg2 h11))
  clear h11
  cases n
  · go_wp2
    go_ret
    exact ⟨rfl, K14.out⟩
  · go_wp2
    go_ret
    exact ⟨rfl, K14.out⟩
set_option maxRecDepth 100000 in
set_option maxHeartbeats 4000000 in
theorem po_2 (w : World) (a b c : List UInt8) (n : Bool) (ha : a.length ≤ 200) (hb : b.length ≤ 200) (hc : c.length ≤ 200)
    (hp : lessL a b = true)
    (hq : lessL b a = false)
    (hr : lessL b c = true)
    (hs : lessL a c = true)
    (hu : underL a b = true)
    (hv2 : underL a c = true)
    (hv : okP b = false)
    (hn : nearL a b = n) (heq : (a == b) = false) : Calls Tryd.prog 8 #[.string (strOf a), .string (strOf b), .string (strOf c)] w fun e w' => e = .returned (.bool true) ∧ Chg [] w w' := by
  have hn2 : nearL b a = n := by rw [near_sym b a]; exact hn
  have hlt : longT [a, b, c] = false := by simp [longT]; omega
  have LGE := Lib.hid hlt
  clear hlt
  have KN := Lib.hid (fun W => pathKnownR_run W)
  have AA := Lib.hid (fun w => phless_any w a a (by omega) (by omega))
  rw [less_self] at AA
  have AB := Lib.hid (fun w => hp ▸ phless_any w a b (by omega) (by omega))
  have BA := Lib.hid (fun w => hq ▸ phless_any w b a (by omega) (by omega))
  have BC := Lib.hid (fun w => hr ▸ phless_any w b c (by omega) (by omega))
  have AC := Lib.hid (fun w => hs ▸ phless_any w a c (by omega) (by omega))
  have UAB := Lib.hid (fun w => hu ▸ phunder_any w a b (by omega) (by omega))
  have UAC := Lib.hid (fun w => hv2 ▸ phunder_any w a c (by omega) (by omega))
  have CB := Lib.hid (phcheck_p b false hv (by omega))
  have NAB := Lib.hid (fun w => hn ▸ phnear_any w a b (by omega) (by omega))
  have NBA := Lib.hid (fun w => hn2 ▸ phnear_any w b a (by omega) (by omega))
  have hne : a ≠ b := by simpa using heq
  have hse := str_ne hne
  clear hne
  have hnn : (n == n) = true := by simp
  clear hn hn2 ha hb hc hp hq hr hs hu hv2 hv
  go_enter Tryd.func8, Tryd.ntmps8
  go_wp2_with fail
  refine (KN.out _).mono ?_
  rintro e w1 ⟨rfl, h1⟩
  have K1 := Lib.hid h1
  clear h1
  obtain ⟨w2, hw2, c2, b2⟩ := news1 w1 (.cells #[.string (strOf a), .string (strOf b), .string (strOf c)] 9)
  have W2 := Lib.hid hw2
  have R2 := Lib.hid (OwnK.of (R := textTy) (c := 3) (full := [a, b, c]) (xs := [a, b, c]) b2 (Nat.le_refl _) (by decide) rfl rfl).reads
  have K2 := Lib.hid (K1.out.trans c2)
  have LG2 := Lib.hid (fun W h => long_any W (some ⟨w1.heap.size, 0, none⟩) 3 [a, b, c] h (by simp))
  rw [LGE.out] at LG2
  clear hw2 c2 b2
  go_wp2_with fail
  rw [← W2.out]
  refine (LG2.out _ R2.out).mono ?_
  rintro e w3 ⟨rfl, rfl⟩
  go_wp2_with fail
  refine (AB.out _).mono ?_
  rintro e v0 ⟨rfl, h0⟩
  have K3 := Lib.hid (K2.out.trans h0)
  clear h0
  go_wp2_with fail
  refine (BA.out _).mono ?_
  rintro e v1 ⟨rfl, h1⟩
  have K4 := Lib.hid (K3.out.trans h1)
  clear h1
  go_wp2_with fail
  refine (AA.out _).mono ?_
  rintro e v2 ⟨rfl, h2⟩
  have K5 := Lib.hid (K4.out.trans h2)
  clear h2
  go_wp2_with fail
  refine (BC.out _).mono ?_
  rintro e v3 ⟨rfl, h3⟩
  have K6 := Lib.hid (K5.out.trans h3)
  clear h3
  go_wp2_with fail
  refine (AC.out _).mono ?_
  rintro e v4 ⟨rfl, h4⟩
  have K7 := Lib.hid (K6.out.trans h4)
  clear h4
  go_wp2_with fail
  refine (BC.out _).mono ?_
  rintro e v5 ⟨rfl, h5⟩
  have K8 := Lib.hid (K7.out.trans h5)
  clear h5
  go_wp2_with fail
  refine (UAC.out _).mono ?_
  rintro e v6 ⟨rfl, h6⟩
  have K9 := Lib.hid (K8.out.trans (below_chg2 h6))
  clear h6
  go_wp2_with fail
  refine (CB.out _).mono ?_
  rintro e v7 ⟨rfl, h7⟩
  have K10 := Lib.hid (K9.out.trans (below_chg2 h7))
  clear h7
  go_wp2_with fail
  refine (UAB.out _).mono ?_
  rintro e v8 ⟨rfl, h8⟩
  have K11 := Lib.hid (K10.out.trans (below_chg2 h8))
  clear h8
  go_wp2_with fail
  refine (NAB.out _).mono ?_
  rintro e v9 ⟨rfl, h9⟩
  have K12 := Lib.hid (K11.out.trans (below_chg2 h9))
  clear h9
  go_wp2_with fail
  refine (NBA.out _).mono ?_
  rintro e v10 ⟨rfl, h10⟩
  have K13 := Lib.hid (K12.out.trans (below_chg2 h10))
  clear h10
  cases n
  · go_wp2
    go_ret
    exact ⟨rfl, K13.out⟩
  · go_wp2
    go_ret
    exact ⟨rfl, K13.out⟩
set_option maxRecDepth 100000 in
set_option maxHeartbeats 4000000 in
theorem po_3 (w : World) (a b c : List UInt8) (n : Bool) (ha : a.length ≤ 200) (hb : b.length ≤ 200) (hc : c.length ≤ 200)
    (hp : lessL a b = true)
    (hq : lessL b a = false)
    (hr : lessL b c = true)
    (hs : lessL a c = true)
    (hu : underL a b = false)
    (hv2 : underL a c = true)
    (hv : okP b = false)
    (hn : nearL a b = n) (heq : (a == b) = false) : Calls Tryd.prog 8 #[.string (strOf a), .string (strOf b), .string (strOf c)] w fun e w' => e = .returned (.bool true) ∧ Chg [] w w' := by
  have hn2 : nearL b a = n := by rw [near_sym b a]; exact hn
  have hlt : longT [a, b, c] = false := by simp [longT]; omega
  have LGE := Lib.hid hlt
  clear hlt
  have KN := Lib.hid (fun W => pathKnownR_run W)
  have AA := Lib.hid (fun w => phless_any w a a (by omega) (by omega))
  rw [less_self] at AA
  have AB := Lib.hid (fun w => hp ▸ phless_any w a b (by omega) (by omega))
  have BA := Lib.hid (fun w => hq ▸ phless_any w b a (by omega) (by omega))
  have BC := Lib.hid (fun w => hr ▸ phless_any w b c (by omega) (by omega))
  have AC := Lib.hid (fun w => hs ▸ phless_any w a c (by omega) (by omega))
  have UAB := Lib.hid (fun w => hu ▸ phunder_any w a b (by omega) (by omega))
  have UAC := Lib.hid (fun w => hv2 ▸ phunder_any w a c (by omega) (by omega))
  have CB := Lib.hid (phcheck_p b false hv (by omega))
  have NAB := Lib.hid (fun w => hn ▸ phnear_any w a b (by omega) (by omega))
  have NBA := Lib.hid (fun w => hn2 ▸ phnear_any w b a (by omega) (by omega))
  have hne : a ≠ b := by simpa using heq
  have hse := str_ne hne
  clear hne
  have hnn : (n == n) = true := by simp
  clear hn hn2 ha hb hc hp hq hr hs hu hv2 hv
  go_enter Tryd.func8, Tryd.ntmps8
  go_wp2_with fail
  refine (KN.out _).mono ?_
  rintro e w1 ⟨rfl, h1⟩
  have K1 := Lib.hid h1
  clear h1
  obtain ⟨w2, hw2, c2, b2⟩ := news1 w1 (.cells #[.string (strOf a), .string (strOf b), .string (strOf c)] 9)
  have W2 := Lib.hid hw2
  have R2 := Lib.hid (OwnK.of (R := textTy) (c := 3) (full := [a, b, c]) (xs := [a, b, c]) b2 (Nat.le_refl _) (by decide) rfl rfl).reads
  have K2 := Lib.hid (K1.out.trans c2)
  have LG2 := Lib.hid (fun W h => long_any W (some ⟨w1.heap.size, 0, none⟩) 3 [a, b, c] h (by simp))
  rw [LGE.out] at LG2
  clear hw2 c2 b2
  go_wp2_with fail
  rw [← W2.out]
  refine (LG2.out _ R2.out).mono ?_
  rintro e w3 ⟨rfl, rfl⟩
  go_wp2_with fail
  refine (AB.out _).mono ?_
  rintro e v0 ⟨rfl, h0⟩
  have K3 := Lib.hid (K2.out.trans h0)
  clear h0
  go_wp2_with fail
  refine (BA.out _).mono ?_
  rintro e v1 ⟨rfl, h1⟩
  have K4 := Lib.hid (K3.out.trans h1)
  clear h1
  go_wp2_with fail
  refine (AA.out _).mono ?_
  rintro e v2 ⟨rfl, h2⟩
  have K5 := Lib.hid (K4.out.trans h2)
  clear h2
  go_wp2_with fail
  refine (BC.out _).mono ?_
  rintro e v3 ⟨rfl, h3⟩
  have K6 := Lib.hid (K5.out.trans h3)
  clear h3
  go_wp2_with fail
  refine (AC.out _).mono ?_
  rintro e v4 ⟨rfl, h4⟩
  have K7 := Lib.hid (K6.out.trans h4)
  clear h4
  go_wp2_with fail
  refine (BC.out _).mono ?_
  rintro e v5 ⟨rfl, h5⟩
  have K8 := Lib.hid (K7.out.trans h5)
  clear h5
  go_wp2_with fail
  refine (UAC.out _).mono ?_
  rintro e v6 ⟨rfl, h6⟩
  have K9 := Lib.hid (K8.out.trans (below_chg2 h6))
  clear h6
  go_wp2_with fail
  refine (CB.out _).mono ?_
  rintro e v7 ⟨rfl, h7⟩
  have K10 := Lib.hid (K9.out.trans (below_chg2 h7))
  clear h7
  go_wp2_with fail
  refine (UAB.out _).mono ?_
  rintro e v8 ⟨rfl, h8⟩
  have K11 := Lib.hid (K10.out.trans (below_chg2 h8))
  clear h8
  go_wp2_with fail
  refine (NAB.out _).mono ?_
  rintro e v9 ⟨rfl, h9⟩
  have K12 := Lib.hid (K11.out.trans (below_chg2 h9))
  clear h9
  go_wp2_with fail
  refine (NBA.out _).mono ?_
  rintro e v10 ⟨rfl, h10⟩
  have K13 := Lib.hid (K12.out.trans (below_chg2 h10))
  clear h10
  cases n
  · go_wp2
    go_ret
    exact ⟨rfl, K13.out⟩
  · go_wp2
    go_ret
    exact ⟨rfl, K13.out⟩
set_option maxRecDepth 100000 in
set_option maxHeartbeats 4000000 in
theorem po_4 (w : World) (a b c : List UInt8) (n : Bool) (ha : a.length ≤ 200) (hb : b.length ≤ 200) (hc : c.length ≤ 200)
    (hp : lessL a b = true)
    (hq : lessL b a = false)
    (hr : lessL b c = true)
    (hs : lessL a c = true)
    (hu : underL a b = true)
    (hv2 : underL a c = false)
    (hn : nearL a b = n) (heq : (a == b) = false) : Calls Tryd.prog 8 #[.string (strOf a), .string (strOf b), .string (strOf c)] w fun e w' => e = .returned (.bool true) ∧ Chg [] w w' := by
  have hn2 : nearL b a = n := by rw [near_sym b a]; exact hn
  have hlt : longT [a, b, c] = false := by simp [longT]; omega
  have LGE := Lib.hid hlt
  clear hlt
  have KN := Lib.hid (fun W => pathKnownR_run W)
  have AA := Lib.hid (fun w => phless_any w a a (by omega) (by omega))
  rw [less_self] at AA
  have AB := Lib.hid (fun w => hp ▸ phless_any w a b (by omega) (by omega))
  have BA := Lib.hid (fun w => hq ▸ phless_any w b a (by omega) (by omega))
  have BC := Lib.hid (fun w => hr ▸ phless_any w b c (by omega) (by omega))
  have AC := Lib.hid (fun w => hs ▸ phless_any w a c (by omega) (by omega))
  have UAB := Lib.hid (fun w => hu ▸ phunder_any w a b (by omega) (by omega))
  have UAC := Lib.hid (fun w => hv2 ▸ phunder_any w a c (by omega) (by omega))
  have NAB := Lib.hid (fun w => hn ▸ phnear_any w a b (by omega) (by omega))
  have NBA := Lib.hid (fun w => hn2 ▸ phnear_any w b a (by omega) (by omega))
  have hne : a ≠ b := by simpa using heq
  have hse := str_ne hne
  clear hne
  have hnn : (n == n) = true := by simp
  clear hn hn2 ha hb hc hp hq hr hs hu hv2
  go_enter Tryd.func8, Tryd.ntmps8
  go_wp2_with fail
  refine (KN.out _).mono ?_
  rintro e w1 ⟨rfl, h1⟩
  have K1 := Lib.hid h1
  clear h1
  obtain ⟨w2, hw2, c2, b2⟩ := news1 w1 (.cells #[.string (strOf a), .string (strOf b), .string (strOf c)] 9)
  have W2 := Lib.hid hw2
  have R2 := Lib.hid (OwnK.of (R := textTy) (c := 3) (full := [a, b, c]) (xs := [a, b, c]) b2 (Nat.le_refl _) (by decide) rfl rfl).reads
  have K2 := Lib.hid (K1.out.trans c2)
  have LG2 := Lib.hid (fun W h => long_any W (some ⟨w1.heap.size, 0, none⟩) 3 [a, b, c] h (by simp))
  rw [LGE.out] at LG2
  clear hw2 c2 b2
  go_wp2_with fail
  rw [← W2.out]
  refine (LG2.out _ R2.out).mono ?_
  rintro e w3 ⟨rfl, rfl⟩
  go_wp2_with fail
  refine (AB.out _).mono ?_
  rintro e v0 ⟨rfl, h0⟩
  have K3 := Lib.hid (K2.out.trans h0)
  clear h0
  go_wp2_with fail
  refine (BA.out _).mono ?_
  rintro e v1 ⟨rfl, h1⟩
  have K4 := Lib.hid (K3.out.trans h1)
  clear h1
  go_wp2_with fail
  refine (AA.out _).mono ?_
  rintro e v2 ⟨rfl, h2⟩
  have K5 := Lib.hid (K4.out.trans h2)
  clear h2
  go_wp2_with fail
  refine (BC.out _).mono ?_
  rintro e v3 ⟨rfl, h3⟩
  have K6 := Lib.hid (K5.out.trans h3)
  clear h3
  go_wp2_with fail
  refine (AC.out _).mono ?_
  rintro e v4 ⟨rfl, h4⟩
  have K7 := Lib.hid (K6.out.trans h4)
  clear h4
  go_wp2_with fail
  refine (BC.out _).mono ?_
  rintro e v5 ⟨rfl, h5⟩
  have K8 := Lib.hid (K7.out.trans h5)
  clear h5
  go_wp2_with fail
  refine (UAC.out _).mono ?_
  rintro e v6 ⟨rfl, h6⟩
  have K9 := Lib.hid (K8.out.trans (below_chg2 h6))
  clear h6
  go_wp2_with fail
  refine (UAB.out _).mono ?_
  rintro e v7 ⟨rfl, h7⟩
  have K10 := Lib.hid (K9.out.trans (below_chg2 h7))
  clear h7
  go_wp2_with fail
  refine (NAB.out _).mono ?_
  rintro e v8 ⟨rfl, h8⟩
  have K11 := Lib.hid (K10.out.trans (below_chg2 h8))
  clear h8
  go_wp2_with fail
  refine (NBA.out _).mono ?_
  rintro e v9 ⟨rfl, h9⟩
  have K12 := Lib.hid (K11.out.trans (below_chg2 h9))
  clear h9
  cases n
  · go_wp2
    go_ret
    exact ⟨rfl, K12.out⟩
  · go_wp2
    go_ret
    exact ⟨rfl, K12.out⟩
set_option maxRecDepth 100000 in
set_option maxHeartbeats 4000000 in
theorem po_5 (w : World) (a b c : List UInt8) (n : Bool) (ha : a.length ≤ 200) (hb : b.length ≤ 200) (hc : c.length ≤ 200)
    (hp : lessL a b = true)
    (hq : lessL b a = false)
    (hr : lessL b c = true)
    (hs : lessL a c = true)
    (hu : underL a b = false)
    (hv2 : underL a c = false)
    (hn : nearL a b = n) (heq : (a == b) = false) : Calls Tryd.prog 8 #[.string (strOf a), .string (strOf b), .string (strOf c)] w fun e w' => e = .returned (.bool true) ∧ Chg [] w w' := by
  have hn2 : nearL b a = n := by rw [near_sym b a]; exact hn
  have hlt : longT [a, b, c] = false := by simp [longT]; omega
  have LGE := Lib.hid hlt
  clear hlt
  have KN := Lib.hid (fun W => pathKnownR_run W)
  have AA := Lib.hid (fun w => phless_any w a a (by omega) (by omega))
  rw [less_self] at AA
  have AB := Lib.hid (fun w => hp ▸ phless_any w a b (by omega) (by omega))
  have BA := Lib.hid (fun w => hq ▸ phless_any w b a (by omega) (by omega))
  have BC := Lib.hid (fun w => hr ▸ phless_any w b c (by omega) (by omega))
  have AC := Lib.hid (fun w => hs ▸ phless_any w a c (by omega) (by omega))
  have UAB := Lib.hid (fun w => hu ▸ phunder_any w a b (by omega) (by omega))
  have UAC := Lib.hid (fun w => hv2 ▸ phunder_any w a c (by omega) (by omega))
  have NAB := Lib.hid (fun w => hn ▸ phnear_any w a b (by omega) (by omega))
  have NBA := Lib.hid (fun w => hn2 ▸ phnear_any w b a (by omega) (by omega))
  have hne : a ≠ b := by simpa using heq
  have hse := str_ne hne
  clear hne
  have hnn : (n == n) = true := by simp
  clear hn hn2 ha hb hc hp hq hr hs hu hv2
  go_enter Tryd.func8, Tryd.ntmps8
  go_wp2_with fail
  refine (KN.out _).mono ?_
  rintro e w1 ⟨rfl, h1⟩
  have K1 := Lib.hid h1
  clear h1
  obtain ⟨w2, hw2, c2, b2⟩ := news1 w1 (.cells #[.string (strOf a), .string (strOf b), .string (strOf c)] 9)
  have W2 := Lib.hid hw2
  have R2 := Lib.hid (OwnK.of (R := textTy) (c := 3) (full := [a, b, c]) (xs := [a, b, c]) b2 (Nat.le_refl _) (by decide) rfl rfl).reads
  have K2 := Lib.hid (K1.out.trans c2)
  have LG2 := Lib.hid (fun W h => long_any W (some ⟨w1.heap.size, 0, none⟩) 3 [a, b, c] h (by simp))
  rw [LGE.out] at LG2
  clear hw2 c2 b2
  go_wp2_with fail
  rw [← W2.out]
  refine (LG2.out _ R2.out).mono ?_
  rintro e w3 ⟨rfl, rfl⟩
  go_wp2_with fail
  refine (AB.out _).mono ?_
  rintro e v0 ⟨rfl, h0⟩
  have K3 := Lib.hid (K2.out.trans h0)
  clear h0
  go_wp2_with fail
  refine (BA.out _).mono ?_
  rintro e v1 ⟨rfl, h1⟩
  have K4 := Lib.hid (K3.out.trans h1)
  clear h1
  go_wp2_with fail
  refine (AA.out _).mono ?_
  rintro e v2 ⟨rfl, h2⟩
  have K5 := Lib.hid (K4.out.trans h2)
  clear h2
  go_wp2_with fail
  refine (BC.out _).mono ?_
  rintro e v3 ⟨rfl, h3⟩
  have K6 := Lib.hid (K5.out.trans h3)
  clear h3
  go_wp2_with fail
  refine (AC.out _).mono ?_
  rintro e v4 ⟨rfl, h4⟩
  have K7 := Lib.hid (K6.out.trans h4)
  clear h4
  go_wp2_with fail
  refine (BC.out _).mono ?_
  rintro e v5 ⟨rfl, h5⟩
  have K8 := Lib.hid (K7.out.trans h5)
  clear h5
  go_wp2_with fail
  refine (UAC.out _).mono ?_
  rintro e v6 ⟨rfl, h6⟩
  have K9 := Lib.hid (K8.out.trans (below_chg2 h6))
  clear h6
  go_wp2_with fail
  refine (UAB.out _).mono ?_
  rintro e v7 ⟨rfl, h7⟩
  have K10 := Lib.hid (K9.out.trans (below_chg2 h7))
  clear h7
  go_wp2_with fail
  refine (NAB.out _).mono ?_
  rintro e v8 ⟨rfl, h8⟩
  have K11 := Lib.hid (K10.out.trans (below_chg2 h8))
  clear h8
  go_wp2_with fail
  refine (NBA.out _).mono ?_
  rintro e v9 ⟨rfl, h9⟩
  have K12 := Lib.hid (K11.out.trans (below_chg2 h9))
  clear h9
  cases n
  · go_wp2
    go_ret
    exact ⟨rfl, K12.out⟩
  · go_wp2
    go_ret
    exact ⟨rfl, K12.out⟩
set_option maxRecDepth 100000 in
set_option maxHeartbeats 4000000 in
theorem po_6 (w : World) (a b c : List UInt8) (n : Bool) (ha : a.length ≤ 200) (hb : b.length ≤ 200) (hc : c.length ≤ 200)
    (hp : lessL a b = true)
    (hq : lessL b a = false)
    (hr : lessL b c = false)
    (hu : underL a b = true)
    (hn : nearL a b = n) (heq : (a == b) = false) : Calls Tryd.prog 8 #[.string (strOf a), .string (strOf b), .string (strOf c)] w fun e w' => e = .returned (.bool true) ∧ Chg [] w w' := by
  have hn2 : nearL b a = n := by rw [near_sym b a]; exact hn
  have hlt : longT [a, b, c] = false := by simp [longT]; omega
  have LGE := Lib.hid hlt
  clear hlt
  have KN := Lib.hid (fun W => pathKnownR_run W)
  have AA := Lib.hid (fun w => phless_any w a a (by omega) (by omega))
  rw [less_self] at AA
  have AB := Lib.hid (fun w => hp ▸ phless_any w a b (by omega) (by omega))
  have BA := Lib.hid (fun w => hq ▸ phless_any w b a (by omega) (by omega))
  have BC := Lib.hid (fun w => hr ▸ phless_any w b c (by omega) (by omega))
  have UAB := Lib.hid (fun w => hu ▸ phunder_any w a b (by omega) (by omega))
  have NAB := Lib.hid (fun w => hn ▸ phnear_any w a b (by omega) (by omega))
  have NBA := Lib.hid (fun w => hn2 ▸ phnear_any w b a (by omega) (by omega))
  have hne : a ≠ b := by simpa using heq
  have hse := str_ne hne
  clear hne
  have hnn : (n == n) = true := by simp
  clear hn hn2 ha hb hc hp hq hr hu
  go_enter Tryd.func8, Tryd.ntmps8
  go_wp2_with fail
  refine (KN.out _).mono ?_
  rintro e w1 ⟨rfl, h1⟩
  have K1 := Lib.hid h1
  clear h1
  obtain ⟨w2, hw2, c2, b2⟩ := news1 w1 (.cells #[.string (strOf a), .string (strOf b), .string (strOf c)] 9)
  have W2 := Lib.hid hw2
  have R2 := Lib.hid (OwnK.of (R := textTy) (c := 3) (full := [a, b, c]) (xs := [a, b, c]) b2 (Nat.le_refl _) (by decide) rfl rfl).reads
  have K2 := Lib.hid (K1.out.trans c2)
  have LG2 := Lib.hid (fun W h => long_any W (some ⟨w1.heap.size, 0, none⟩) 3 [a, b, c] h (by simp))
  rw [LGE.out] at LG2
  clear hw2 c2 b2
  go_wp2_with fail
  rw [← W2.out]
  refine (LG2.out _ R2.out).mono ?_
  rintro e w3 ⟨rfl, rfl⟩
  go_wp2_with fail
  refine (AB.out _).mono ?_
  rintro e v0 ⟨rfl, h0⟩
  have K3 := Lib.hid (K2.out.trans h0)
  clear h0
  go_wp2_with fail
  refine (BA.out _).mono ?_
  rintro e v1 ⟨rfl, h1⟩
  have K4 := Lib.hid (K3.out.trans h1)
  clear h1
  go_wp2_with fail
  refine (AA.out _).mono ?_
  rintro e v2 ⟨rfl, h2⟩
  have K5 := Lib.hid (K4.out.trans h2)
  clear h2
  go_wp2_with fail
  refine (BC.out _).mono ?_
  rintro e v3 ⟨rfl, h3⟩
  have K6 := Lib.hid (K5.out.trans h3)
  clear h3
  go_wp2_with fail
  refine (BC.out _).mono ?_
  rintro e v4 ⟨rfl, h4⟩
  have K7 := Lib.hid (K6.out.trans h4)
  clear h4
  go_wp2_with fail
  refine (UAB.out _).mono ?_
  rintro e v5 ⟨rfl, h5⟩
  have K8 := Lib.hid (K7.out.trans (below_chg2 h5))
  clear h5
  go_wp2_with fail
  refine (NAB.out _).mono ?_
  rintro e v6 ⟨rfl, h6⟩
  have K9 := Lib.hid (K8.out.trans (below_chg2 h6))
  clear h6
  go_wp2_with fail
  refine (NBA.out _).mono ?_
  rintro e v7 ⟨rfl, h7⟩
  have K10 := Lib.hid (K9.out.trans (below_chg2 h7))
  clear h7
  cases n
  · go_wp2
    go_ret
    exact ⟨rfl, K10.out⟩
  · go_wp2
    go_ret
    exact ⟨rfl, K10.out⟩
set_option maxRecDepth 100000 in
set_option maxHeartbeats 4000000 in
theorem po_7 (w : World) (a b c : List UInt8) (n : Bool) (ha : a.length ≤ 200) (hb : b.length ≤ 200) (hc : c.length ≤ 200)
    (hp : lessL a b = true)
    (hq : lessL b a = false)
    (hr : lessL b c = false)
    (hu : underL a b = false)
    (hn : nearL a b = n) (heq : (a == b) = false) : Calls Tryd.prog 8 #[.string (strOf a), .string (strOf b), .string (strOf c)] w fun e w' => e = .returned (.bool true) ∧ Chg [] w w' := by
  have hn2 : nearL b a = n := by rw [near_sym b a]; exact hn
  have hlt : longT [a, b, c] = false := by simp [longT]; omega
  have LGE := Lib.hid hlt
  clear hlt
  have KN := Lib.hid (fun W => pathKnownR_run W)
  have AA := Lib.hid (fun w => phless_any w a a (by omega) (by omega))
  rw [less_self] at AA
  have AB := Lib.hid (fun w => hp ▸ phless_any w a b (by omega) (by omega))
  have BA := Lib.hid (fun w => hq ▸ phless_any w b a (by omega) (by omega))
  have BC := Lib.hid (fun w => hr ▸ phless_any w b c (by omega) (by omega))
  have UAB := Lib.hid (fun w => hu ▸ phunder_any w a b (by omega) (by omega))
  have NAB := Lib.hid (fun w => hn ▸ phnear_any w a b (by omega) (by omega))
  have NBA := Lib.hid (fun w => hn2 ▸ phnear_any w b a (by omega) (by omega))
  have hne : a ≠ b := by simpa using heq
  have hse := str_ne hne
  clear hne
  have hnn : (n == n) = true := by simp
  clear hn hn2 ha hb hc hp hq hr hu
  go_enter Tryd.func8, Tryd.ntmps8
  go_wp2_with fail
  refine (KN.out _).mono ?_
  rintro e w1 ⟨rfl, h1⟩
  have K1 := Lib.hid h1
  clear h1
  obtain ⟨w2, hw2, c2, b2⟩ := news1 w1 (.cells #[.string (strOf a), .string (strOf b), .string (strOf c)] 9)
  have W2 := Lib.hid hw2
  have R2 := Lib.hid (OwnK.of (R := textTy) (c := 3) (full := [a, b, c]) (xs := [a, b, c]) b2 (Nat.le_refl _) (by decide) rfl rfl).reads
  have K2 := Lib.hid (K1.out.trans c2)
  have LG2 := Lib.hid (fun W h => long_any W (some ⟨w1.heap.size, 0, none⟩) 3 [a, b, c] h (by simp))
  rw [LGE.out] at LG2
  clear hw2 c2 b2
  go_wp2_with fail
  rw [← W2.out]
  refine (LG2.out _ R2.out).mono ?_
  rintro e w3 ⟨rfl, rfl⟩
  go_wp2_with fail
  refine (AB.out _).mono ?_
  rintro e v0 ⟨rfl, h0⟩
  have K3 := Lib.hid (K2.out.trans h0)
  clear h0
  go_wp2_with fail
  refine (BA.out _).mono ?_
  rintro e v1 ⟨rfl, h1⟩
  have K4 := Lib.hid (K3.out.trans h1)
  clear h1
  go_wp2_with fail
  refine (AA.out _).mono ?_
  rintro e v2 ⟨rfl, h2⟩
  have K5 := Lib.hid (K4.out.trans h2)
  clear h2
  go_wp2_with fail
  refine (BC.out _).mono ?_
  rintro e v3 ⟨rfl, h3⟩
  have K6 := Lib.hid (K5.out.trans h3)
  clear h3
  go_wp2_with fail
  refine (BC.out _).mono ?_
  rintro e v4 ⟨rfl, h4⟩
  have K7 := Lib.hid (K6.out.trans h4)
  clear h4
  go_wp2_with fail
  refine (UAB.out _).mono ?_
  rintro e v5 ⟨rfl, h5⟩
  have K8 := Lib.hid (K7.out.trans (below_chg2 h5))
  clear h5
  go_wp2_with fail
  refine (NAB.out _).mono ?_
  rintro e v6 ⟨rfl, h6⟩
  have K9 := Lib.hid (K8.out.trans (below_chg2 h6))
  clear h6
  go_wp2_with fail
  refine (NBA.out _).mono ?_
  rintro e v7 ⟨rfl, h7⟩
  have K10 := Lib.hid (K9.out.trans (below_chg2 h7))
  clear h7
  cases n
  · go_wp2
    go_ret
    exact ⟨rfl, K10.out⟩
  · go_wp2
    go_ret
    exact ⟨rfl, K10.out⟩
set_option maxRecDepth 100000 in
set_option maxHeartbeats 4000000 in
theorem po_8 (w : World) (a b c : List UInt8) (n : Bool) (ha : a.length ≤ 200) (hb : b.length ≤ 200) (hc : c.length ≤ 200)
    (hp : lessL a b = false)
    (hq : lessL b a = true)
    (hu : underL a b = false)
    (hn : nearL a b = n) (heq : (a == b) = false) : Calls Tryd.prog 8 #[.string (strOf a), .string (strOf b), .string (strOf c)] w fun e w' => e = .returned (.bool true) ∧ Chg [] w w' := by
  have hn2 : nearL b a = n := by rw [near_sym b a]; exact hn
  have hlt : longT [a, b, c] = false := by simp [longT]; omega
  have LGE := Lib.hid hlt
  clear hlt
  have KN := Lib.hid (fun W => pathKnownR_run W)
  have AA := Lib.hid (fun w => phless_any w a a (by omega) (by omega))
  rw [less_self] at AA
  have AB := Lib.hid (fun w => hp ▸ phless_any w a b (by omega) (by omega))
  have BA := Lib.hid (fun w => hq ▸ phless_any w b a (by omega) (by omega))
  have UAB := Lib.hid (fun w => hu ▸ phunder_any w a b (by omega) (by omega))
  have NAB := Lib.hid (fun w => hn ▸ phnear_any w a b (by omega) (by omega))
  have NBA := Lib.hid (fun w => hn2 ▸ phnear_any w b a (by omega) (by omega))
  have hne : a ≠ b := by simpa using heq
  have hse := str_ne hne
  clear hne
  have hnn : (n == n) = true := by simp
  clear hn hn2 ha hb hc hp hq hu
  go_enter Tryd.func8, Tryd.ntmps8
  go_wp2_with fail
  refine (KN.out _).mono ?_
  rintro e w1 ⟨rfl, h1⟩
  have K1 := Lib.hid h1
  clear h1
  obtain ⟨w2, hw2, c2, b2⟩ := news1 w1 (.cells #[.string (strOf a), .string (strOf b), .string (strOf c)] 9)
  have W2 := Lib.hid hw2
  have R2 := Lib.hid (OwnK.of (R := textTy) (c := 3) (full := [a, b, c]) (xs := [a, b, c]) b2 (Nat.le_refl _) (by decide) rfl rfl).reads
  have K2 := Lib.hid (K1.out.trans c2)
  have LG2 := Lib.hid (fun W h => long_any W (some ⟨w1.heap.size, 0, none⟩) 3 [a, b, c] h (by simp))
  rw [LGE.out] at LG2
  clear hw2 c2 b2
  go_wp2_with fail
  rw [← W2.out]
  refine (LG2.out _ R2.out).mono ?_
  rintro e w3 ⟨rfl, rfl⟩
  go_wp2_with fail
  refine (AB.out _).mono ?_
  rintro e v0 ⟨rfl, h0⟩
  have K3 := Lib.hid (K2.out.trans h0)
  clear h0
  go_wp2_with fail
  refine (BA.out _).mono ?_
  rintro e v1 ⟨rfl, h1⟩
  have K4 := Lib.hid (K3.out.trans h1)
  clear h1
  go_wp2_with fail
  refine (AA.out _).mono ?_
  rintro e v2 ⟨rfl, h2⟩
  have K5 := Lib.hid (K4.out.trans h2)
  clear h2
  go_wp2_with fail
  refine (UAB.out _).mono ?_
  rintro e v3 ⟨rfl, h3⟩
  have K6 := Lib.hid (K5.out.trans (below_chg2 h3))
  clear h3
  go_wp2_with fail
  refine (NAB.out _).mono ?_
  rintro e v4 ⟨rfl, h4⟩
  have K7 := Lib.hid (K6.out.trans (below_chg2 h4))
  clear h4
  go_wp2_with fail
  refine (NBA.out _).mono ?_
  rintro e v5 ⟨rfl, h5⟩
  have K8 := Lib.hid (K7.out.trans (below_chg2 h5))
  clear h5
  cases n
  · go_wp2
    go_ret
    exact ⟨rfl, K8.out⟩
  · go_wp2
    go_ret
    exact ⟨rfl, K8.out⟩
set_option maxRecDepth 100000 in
set_option maxHeartbeats 4000000 in
theorem po_9 (w : World) (a b c : List UInt8) (n : Bool) (ha : a.length ≤ 200) (hb : b.length ≤ 200) (hc : c.length ≤ 200)
    (hp : lessL a b = false)
    (hq : lessL b a = false)
    (hu : underL a b = false)
    (hn : nearL a b = n) (heq : (a == b) = true) : Calls Tryd.prog 8 #[.string (strOf a), .string (strOf b), .string (strOf c)] w fun e w' => e = .returned (.bool true) ∧ Chg [] w w' := by
  have hn2 : nearL b a = n := by rw [near_sym b a]; exact hn
  have hlt : longT [a, b, c] = false := by simp [longT]; omega
  have LGE := Lib.hid hlt
  clear hlt
  have KN := Lib.hid (fun W => pathKnownR_run W)
  have AA := Lib.hid (fun w => phless_any w a a (by omega) (by omega))
  rw [less_self] at AA
  have AB := Lib.hid (fun w => hp ▸ phless_any w a b (by omega) (by omega))
  have BA := Lib.hid (fun w => hq ▸ phless_any w b a (by omega) (by omega))
  have UAB := Lib.hid (fun w => hu ▸ phunder_any w a b (by omega) (by omega))
  have NAB := Lib.hid (fun w => hn ▸ phnear_any w a b (by omega) (by omega))
  have NBA := Lib.hid (fun w => hn2 ▸ phnear_any w b a (by omega) (by omega))
  have hnn : (n == n) = true := by simp
  clear hn hn2 ha hb hc hp hq hu
  go_enter Tryd.func8, Tryd.ntmps8
  go_wp2_with fail
  refine (KN.out _).mono ?_
  rintro e w1 ⟨rfl, h1⟩
  have K1 := Lib.hid h1
  clear h1
  obtain ⟨w2, hw2, c2, b2⟩ := news1 w1 (.cells #[.string (strOf a), .string (strOf b), .string (strOf c)] 9)
  have W2 := Lib.hid hw2
  have R2 := Lib.hid (OwnK.of (R := textTy) (c := 3) (full := [a, b, c]) (xs := [a, b, c]) b2 (Nat.le_refl _) (by decide) rfl rfl).reads
  have K2 := Lib.hid (K1.out.trans c2)
  have LG2 := Lib.hid (fun W h => long_any W (some ⟨w1.heap.size, 0, none⟩) 3 [a, b, c] h (by simp))
  rw [LGE.out] at LG2
  clear hw2 c2 b2
  go_wp2_with fail
  rw [← W2.out]
  refine (LG2.out _ R2.out).mono ?_
  rintro e w3 ⟨rfl, rfl⟩
  go_wp2_with fail
  refine (AB.out _).mono ?_
  rintro e v0 ⟨rfl, h0⟩
  have K3 := Lib.hid (K2.out.trans h0)
  clear h0
  go_wp2_with fail
  refine (BA.out _).mono ?_
  rintro e v1 ⟨rfl, h1⟩
  have K4 := Lib.hid (K3.out.trans h1)
  clear h1
  go_wp2_with fail
  refine (AA.out _).mono ?_
  rintro e v2 ⟨rfl, h2⟩
  have K5 := Lib.hid (K4.out.trans h2)
  clear h2
  go_wp2_with fail
  refine (UAB.out _).mono ?_
  rintro e v3 ⟨rfl, h3⟩
  have K6 := Lib.hid (K5.out.trans (below_chg2 h3))
  clear h3
  go_wp2_with fail
  refine (NAB.out _).mono ?_
  rintro e v4 ⟨rfl, h4⟩
  have K7 := Lib.hid (K6.out.trans (below_chg2 h4))
  clear h4
  go_wp2_with fail
  refine (NBA.out _).mono ?_
  rintro e v5 ⟨rfl, h5⟩
  have K8 := Lib.hid (K7.out.trans (below_chg2 h5))
  clear h5
  cases n
  · go_wp2
    go_ret
    exact ⟨rfl, K8.out⟩
  · go_wp2
    go_ret
    exact ⟨rfl, K8.out⟩
end Go.Proofs.YtibdeiahmgkbhaaDoor
