/- ShelfKnown, by contracts. event.Same. Sixteen letters: a number's digits to the base 16: no memory here. strconv.FormatUint at the base 16, strings.Repeat of '0', print.Text. The fingerprint: through, More, Sum; the document's. print.Mix: the pieces of numbers, eight bytes each. Slices of numbers as arguments. -/
import Derived.Test.YtdfapiffalmjcaaGreatDoorZsaw
import Derived.Test.YtdfapiffalmjcaaGreatDoorZsab
import Derived.Deep.Cut
import Derived.Deep.RegionHeld3
import Derived.Test.YtdfapiffalmjcaaGreatDoorZsad
import Derived.Test.YtdfapiffalmjcaaGreatDoorZsam
import Derived.Test.YtdfapiffalmjcaaGreatDoorZsau
import Derived.Deep.QuietTactic
import Derived.BigQuiet
import Derived.RegionTactic
import Derived.Test.YtdfapiffalmjcaaGreatDoorZsaa
import Derived.Test.YtdfapiffalmjcaaGreatDoorZsaq
namespace Go.Proofs.YtdfapiffalmjcaaGreatDoor
section
open Go.RowKit Go.Lib
set_option linter.unusedSimpArgs false
set_option linter.unusedVariables false


theorem w_smq {l : List EvP} (h : ∀ e ∈ l, e ∈ [oneE, twoE, threeE] := by simp) : ∀ e ∈ l, e.q.length ≤ 140737488351232 := fun e he => by have := (w_sm e (h e he)).2; omega
theorem w_jo : shJoinE [oneE] [⟨1, 2, [103], 1, 0, [], []⟩] = (2, []) := shJoin_path rfl rfl (by decide)
set_option maxRecDepth 100000 in
set_option maxHeartbeats 4000000 in
theorem shpast_two (w : World) (A : Option Addr) (c : Nat) (xs : List EvT) (h : RdK evTy w A xs.length xs) (hx : EvsR w xs [twoE]) :
    Calls Tryz.prog 53 #[.slice A xs.length c] w fun r w' => ∃ A' c', r = .returned (.tuple #[.slice A' 2 c', .int .i64 0]) ∧ OwnK spanTy w' A' c' [(1, 1, 1), (2, 1, 1)] ∧ Chg [] w w' := by
  have L : xs.length = 1 := hx.1
  have S : ∀ e ∈ [twoE], EvSm e := fun e he => (w_sms (by simp) e he).1
  have C1 := Lib.hid (shcheck_any w A c xs [twoE] h hx (by omega) S)
  have P1 := Lib.hid (fun (w' : World) (hc : Chg [] w w') => evpast_any w' A c xs [twoE] (h.chg hc (by simp)) (hx.chg hc) (by omega) S)
  have Z : Hid (shE [twoE] = 0) := Lib.hid (shE_zero.2 w_ok.2.2.1)
  clear h hx L S
  go_enter Tryz.func53, Tryz.ntmps53
  go_wp2_with fail
  refine C1.out.mono ?_
  rintro r w1 ⟨rfl, hc⟩
  rw [Z.out]
  have C := Lib.hid hc
  clear hc C1
  go_wp2_with fail
  refine (P1.out w1 C.out).mono ?_
  rintro r w2 ⟨A', c', rfl, ho, hn, hc⟩
  rw [w_past] at ho ⊢
  have O := Lib.hid ho
  have D := Lib.hid (C.out.trans hc)
  clear ho hn hc P1
  go_wp2
  go_ret2
  exact ⟨A', c', rfl, O.out, D.out⟩
set_option maxRecDepth 100000 in
set_option maxHeartbeats 32000000 in
theorem shelfknown_run (w : World) : Calls Tryz.prog 19 #[] w fun e w' => e = .returned (.bool true) ∧ Chg [] w w' := by

  have C := Lib.hid (Chg.refl [] w)
  go_enter Tryz.func19, Tryz.ntmps19
  go_wp2_with fail
  refine (l9one_any w).mono ?_
  rintro r v1 ⟨X1, rfl, he, hz, hc⟩
  have EX1 := Lib.hid he
  have ZX1 := Lib.hid hz
  replace C := Lib.hid (C.out.trans hc)
  clear hc he hz
  obtain ⟨v2, hw, hc, hb⟩ := news1 v1 (.cells #[.int .i64 X1.n, .int .i64 X1.s, .string X1.p, .int .i64 X1.k, .int .i64 X1.m, .slice X1.A X1.l X1.c, .slice X1.B X1.bl X1.bc] 30)
  have Wv := Lib.hid hw
  have B2 := Lib.hid (rd_oneEc hb)
  have Q2 : Hid (EvsR v1 [X1] [oneE]) := Lib.hid (by simpa using (EvsR.nil v1).snoc EX1.out)
  replace C := Lib.hid (C.out.trans hc)
  replace EX1 := Lib.hid (EX1.out.chg hc)
  replace Q2 := Lib.hid (Q2.out.chg hc)
  clear hw hc hb
  obtain ⟨g2, hg⟩ : ∃ g, v1.heap.size = g := ⟨_, rfl⟩
  go_wp2_with fail
  rw [← Wv.out]
  try rw [hg]
  rw [hg] at B2
  clear Wv hg
  refine (l9of_any v2 _ 1 1 [X1] B2.out (by omega)).mono ?_
  rintro r v3 ⟨A3, c3, rfl, ho, hc⟩
  have O3 := Lib.hid ho
  clear B2
  replace C := Lib.hid (C.out.trans hc)
  replace EX1 := Lib.hid (EX1.out.chg hc)
  replace Q2 := Lib.hid (Q2.out.chg hc)
  clear hc ho
  go_wp2_with fail
  refine (l9two_any v3).mono ?_
  rintro r v4 ⟨X4, rfl, he, hz, hc⟩
  have EX4 := Lib.hid he
  have ZX4 := Lib.hid hz
  replace C := Lib.hid (C.out.trans hc)
  replace EX1 := Lib.hid (EX1.out.chg hc)
  replace Q2 := Lib.hid (Q2.out.chg hc)
  replace O3 := Lib.hid (O3.out.chg hc (by simp))
  clear hc he hz
  obtain ⟨v5, hw, hc, hb⟩ := news1 v4 (.cells #[.int .i64 X4.n, .int .i64 X4.s, .string X4.p, .int .i64 X4.k, .int .i64 X4.m, .slice X4.A X4.l X4.c, .slice X4.B X4.bl X4.bc] 30)
  have Wv := Lib.hid hw
  have B5 := Lib.hid (rd_oneEc hb)
  have Q5 : Hid (EvsR v4 [X4] [twoE]) := Lib.hid (by simpa using (EvsR.nil v4).snoc EX4.out)
  replace C := Lib.hid (C.out.trans hc)
  replace EX1 := Lib.hid (EX1.out.chg hc)
  replace Q2 := Lib.hid (Q2.out.chg hc)
  replace O3 := Lib.hid (O3.out.chg hc (by simp))
  replace EX4 := Lib.hid (EX4.out.chg hc)
  replace Q5 := Lib.hid (Q5.out.chg hc)
  clear hw hc hb
  obtain ⟨g5, hg⟩ : ∃ g, v4.heap.size = g := ⟨_, rfl⟩
  go_wp2_with fail
  rw [← Wv.out]
  try rw [hg]
  rw [hg] at B5
  clear Wv hg
  refine (l9of_any v5 _ 1 1 [X4] B5.out (by omega)).mono ?_
  rintro r v6 ⟨A6, c6, rfl, ho, hc⟩
  have O6 := Lib.hid ho
  clear B5
  replace C := Lib.hid (C.out.trans hc)
  replace EX1 := Lib.hid (EX1.out.chg hc)
  replace Q2 := Lib.hid (Q2.out.chg hc)
  replace O3 := Lib.hid (O3.out.chg hc (by simp))
  replace EX4 := Lib.hid (EX4.out.chg hc)
  replace Q5 := Lib.hid (Q5.out.chg hc)
  clear hc ho
  go_wp2_with fail
  refine (shjoin_any v6 A3 A6 c3 c6 [X1] [X4] [oneE] [twoE] O3.out.reads O6.out.reads Q2.out Q5.out (by simp) w_sms w_sms).mono ?_
  rintro r v7 ⟨AJ7, cJ7, zJ7, rfl, he, hc⟩
  rw [w_j1] at he ⊢
  have J7 : Hid (RdK evTy v7 AJ7 zJ7.length zJ7 ∧ EvsR v7 zJ7 [twoE]) := Lib.hid ⟨he.row.reads, he.all.ev⟩
  clear O3 Q2
  clear EX1 ZX1
  clear O6 Q5
  clear EX4 ZX4
  replace C := Lib.hid (C.out.trans hc)
  clear hc he
  go_wp2_with fail
  refine (l9one_any v7).mono ?_
  rintro r v8 ⟨X8, rfl, he, hz, hc⟩
  have EX8 := Lib.hid he
  have ZX8 := Lib.hid hz
  replace C := Lib.hid (C.out.trans hc)
  replace J7 := Lib.hid (And.intro (J7.out.1.chg hc (by simp)) (J7.out.2.chg hc))
  clear hc he hz
  go_wp2_with fail
  refine (l9three_any v8).mono ?_
  rintro r v9 ⟨X9, rfl, he, hz, hc⟩
  have EX9 := Lib.hid he
  have ZX9 := Lib.hid hz
  replace C := Lib.hid (C.out.trans hc)
  replace J7 := Lib.hid (And.intro (J7.out.1.chg hc (by simp)) (J7.out.2.chg hc))
  replace EX8 := Lib.hid (EX8.out.chg hc)
  clear hc he hz
  obtain ⟨v10, hw, hc, hb⟩ := news1 v9 (.cells #[.int .i64 X8.n, .int .i64 X8.s, .string X8.p, .int .i64 X8.k, .int .i64 X8.m, .slice X8.A X8.l X8.c, .slice X8.B X8.bl X8.bc, .int .i64 X9.n, .int .i64 X9.s, .string X9.p, .int .i64 X9.k, .int .i64 X9.m, .slice X9.A X9.l X9.c, .slice X9.B X9.bl X9.bc] 30)
  have Wv := Lib.hid hw
  have B10 := Lib.hid (rd_twoE hb)
  have Q10 : Hid (EvsR v9 [X8, X9] [oneE, threeE]) := Lib.hid (by simpa using ((EvsR.nil v9).snoc EX8.out).snoc EX9.out)
  replace C := Lib.hid (C.out.trans hc)
  replace J7 := Lib.hid (And.intro (J7.out.1.chg hc (by simp)) (J7.out.2.chg hc))
  replace EX8 := Lib.hid (EX8.out.chg hc)
  replace EX9 := Lib.hid (EX9.out.chg hc)
  replace Q10 := Lib.hid (Q10.out.chg hc)
  clear hw hc hb
  obtain ⟨g10, hg⟩ : ∃ g, v9.heap.size = g := ⟨_, rfl⟩
  go_wp2_with fail
  rw [← Wv.out]
  try rw [hg]
  rw [hg] at B10
  clear Wv hg
  refine (l9of_any v10 _ 2 2 [X8, X9] B10.out (by omega)).mono ?_
  rintro r v11 ⟨A11, c11, rfl, ho, hc⟩
  have O11 := Lib.hid ho
  clear B10
  replace C := Lib.hid (C.out.trans hc)
  replace J7 := Lib.hid (And.intro (J7.out.1.chg hc (by simp)) (J7.out.2.chg hc))
  replace EX8 := Lib.hid (EX8.out.chg hc)
  replace EX9 := Lib.hid (EX9.out.chg hc)
  replace Q10 := Lib.hid (Q10.out.chg hc)
  clear hc ho
  go_wp2_with fail
  refine (l9two_any v11).mono ?_
  rintro r v12 ⟨X12, rfl, he, hz, hc⟩
  have EX12 := Lib.hid he
  have ZX12 := Lib.hid hz
  replace C := Lib.hid (C.out.trans hc)
  replace J7 := Lib.hid (And.intro (J7.out.1.chg hc (by simp)) (J7.out.2.chg hc))
  replace EX8 := Lib.hid (EX8.out.chg hc)
  replace EX9 := Lib.hid (EX9.out.chg hc)
  replace Q10 := Lib.hid (Q10.out.chg hc)
  replace O11 := Lib.hid (O11.out.chg hc (by simp))
  clear hc he hz
  obtain ⟨v13, hw, hc, hb⟩ := news1 v12 (.cells #[.int .i64 X12.n, .int .i64 X12.s, .string X12.p, .int .i64 X12.k, .int .i64 X12.m, .slice X12.A X12.l X12.c, .slice X12.B X12.bl X12.bc] 30)
  have Wv := Lib.hid hw
  have B13 := Lib.hid (rd_oneEc hb)
  have Q13 : Hid (EvsR v12 [X12] [twoE]) := Lib.hid (by simpa using (EvsR.nil v12).snoc EX12.out)
  replace C := Lib.hid (C.out.trans hc)
  replace J7 := Lib.hid (And.intro (J7.out.1.chg hc (by simp)) (J7.out.2.chg hc))
  replace EX8 := Lib.hid (EX8.out.chg hc)
  replace EX9 := Lib.hid (EX9.out.chg hc)
  replace Q10 := Lib.hid (Q10.out.chg hc)
  replace O11 := Lib.hid (O11.out.chg hc (by simp))
  replace EX12 := Lib.hid (EX12.out.chg hc)
  replace Q13 := Lib.hid (Q13.out.chg hc)
  clear hw hc hb
  obtain ⟨g13, hg⟩ : ∃ g, v12.heap.size = g := ⟨_, rfl⟩
  go_wp2_with fail
  rw [← Wv.out]
  try rw [hg]
  rw [hg] at B13
  clear Wv hg
  refine (l9of_any v13 _ 1 1 [X12] B13.out (by omega)).mono ?_
  rintro r v14 ⟨A14, c14, rfl, ho, hc⟩
  have O14 := Lib.hid ho
  clear B13
  replace C := Lib.hid (C.out.trans hc)
  replace J7 := Lib.hid (And.intro (J7.out.1.chg hc (by simp)) (J7.out.2.chg hc))
  replace EX8 := Lib.hid (EX8.out.chg hc)
  replace EX9 := Lib.hid (EX9.out.chg hc)
  replace Q10 := Lib.hid (Q10.out.chg hc)
  replace O11 := Lib.hid (O11.out.chg hc (by simp))
  replace EX12 := Lib.hid (EX12.out.chg hc)
  replace Q13 := Lib.hid (Q13.out.chg hc)
  clear hc ho
  go_wp2_with fail
  refine (shjoin_any v14 A11 A14 c11 c14 [X8, X9] [X12] [oneE, threeE] [twoE] O11.out.reads O14.out.reads Q10.out Q13.out (by simp) w_sms w_sms).mono ?_
  rintro r v15 ⟨AJ15, cJ15, zJ15, rfl, he, hc⟩
  rw [w_j4] at he ⊢
  have J15 : Hid (RdK evTy v15 AJ15 zJ15.length zJ15 ∧ EvsR v15 zJ15 [twoE, threeE]) := Lib.hid ⟨he.row.reads, he.all.ev⟩
  clear O11 Q10
  clear EX8 ZX8
  clear EX9 ZX9
  clear O14 Q13
  clear EX12 ZX12
  replace C := Lib.hid (C.out.trans hc)
  replace J7 := Lib.hid (And.intro (J7.out.1.chg hc (by simp)) (J7.out.2.chg hc))
  clear hc he
  go_wp2_with fail
  refine (l9one_any v15).mono ?_
  rintro r v16 ⟨X16, rfl, he, hz, hc⟩
  have EX16 := Lib.hid he
  have ZX16 := Lib.hid hz
  replace C := Lib.hid (C.out.trans hc)
  replace J7 := Lib.hid (And.intro (J7.out.1.chg hc (by simp)) (J7.out.2.chg hc))
  replace J15 := Lib.hid (And.intro (J15.out.1.chg hc (by simp)) (J15.out.2.chg hc))
  clear hc he hz
  go_wp2_with fail
  refine (l9three_any v16).mono ?_
  rintro r v17 ⟨X17, rfl, he, hz, hc⟩
  have EX17 := Lib.hid he
  have ZX17 := Lib.hid hz
  replace C := Lib.hid (C.out.trans hc)
  replace J7 := Lib.hid (And.intro (J7.out.1.chg hc (by simp)) (J7.out.2.chg hc))
  replace J15 := Lib.hid (And.intro (J15.out.1.chg hc (by simp)) (J15.out.2.chg hc))
  replace EX16 := Lib.hid (EX16.out.chg hc)
  clear hc he hz
  obtain ⟨v18, hw, hc, hb⟩ := news1 v17 (.cells #[.int .i64 X16.n, .int .i64 X16.s, .string X16.p, .int .i64 X16.k, .int .i64 X16.m, .slice X16.A X16.l X16.c, .slice X16.B X16.bl X16.bc, .int .i64 X17.n, .int .i64 X17.s, .string X17.p, .int .i64 X17.k, .int .i64 X17.m, .slice X17.A X17.l X17.c, .slice X17.B X17.bl X17.bc] 30)
  have Wv := Lib.hid hw
  have B18 := Lib.hid (rd_twoE hb)
  have Q18 : Hid (EvsR v17 [X16, X17] [oneE, threeE]) := Lib.hid (by simpa using ((EvsR.nil v17).snoc EX16.out).snoc EX17.out)
  replace C := Lib.hid (C.out.trans hc)
  replace J7 := Lib.hid (And.intro (J7.out.1.chg hc (by simp)) (J7.out.2.chg hc))
  replace J15 := Lib.hid (And.intro (J15.out.1.chg hc (by simp)) (J15.out.2.chg hc))
  replace EX16 := Lib.hid (EX16.out.chg hc)
  replace EX17 := Lib.hid (EX17.out.chg hc)
  replace Q18 := Lib.hid (Q18.out.chg hc)
  clear hw hc hb
  obtain ⟨g18, hg⟩ : ∃ g, v17.heap.size = g := ⟨_, rfl⟩
  go_wp2_with fail
  rw [← Wv.out]
  try rw [hg]
  rw [hg] at B18
  clear Wv hg
  refine (l9of_any v18 _ 2 2 [X16, X17] B18.out (by omega)).mono ?_
  rintro r v19 ⟨A19, c19, rfl, ho, hc⟩
  have O19 := Lib.hid ho
  clear B18
  replace C := Lib.hid (C.out.trans hc)
  replace J7 := Lib.hid (And.intro (J7.out.1.chg hc (by simp)) (J7.out.2.chg hc))
  replace J15 := Lib.hid (And.intro (J15.out.1.chg hc (by simp)) (J15.out.2.chg hc))
  replace EX16 := Lib.hid (EX16.out.chg hc)
  replace EX17 := Lib.hid (EX17.out.chg hc)
  replace Q18 := Lib.hid (Q18.out.chg hc)
  clear hc ho
  have ZK : Hid (X16.k = 1 ∧ X16.m = 0 ∧ X17.k = 2 ∧ X17.m = 0) := Lib.hid ⟨EX16.out.k, EX16.out.m, EX17.out.k, EX17.out.m⟩
  go_wp2_with fail
  refine (sheffects_two v19 A19 c19 [X16, X17] [oneE, threeE] O19.out.reads Q18.out (fun x hx => by rcases List.mem_cons.1 hx with q | q; exact (by rw [q]; exact ZX16.out); exact (by rw [List.mem_singleton.1 q]; exact ZX17.out)) (by simp) (fun e he => (w_sms (by simp) e he).1) (shE_zero.2 w_ok.2.2.2) (fun a b h => by simp at h; rw [← h.1, ← h.2]; exact (by rw [ZK.out.1, ZK.out.2.1, ZK.out.2.2.1, ZK.out.2.2.2]; unfold LtD; omega))).mono ?_
  rintro r v20 ⟨AE, cE, zE, rfl, hze, he, hc⟩
  have FE : Hid (zE = [(1, 0), (2, 0)]) := Lib.hid (by rw [hze]; simp only [List.map_cons, List.map_nil]; rw [ZK.out.1, ZK.out.2.1, ZK.out.2.2.1, ZK.out.2.2.2])
  rw [FE.out] at he ⊢
  have RE : Hid (RdK effZ v20 AE 2 [(1, 0), (2, 0)]) := Lib.hid he.reads
  clear O19 Q18
  clear EX16 ZX16
  clear EX17 ZX17
  replace C := Lib.hid (C.out.trans hc)
  replace J7 := Lib.hid (And.intro (J7.out.1.chg hc (by simp)) (J7.out.2.chg hc))
  replace J15 := Lib.hid (And.intro (J15.out.1.chg hc (by simp)) (J15.out.2.chg hc))
  clear hc he hze ZK FE
  go_wp2_with fail
  refine (l9one_any v20).mono ?_
  rintro r v21 ⟨X21, rfl, he, hz, hc⟩
  have EX21 := Lib.hid he
  have ZX21 := Lib.hid hz
  replace C := Lib.hid (C.out.trans hc)
  replace J7 := Lib.hid (And.intro (J7.out.1.chg hc (by simp)) (J7.out.2.chg hc))
  replace J15 := Lib.hid (And.intro (J15.out.1.chg hc (by simp)) (J15.out.2.chg hc))
  replace RE := Lib.hid (RE.out.chg hc (by simp))
  clear hc he hz
  obtain ⟨v22, hw, hc, hb⟩ := news1 v21 (.cells #[.int .i64 X21.n, .int .i64 2, .string ⟨#[103]⟩, .int .i64 X21.k, .int .i64 X21.m, .slice X21.A X21.l X21.c, .slice X21.B X21.bl X21.bc] 30)
  have Wv := Lib.hid hw
  have BO := Lib.hid hb
  have EO : Hid (EvR v21 ⟨X21.n, 2, ⟨#[103]⟩, X21.k, X21.m, X21.A, X21.l, X21.c, X21.B, X21.bl, X21.bc⟩ ⟨1, 2, [103], 1, 0, [], []⟩) := Lib.hid ⟨EX21.out.n, rfl, rfl, EX21.out.k, EX21.out.m, EX21.out.l, EX21.out.bl, EX21.out.A, EX21.out.B⟩
  replace C := Lib.hid (C.out.trans hc)
  replace J7 := Lib.hid (And.intro (J7.out.1.chg hc (by simp)) (J7.out.2.chg hc))
  replace J15 := Lib.hid (And.intro (J15.out.1.chg hc (by simp)) (J15.out.2.chg hc))
  replace RE := Lib.hid (RE.out.chg hc (by simp))
  replace EX21 := Lib.hid (EX21.out.chg hc)
  replace EO := Lib.hid (EO.out.chg hc)
  clear hw hc hb
  obtain ⟨gO, hg⟩ : ∃ g, v21.heap.size = g := ⟨_, rfl⟩
  go_upto_region 7 with fail
  rw [← Wv.out]
  try rw [hg]
  rw [hg] at BO
  clear Wv hg
  clear EX21 ZX21
  have HBO : Hid (∀ w', Chg [] v22 w' → w'.heap[gO]? = some (.cells #[.int .i64 X21.n, .int .i64 2, .string ⟨#[103]⟩, .int .i64 X21.k, .int .i64 X21.m, .slice X21.A X21.l X21.c, .slice X21.B X21.bl X21.bc] 30 (0, 0))) := Lib.hid (fun w' hc => hc.at_ BO.out (by simp))
  refine wp_region_held_drew (S := fun w' => Chg [] v22 w') (by kernel_rfl) (Chg.refl [] v22).drew (fun hHeld => ?_)
  have CC := Lib.hid hHeld
  clear hHeld
  obtain ⟨wc, hwc⟩ : ∃ wc, v22.drew = wc := ⟨_, rfl⟩
  rw [hwc] at CC ⊢
  clear hwc
  refine sy 3 48 rfl rfl ?_ (hS := CC.out) (hy := by (intro w hSw; (try dsimp only at hSw); have q := HBO.out _ hSw; have q0 := cell_of q 0; have q1 := cell_of q 1; have q2 := cell_of q 2; have q3 := cell_of q 3; have q4 := cell_of q 4; have q5 := cell_of q 5; have q6 := cell_of q 6; simp only [List.getElem?_toArray, List.getElem?_cons_succ, List.getElem?_cons_zero] at q0 q1 q2 q3 q4 q5 q6; go_simp; try with_reducible rfl))
  try simp only [Act.put, sA, s0, s1]
  refine wpAnyH_ready (rs := [0]) (by kernel_rfl) (by simp) ?_
  refine AllReadyH.cons rfl (fun K hK => ?_) AllReadyH.nil
  replace hK := Lib.hid hK
  go_simp
  refine (l9one_any wc).mono ?_
  rintro r wc ⟨Y, rfl, he, hz, hc⟩
  have EY := Lib.hid he
  replace CC := Lib.hid (CC.out.trans hc)
  clear hc he hz
  refine hK.out _ _ CC.out (fun hHeld => ?_)
  clear hK K
  try simp only [Act.put, sA, s0, s1]
  refine wpAnyH_ready (rs := [1]) (by kernel_rfl) (by simp) ?_
  refine AllReadyH.cons rfl (fun K hK => ?_) AllReadyH.nil
  replace hK := Lib.hid hK
  go_simp
  obtain ⟨pY, hp⟩ : ∃ n, n = wc.heap.size := ⟨_, rfl⟩
  obtain ⟨wd, hw, hc, hb⟩ := news1 wc (.cells #[.int .i64 Y.n, .int .i64 Y.s, .string Y.p, .int .i64 Y.k, .int .i64 Y.m, .slice Y.A Y.l Y.c, .slice Y.B Y.bl Y.bc] 30)
  rw [← hw, ← hp]
  rw [← hp] at hb
  have BY := Lib.hid (rd_oneEc hb)
  have QY : Hid (EvsR wd [Y] [oneE]) := Lib.hid (by simpa using (EvsR.nil wd).snoc (EY.out.chg hc))
  replace CC := Lib.hid (CC.out.trans hc)
  clear hw hp hc hb EY
  refine hK.out _ _ CC.out (fun hHeld => ?_)
  clear hK K
  try simp only [Act.put, sA, s0, s1]
  refine wpAnyH_ready (rs := [2]) (by kernel_rfl) (by simp) ?_
  refine AllReadyH.cons rfl (fun K hK => ?_) AllReadyH.nil
  replace hK := Lib.hid hK
  go_simp
  refine (l9of_any wd _ 1 1 [Y] BY.out (by omega)).mono ?_
  rintro r we ⟨AY, cY, rfl, ho, hc⟩
  have OY := Lib.hid ho
  replace QY := Lib.hid (QY.out.chg hc)
  replace CC := Lib.hid (CC.out.trans hc)
  clear ho hc BY
  refine hK.out _ _ CC.out (fun hHeld => ?_)
  clear hK K
  try simp only [Act.put, sA, s0, s1]
  refine wpAnyH_ready (rs := [4]) (by kernel_rfl) (by simp) ?_
  refine AllReadyH.cons rfl (fun K hK => ?_) AllReadyH.nil
  replace hK := Lib.hid hK
  go_simp
  have PP := shput_any we AY cY [Y] [oneE] _ _ OY.out.reads QY.out (by simp) w_sms (EO.out.chg CC.out) ⟨by simp [EvSm], by simp⟩
  rw [w_jo] at PP
  refine PP.mono ?_
  rintro r wf ⟨Ap, cp, zp, rfl, he, hc⟩
  have ZP : Hid (zp.length = 0) := Lib.hid (by have := he.all.ev.1; simpa using this)
  replace CC := Lib.hid (CC.out.trans hc)
  clear PP he hc
  refine hK.out _ _ CC.out (fun hHeld => ?_)
  clear hK K
  try simp only [Act.put, sA, s0, s1]
  refine sy 5 44 rfl rfl ?_ (hS := CC.out)
  try simp only [Act.put, sA, s0, s1]
  refine sy 6 50 rfl rfl ?_ (hS := CC.out)
  try simp only [Act.put, sA, s0, s1]
  refine sy 7 51 rfl rfl ?_ (hS := CC.out)
  try simp only [Act.put, sA, s0, s1]
  refine sy 8 7 rfl rfl ?_ (hS := CC.out)
  try simp only [Act.put, sA, s0, s1]
  refine sy 9 8 rfl rfl ?_ (hS := CC.out)
  try simp only [Act.put, sA, s0, s1]
  refine wpAnyH_done (by kernel_rfl) ?_ _
  clear hHeld
  clear HBO
  have DC := CC.out
  replace C := Lib.hid (C.out.trans DC)
  replace J7 := Lib.hid (And.intro (J7.out.1.chg DC (by simp)) (J7.out.2.chg DC))
  replace J15 := Lib.hid (And.intro (J15.out.1.chg DC (by simp)) (J15.out.2.chg DC))
  replace RE := Lib.hid (RE.out.chg DC (by simp))
  replace EO := Lib.hid (EO.out.chg DC)
  replace BO := Lib.hid (DC.at_ BO.out (by simp))
  clear DC CC OY QY
  clear BO EO
  go_wp2_with fail
  refine (l9two_any wf).mono ?_
  rintro r v23 ⟨X23, rfl, he, hz, hc⟩
  have EX23 := Lib.hid he
  have ZX23 := Lib.hid hz
  replace C := Lib.hid (C.out.trans hc)
  replace J7 := Lib.hid (And.intro (J7.out.1.chg hc (by simp)) (J7.out.2.chg hc))
  replace J15 := Lib.hid (And.intro (J15.out.1.chg hc (by simp)) (J15.out.2.chg hc))
  replace RE := Lib.hid (RE.out.chg hc (by simp))
  clear hc he hz
  obtain ⟨v24, hw, hc, hb⟩ := news1 v23 (.cells #[.int .i64 X23.n, .int .i64 X23.s, .string X23.p, .int .i64 X23.k, .int .i64 X23.m, .slice X23.A X23.l X23.c, .slice X23.B X23.bl X23.bc] 30)
  have Wv := Lib.hid hw
  have B24 := Lib.hid (rd_oneEc hb)
  have Q24 : Hid (EvsR v23 [X23] [twoE]) := Lib.hid (by simpa using (EvsR.nil v23).snoc EX23.out)
  replace C := Lib.hid (C.out.trans hc)
  replace J7 := Lib.hid (And.intro (J7.out.1.chg hc (by simp)) (J7.out.2.chg hc))
  replace J15 := Lib.hid (And.intro (J15.out.1.chg hc (by simp)) (J15.out.2.chg hc))
  replace RE := Lib.hid (RE.out.chg hc (by simp))
  replace EX23 := Lib.hid (EX23.out.chg hc)
  replace Q24 := Lib.hid (Q24.out.chg hc)
  clear hw hc hb
  obtain ⟨g24, hg⟩ : ∃ g, v23.heap.size = g := ⟨_, rfl⟩
  go_wp2_with fail
  rw [← Wv.out]
  try rw [hg]
  rw [hg] at B24
  clear Wv hg
  refine (l9of_any v24 _ 1 1 [X23] B24.out (by omega)).mono ?_
  rintro r v25 ⟨A25, c25, rfl, ho, hc⟩
  have O25 := Lib.hid ho
  clear B24
  replace C := Lib.hid (C.out.trans hc)
  replace J7 := Lib.hid (And.intro (J7.out.1.chg hc (by simp)) (J7.out.2.chg hc))
  replace J15 := Lib.hid (And.intro (J15.out.1.chg hc (by simp)) (J15.out.2.chg hc))
  replace RE := Lib.hid (RE.out.chg hc (by simp))
  replace EX23 := Lib.hid (EX23.out.chg hc)
  replace Q24 := Lib.hid (Q24.out.chg hc)
  clear hc ho
  go_wp2_with fail
  refine (shpast_two v25 A25 c25 [X23] O25.out.reads Q24.out).mono ?_
  rintro r v26 ⟨AP, cP, rfl, ho, hc⟩
  have PP : Hid (RdK spanTy v26 AP 2 [(1, 1, 1), (2, 1, 1)]) := Lib.hid ho.reads
  clear O25 Q24
  clear EX23 ZX23
  replace C := Lib.hid (C.out.trans hc)
  replace J7 := Lib.hid (And.intro (J7.out.1.chg hc (by simp)) (J7.out.2.chg hc))
  replace J15 := Lib.hid (And.intro (J15.out.1.chg hc (by simp)) (J15.out.2.chg hc))
  replace RE := Lib.hid (RE.out.chg hc (by simp))
  clear hc ho
  go_wp2_with fail
  refine (l9two_any v26).mono ?_
  rintro r v27 ⟨X27, rfl, he, hz, hc⟩
  have EX27 := Lib.hid he
  have ZX27 := Lib.hid hz
  replace C := Lib.hid (C.out.trans hc)
  replace J7 := Lib.hid (And.intro (J7.out.1.chg hc (by simp)) (J7.out.2.chg hc))
  replace J15 := Lib.hid (And.intro (J15.out.1.chg hc (by simp)) (J15.out.2.chg hc))
  replace RE := Lib.hid (RE.out.chg hc (by simp))
  replace PP := Lib.hid (PP.out.chg hc (by simp))
  clear hc he hz
  obtain ⟨v28, hw, hc, hb⟩ := news1 v27 (.cells #[.int .i64 X27.n, .int .i64 X27.s, .string X27.p, .int .i64 X27.k, .int .i64 X27.m, .slice X27.A X27.l X27.c, .slice X27.B X27.bl X27.bc] 30)
  have Wv := Lib.hid hw
  have B28 := Lib.hid (rd_oneEc hb)
  have Q28 : Hid (EvsR v27 [X27] [twoE]) := Lib.hid (by simpa using (EvsR.nil v27).snoc EX27.out)
  replace C := Lib.hid (C.out.trans hc)
  replace J7 := Lib.hid (And.intro (J7.out.1.chg hc (by simp)) (J7.out.2.chg hc))
  replace J15 := Lib.hid (And.intro (J15.out.1.chg hc (by simp)) (J15.out.2.chg hc))
  replace RE := Lib.hid (RE.out.chg hc (by simp))
  replace PP := Lib.hid (PP.out.chg hc (by simp))
  replace EX27 := Lib.hid (EX27.out.chg hc)
  replace Q28 := Lib.hid (Q28.out.chg hc)
  clear hw hc hb
  obtain ⟨g28, hg⟩ : ∃ g, v27.heap.size = g := ⟨_, rfl⟩
  go_wp2_with fail
  rw [← Wv.out]
  try rw [hg]
  rw [hg] at B28
  clear Wv hg
  refine (l9of_any v28 _ 1 1 [X27] B28.out (by omega)).mono ?_
  rintro r v29 ⟨A29, c29, rfl, ho, hc⟩
  have O29 := Lib.hid ho
  clear B28
  replace C := Lib.hid (C.out.trans hc)
  replace J7 := Lib.hid (And.intro (J7.out.1.chg hc (by simp)) (J7.out.2.chg hc))
  replace J15 := Lib.hid (And.intro (J15.out.1.chg hc (by simp)) (J15.out.2.chg hc))
  replace RE := Lib.hid (RE.out.chg hc (by simp))
  replace PP := Lib.hid (PP.out.chg hc (by simp))
  replace EX27 := Lib.hid (EX27.out.chg hc)
  replace Q28 := Lib.hid (Q28.out.chg hc)
  clear hc ho
  go_wp2_with fail
  refine (sameevs_any v29 AJ7 A29 cJ7 c29 zJ7 [X27] [twoE] [twoE] J7.out.1 O29.out.reads J7.out.2 Q28.out ⟨by have := J7.out.2.1; simp at this; omega, by simp⟩ ⟨w_smq, w_smq⟩).mono ?_
  rintro r v30 ⟨rfl, hc⟩
  rw [sameL_refl]
  clear O29 Q28
  clear EX27 ZX27
  clear J7
  replace C := Lib.hid (C.out.trans hc)
  replace J15 := Lib.hid (And.intro (J15.out.1.chg hc (by simp)) (J15.out.2.chg hc))
  replace RE := Lib.hid (RE.out.chg hc (by simp))
  replace PP := Lib.hid (PP.out.chg hc (by simp))
  clear hc
  go_wp2_with fail
  refine (l9two_any v30).mono ?_
  rintro r v31 ⟨X31, rfl, he, hz, hc⟩
  have EX31 := Lib.hid he
  have ZX31 := Lib.hid hz
  replace C := Lib.hid (C.out.trans hc)
  replace J15 := Lib.hid (And.intro (J15.out.1.chg hc (by simp)) (J15.out.2.chg hc))
  replace RE := Lib.hid (RE.out.chg hc (by simp))
  replace PP := Lib.hid (PP.out.chg hc (by simp))
  clear hc he hz
  go_wp2_with fail
  refine (l9three_any v31).mono ?_
  rintro r v32 ⟨X32, rfl, he, hz, hc⟩
  have EX32 := Lib.hid he
  have ZX32 := Lib.hid hz
  replace C := Lib.hid (C.out.trans hc)
  replace J15 := Lib.hid (And.intro (J15.out.1.chg hc (by simp)) (J15.out.2.chg hc))
  replace RE := Lib.hid (RE.out.chg hc (by simp))
  replace PP := Lib.hid (PP.out.chg hc (by simp))
  replace EX31 := Lib.hid (EX31.out.chg hc)
  clear hc he hz
  obtain ⟨v33, hw, hc, hb⟩ := news1 v32 (.cells #[.int .i64 X31.n, .int .i64 X31.s, .string X31.p, .int .i64 X31.k, .int .i64 X31.m, .slice X31.A X31.l X31.c, .slice X31.B X31.bl X31.bc, .int .i64 X32.n, .int .i64 X32.s, .string X32.p, .int .i64 X32.k, .int .i64 X32.m, .slice X32.A X32.l X32.c, .slice X32.B X32.bl X32.bc] 30)
  have Wv := Lib.hid hw
  have B33 := Lib.hid (rd_twoE hb)
  have Q33 : Hid (EvsR v32 [X31, X32] [twoE, threeE]) := Lib.hid (by simpa using ((EvsR.nil v32).snoc EX31.out).snoc EX32.out)
  replace C := Lib.hid (C.out.trans hc)
  replace J15 := Lib.hid (And.intro (J15.out.1.chg hc (by simp)) (J15.out.2.chg hc))
  replace RE := Lib.hid (RE.out.chg hc (by simp))
  replace PP := Lib.hid (PP.out.chg hc (by simp))
  replace EX31 := Lib.hid (EX31.out.chg hc)
  replace EX32 := Lib.hid (EX32.out.chg hc)
  replace Q33 := Lib.hid (Q33.out.chg hc)
  clear hw hc hb
  obtain ⟨g33, hg⟩ : ∃ g, v32.heap.size = g := ⟨_, rfl⟩
  go_wp2_with fail
  rw [← Wv.out]
  try rw [hg]
  rw [hg] at B33
  clear Wv hg
  refine (l9of_any v33 _ 2 2 [X31, X32] B33.out (by omega)).mono ?_
  rintro r v34 ⟨A34, c34, rfl, ho, hc⟩
  have O34 := Lib.hid ho
  clear B33
  replace C := Lib.hid (C.out.trans hc)
  replace J15 := Lib.hid (And.intro (J15.out.1.chg hc (by simp)) (J15.out.2.chg hc))
  replace RE := Lib.hid (RE.out.chg hc (by simp))
  replace PP := Lib.hid (PP.out.chg hc (by simp))
  replace EX31 := Lib.hid (EX31.out.chg hc)
  replace EX32 := Lib.hid (EX32.out.chg hc)
  replace Q33 := Lib.hid (Q33.out.chg hc)
  clear hc ho
  go_wp2_with fail
  refine (sameevs_any v34 AJ15 A34 cJ15 c34 zJ15 [X31, X32] [twoE, threeE] [twoE, threeE] J15.out.1 O34.out.reads J15.out.2 Q33.out ⟨by have := J15.out.2.1; simp at this; omega, by simp⟩ ⟨w_smq, w_smq⟩).mono ?_
  rintro r v35 ⟨rfl, hc⟩
  rw [sameL_refl]
  clear O34 Q33
  clear EX31 ZX31
  clear EX32 ZX32
  clear J15
  replace C := Lib.hid (C.out.trans hc)
  replace RE := Lib.hid (RE.out.chg hc (by simp))
  replace PP := Lib.hid (PP.out.chg hc (by simp))
  clear hc
  obtain ⟨gE, oE, eE, _⟩ := RE.out.line (by omega)
  subst eE
  have k0 := RE.out.at_ 0 0 (1, 0) _ rfl rfl
  have k1 := RE.out.at_ 1 0 (2, 0) _ rfl rfl
  simp only [show effZ.k = 3 from rfl, Nat.zero_mul, Nat.one_mul, Nat.add_zero, Nat.zero_add] at k0 k1
  go_wp2_with fail
  refine (l9one_any v35).mono ?_
  rintro r v36 ⟨X36, rfl, he, hz, hc⟩
  have EX36 := Lib.hid he
  have ZX36 := Lib.hid hz
  replace C := Lib.hid (C.out.trans hc)
  replace RE := Lib.hid (RE.out.chg hc (by simp))
  replace PP := Lib.hid (PP.out.chg hc (by simp))
  clear hc he hz
  clear k0 k1
  clear RE
  go_wp2_with fail
  refine (l9three_any v36).mono ?_
  rintro r v37 ⟨X37, rfl, he, hz, hc⟩
  have EX37 := Lib.hid he
  have ZX37 := Lib.hid hz
  replace C := Lib.hid (C.out.trans hc)
  replace PP := Lib.hid (PP.out.chg hc (by simp))
  replace EX36 := Lib.hid (EX36.out.chg hc)
  clear hc he hz
  obtain ⟨v38, hw, hc, hb⟩ := news1 v37 (.cells #[.int .i64 X36.n, .int .i64 X36.s, .string X36.p, .int .i64 X36.k, .int .i64 X36.m, .slice X36.A X36.l X36.c, .slice X36.B X36.bl X36.bc, .int .i64 X37.n, .int .i64 X37.s, .string X37.p, .int .i64 X37.k, .int .i64 X37.m, .slice X37.A X37.l X37.c, .slice X37.B X37.bl X37.bc] 30)
  have Wv := Lib.hid hw
  have B38 := Lib.hid (rd_twoE hb)
  have Q38 : Hid (EvsR v37 [X36, X37] [oneE, threeE]) := Lib.hid (by simpa using ((EvsR.nil v37).snoc EX36.out).snoc EX37.out)
  replace C := Lib.hid (C.out.trans hc)
  replace PP := Lib.hid (PP.out.chg hc (by simp))
  replace EX36 := Lib.hid (EX36.out.chg hc)
  replace EX37 := Lib.hid (EX37.out.chg hc)
  replace Q38 := Lib.hid (Q38.out.chg hc)
  clear hw hc hb
  obtain ⟨g38, hg⟩ : ∃ g, v37.heap.size = g := ⟨_, rfl⟩
  go_wp2_with fail
  rw [← Wv.out]
  try rw [hg]
  rw [hg] at B38
  clear Wv hg
  refine (l9of_any v38 _ 2 2 [X36, X37] B38.out (by omega)).mono ?_
  rintro r v39 ⟨A39, c39, rfl, ho, hc⟩
  have O39 := Lib.hid ho
  clear B38
  replace C := Lib.hid (C.out.trans hc)
  replace PP := Lib.hid (PP.out.chg hc (by simp))
  replace EX36 := Lib.hid (EX36.out.chg hc)
  replace EX37 := Lib.hid (EX37.out.chg hc)
  replace Q38 := Lib.hid (Q38.out.chg hc)
  clear hc ho
  have ZK : Hid (X36.k = 1 ∧ X36.m = 0 ∧ X37.k = 2 ∧ X37.m = 0) := Lib.hid ⟨EX36.out.k, EX36.out.m, EX37.out.k, EX37.out.m⟩
  go_wp2_with fail
  refine (shalike_two v39 A39 c39 [X36, X37] [oneE, threeE] O39.out.reads Q38.out (fun x hx => by rcases List.mem_cons.1 hx with q | q; exact (by rw [q]; exact ZX36.out); exact (by rw [List.mem_singleton.1 q]; exact ZX37.out)) (by simp) (fun e he => (w_sms (by simp) e he).1) (shE_zero.2 w_ok.2.2.2) (fun a b h => by simp at h; rw [← h.1, ← h.2]; exact (by rw [ZK.out.1, ZK.out.2.1, ZK.out.2.2.1, ZK.out.2.2.2]; unfold LtD; omega))).mono ?_
  rintro r v40 ⟨rfl, hc⟩
  clear O39 Q38
  clear EX36 ZX36
  clear EX37 ZX37
  replace C := Lib.hid (C.out.trans hc)
  replace PP := Lib.hid (PP.out.chg hc (by simp))
  clear hc ZK
  go_wp2_with fail
  refine (l9one_any v40).mono ?_
  rintro r v41 ⟨X41, rfl, he, hz, hc⟩
  have EX41 := Lib.hid he
  have ZX41 := Lib.hid hz
  replace C := Lib.hid (C.out.trans hc)
  replace PP := Lib.hid (PP.out.chg hc (by simp))
  clear hc he hz
  go_wp2_with fail
  refine (l9two_any v41).mono ?_
  rintro r v42 ⟨X42, rfl, he, hz, hc⟩
  have EX42 := Lib.hid he
  have ZX42 := Lib.hid hz
  replace C := Lib.hid (C.out.trans hc)
  replace PP := Lib.hid (PP.out.chg hc (by simp))
  replace EX41 := Lib.hid (EX41.out.chg hc)
  clear hc he hz
  obtain ⟨v43, hw, hc, hb⟩ := news1 v42 (.cells #[.int .i64 X41.n, .int .i64 X41.s, .string X41.p, .int .i64 X41.k, .int .i64 X41.m, .slice X41.A X41.l X41.c, .slice X41.B X41.bl X41.bc, .int .i64 X42.n, .int .i64 X42.s, .string X42.p, .int .i64 X42.k, .int .i64 X42.m, .slice X42.A X42.l X42.c, .slice X42.B X42.bl X42.bc] 30)
  have Wv := Lib.hid hw
  have B43 := Lib.hid (rd_twoE hb)
  have Q43 : Hid (EvsR v42 [X41, X42] [oneE, twoE]) := Lib.hid (by simpa using ((EvsR.nil v42).snoc EX41.out).snoc EX42.out)
  replace C := Lib.hid (C.out.trans hc)
  replace PP := Lib.hid (PP.out.chg hc (by simp))
  replace EX41 := Lib.hid (EX41.out.chg hc)
  replace EX42 := Lib.hid (EX42.out.chg hc)
  replace Q43 := Lib.hid (Q43.out.chg hc)
  clear hw hc hb
  obtain ⟨g43, hg⟩ : ∃ g, v42.heap.size = g := ⟨_, rfl⟩
  go_wp2_with fail
  rw [← Wv.out]
  try rw [hg]
  rw [hg] at B43
  clear Wv hg
  refine (l9of_any v43 _ 2 2 [X41, X42] B43.out (by omega)).mono ?_
  rintro r v44 ⟨A44, c44, rfl, ho, hc⟩
  have O44 := Lib.hid ho
  clear B43
  replace C := Lib.hid (C.out.trans hc)
  replace PP := Lib.hid (PP.out.chg hc (by simp))
  replace EX41 := Lib.hid (EX41.out.chg hc)
  replace EX42 := Lib.hid (EX42.out.chg hc)
  replace Q43 := Lib.hid (Q43.out.chg hc)
  clear hc ho
  go_wp2_with fail
  refine (shcheck_any v44 A44 c44 [X41, X42] [oneE, twoE] O44.out.reads Q43.out (by simp) (fun e he => (w_sms (by simp) e he).1)).mono ?_
  rintro r v45 ⟨rfl, hc⟩
  rw [w_no.1]
  clear O44 Q43
  clear EX41 ZX41
  clear EX42 ZX42
  replace C := Lib.hid (C.out.trans hc)
  replace PP := Lib.hid (PP.out.chg hc (by simp))
  clear hc
  go_wp2_with fail
  refine (l9three_any v45).mono ?_
  rintro r v46 ⟨X46, rfl, he, hz, hc⟩
  have EX46 := Lib.hid he
  have ZX46 := Lib.hid hz
  replace C := Lib.hid (C.out.trans hc)
  replace PP := Lib.hid (PP.out.chg hc (by simp))
  clear hc he hz
  go_wp2_with fail
  refine (l9one_any v46).mono ?_
  rintro r v47 ⟨X47, rfl, he, hz, hc⟩
  have EX47 := Lib.hid he
  have ZX47 := Lib.hid hz
  replace C := Lib.hid (C.out.trans hc)
  replace PP := Lib.hid (PP.out.chg hc (by simp))
  replace EX46 := Lib.hid (EX46.out.chg hc)
  clear hc he hz
  obtain ⟨v48, hw, hc, hb⟩ := news1 v47 (.cells #[.int .i64 X46.n, .int .i64 X46.s, .string X46.p, .int .i64 X46.k, .int .i64 X46.m, .slice X46.A X46.l X46.c, .slice X46.B X46.bl X46.bc, .int .i64 X47.n, .int .i64 X47.s, .string X47.p, .int .i64 X47.k, .int .i64 X47.m, .slice X47.A X47.l X47.c, .slice X47.B X47.bl X47.bc] 30)
  have Wv := Lib.hid hw
  have B48 := Lib.hid (rd_twoE hb)
  have Q48 : Hid (EvsR v47 [X46, X47] [threeE, oneE]) := Lib.hid (by simpa using ((EvsR.nil v47).snoc EX46.out).snoc EX47.out)
  replace C := Lib.hid (C.out.trans hc)
  replace PP := Lib.hid (PP.out.chg hc (by simp))
  replace EX46 := Lib.hid (EX46.out.chg hc)
  replace EX47 := Lib.hid (EX47.out.chg hc)
  replace Q48 := Lib.hid (Q48.out.chg hc)
  clear hw hc hb
  obtain ⟨g48, hg⟩ : ∃ g, v47.heap.size = g := ⟨_, rfl⟩
  go_wp2_with fail
  rw [← Wv.out]
  try rw [hg]
  rw [hg] at B48
  clear Wv hg
  refine (l9of_any v48 _ 2 2 [X46, X47] B48.out (by omega)).mono ?_
  rintro r v49 ⟨A49, c49, rfl, ho, hc⟩
  have O49 := Lib.hid ho
  clear B48
  replace C := Lib.hid (C.out.trans hc)
  replace PP := Lib.hid (PP.out.chg hc (by simp))
  replace EX46 := Lib.hid (EX46.out.chg hc)
  replace EX47 := Lib.hid (EX47.out.chg hc)
  replace Q48 := Lib.hid (Q48.out.chg hc)
  clear hc ho
  go_wp2_with fail
  refine (shcheck_any v49 A49 c49 [X46, X47] [threeE, oneE] O49.out.reads Q48.out (by simp) (fun e he => (w_sms (by simp) e he).1)).mono ?_
  rintro r v50 ⟨rfl, hc⟩
  rw [w_no.2]
  clear O49 Q48
  clear EX46 ZX46
  clear EX47 ZX47
  replace C := Lib.hid (C.out.trans hc)
  replace PP := Lib.hid (PP.out.chg hc (by simp))
  clear hc
  go_wp2_with fail
  refine (l9awake_run v50).mono ?_
  rintro r v51 ⟨rfl, hc⟩
  replace C := Lib.hid (C.out.trans hc)
  replace PP := Lib.hid (PP.out.chg hc (by simp))
  clear hc
  obtain ⟨v52, hw, hc, hb⟩ := news1 v51 (.cells #[.int .i64 1, .int .i64 1, .int .i64 1, .int .i64 2, .int .i64 1, .int .i64 1] 77)
  have Wv := Lib.hid hw
  have BS : Hid (RdK spanTy v52 (some ⟨v51.heap.size, 0, none⟩) 2 [(1, 1, 1), (2, 1, 1)]) := Lib.hid ⟨rfl, fun j v hj => ⟨_, rfl, by rw [add_zero_lit, cell_of hb j]; simpa [RowTy.flat, spanTy] using hj⟩⟩
  replace C := Lib.hid (C.out.trans hc)
  replace PP := Lib.hid (PP.out.chg hc (by simp))
  clear hw hc hb
  go_wp2_with fail
  rw [← Wv.out]
  refine (samespan_any v52 AP _ 2 2 cP 2 _ _ PP.out BS.out (by omega) (by omega)).mono ?_
  rintro r v53 ⟨rfl, hc⟩
  rw [beq_self_eq_true]
  clear PP
  replace C := Lib.hid (C.out.trans hc)
  clear hc
  go_wp2
  go_ret
  first | exact ⟨rfl, C.out⟩ | exact ⟨by simp, C.out⟩
end
section
open Go.RowKit Go.Lib
set_option linter.unusedSimpArgs false
set_option linter.unusedVariables false


set_option maxHeartbeats 1000000 in
theorem equalspan_any (w : World) (A B : Option Addr) (n m c d : Nat) (xs ys : List (Int × Int × Int)) (h : RdK spanTy w A n xs) (h' : RdK spanTy w B m ys) (hn : n ≤ 140737488351232) (hm : m ≤ 140737488351232) :
    Calls Tryz.prog 134 #[.slice A n c, .slice B m d] w fun e w' => e = .returned (.bool (xs == ys)) ∧ Chg [] w w' := by
  have hl := h.len
  have hl2 := h'.len
  subst hl hl2
  by_cases hne : xs.length = ys.length
  · have hb : ((xs.length : Int) == (ys.length : Int)) = true := by simp; omega
    have HN := Lib.hid hne
    have HA := Lib.hid h
    have HB := Lib.hid h'
    clear hne h h'
    go_enter Tryz.func134, Tryz.ntmps134
    go_wp2
    go_loopw [5, 13] (fun _ i wr => ∃ k : Nat, k ≤ xs.length ∧ i = .int .i64 k ∧ Hid (xs.take k = ys.take k ∧ Chg [] w wr)) (fun _ i _ => xs.length - (RowKit.intOf i).toNat)
    case atStart => exact ⟨0, Nat.zero_le _, rfl, rfl, Chg.refl _ _⟩
    case round =>
      obtain ⟨k, hk, rfl, HI⟩ := hrel
      by_cases hlt : k < xs.length
      · have hlt2 : k < ys.length := by have := HN.out; omega
        obtain ⟨g, o, eA, _⟩ := HA.out.line (by omega)
        obtain ⟨g2, o2, eB, _⟩ := HB.out.line (by omega)
        subst eA eB
        have ex := List.getElem?_eq_getElem hlt
        have ey := List.getElem?_eq_getElem hlt2
        obtain ⟨p0, p1, p2⟩ := spanCells (HA.out.chg HI.out.2 (by simp)) ex
        obtain ⟨q0, q1, q2⟩ := spanCells (HB.out.chg HI.out.2 (by simp)) ey
        generalize hx : xs[k] = x at *
        generalize hy : ys[k] = y at *
        have i0 : (0 : Int) ≤ (k : Int) := by omega
        have i1 : (k : Int) < (xs.length : Int) := by omega
        have i2 : (k : Int) < (ys.length : Int) := by omega
        have HX := Lib.hid (And.intro ex ey)
        clear ex ey hx hy
        refine (Decidable.em (x = y)).elim (fun hxy => ?EQ) (fun hxy => ?NE)
        case EQ =>
          subst hxy
          go_wp2
          go_quiet (fail)
          go_wp2
          refine ⟨⟨k + 1, by omega, by simp, ?_, HI.out.2.drewN _⟩, by simp [RowKit.intOf]; omega⟩
          rw [List.take_add_one, List.take_add_one, HI.out.1, HX.out.1, HX.out.2]
        case NE =>
          have hf : (xs == ys) = false := by
            rw [beq_eq_false_iff_ne]
            intro e
            apply hxy
            have h1 := HX.out.1
            rw [e, HX.out.2] at h1
            exact (Option.some.inj h1).symm
          have HF := Lib.hid hf
          clear hf
          by_cases h0 : x.1 = y.1
          · skip
            by_cases h1 : x.2.1 = y.2.1
            · skip
              have h2 : ¬ x.2.2 = y.2.2 := fun h => hxy (by exact Prod.ext h0 (Prod.ext h1 h))
              clear hxy
              go_wp2
              go_quiet (fail)
              go_wp2
              go_ret
              exact ⟨by rw [HF.out]; rfl, HI.out.2.drewN _⟩
            · clear hxy
              go_wp2
              go_quiet (fail)
              go_wp2
              go_ret
              exact ⟨by rw [HF.out]; rfl, HI.out.2.drewN _⟩
          · clear hxy
            go_wp2
            go_quiet (fail)
            go_wp2
            go_ret
            exact ⟨by rw [HF.out]; rfl, HI.out.2.drewN _⟩
      · obtain rfl : k = xs.length := by omega
        have ht : (xs == ys) = true := by
          have := HI.out.1
          rw [List.take_of_length_le (Nat.le_refl _), List.take_of_length_le (by have := HN.out; omega)] at this
          simpa using this
        have HF := Lib.hid ht
        clear ht
        go_wp2
        go_ret
        exact ⟨by rw [HF.out]; rfl, HI.out.2⟩
  · have hb : ((xs.length : Int) == (ys.length : Int)) = false := by simp; omega
    have hf : (xs == ys) = false := by
      rw [beq_eq_false_iff_ne]
      intro e
      exact hne (by rw [e])
    rw [hf]
    clear hne h h' hf
    go_enter Tryz.func134, Tryz.ntmps134
    go_wp2
    go_ret
    exact ⟨rfl, Chg.refl _ _⟩

theorem cmpE_same (k m : Int) (xs : List UInt8) (k' m' : Int) (ys : List UInt8) : (cmpE k m xs k' m' ys == 0) = sameX k m xs k' m' ys := by
  rw [Bool.eq_iff_iff, beq_iff_eq, cmpE_zero]
  unfold sameX
  simp [and_assoc]
theorem esamex_any (w : World) (k m k' m' : Int) (A B : Option Addr) (n c n' d : Nat) (xs ys : List UInt8) (h : Bs w A n xs) (h' : Bs w B n' ys) :
    Calls Tryz.prog 93 #[.agg #[.int .i64 k, .int .i64 m, .slice A n c], .agg #[.int .i64 k', .int .i64 m', .slice B n' d]] w fun e w' => e = .returned (.bool (sameX k m xs k' m' ys)) ∧ Chg [] w w' := by
  rw [← cmpE_same]
  exact esame_any w k m k' m' A B n c n' d xs ys h h'
set_option maxRecDepth 100000 in
set_option maxHeartbeats 8000000 in
theorem evalike_0 (w : World) (un us : Int) (up : List UInt8) (uk um : Int) (uA : Option Addr) (ul uc : Nat) (uB : Option Addr) (ubl ubc : Nat) (ub : List UInt8) (uq : List (Int × Int × Int)) (vn vs : Int) (vp : List UInt8) (vk vm : Int) (vA : Option Addr) (vl vc : Nat) (vB : Option Addr) (vbl vbc : Nat) (vb : List UInt8) (vq : List (Int × Int × Int)) (ha : Bs w uA ul ub) (hq : RdK spanTy w uB ubl uq) (hb : Bs w vA vl vb) (hr : RdK spanTy w vB vbl vq) (hn : ubl ≤ 140737488351232 ∧ vbl ≤ 140737488351232) (hne : un ≠ vn) :
    Calls Tryz.prog 103 #[.agg #[.int .i64 un, .int .i64 us, .string (strOf up), .int .i64 uk, .int .i64 um, .slice uA ul uc, .slice uB ubl ubc], .agg #[.int .i64 vn, .int .i64 vs, .string (strOf vp), .int .i64 vk, .int .i64 vm, .slice vA vl vc, .slice vB vbl vbc]] w fun r w' => r = .returned (.bool false) ∧ Chg [] w w' := by
  obtain ⟨w2, hw, hc, b0, b1⟩ := news2 w (.cells #[.int .i64 un, .int .i64 us, .string (strOf up), .int .i64 uk, .int .i64 um, .slice uA ul uc, .slice uB ubl ubc] 30) (.cells #[.int .i64 vn, .int .i64 vs, .string (strOf vp), .int .i64 vk, .int .i64 vm, .slice vA vl vc, .slice vB vbl vbc] 30)
  have W2 := Lib.hid hw
  have C := Lib.hid hc
  have HA := Lib.hid (ha.chg hc (by simp))
  have HB := Lib.hid (hb.chg hc (by simp))
  have HQ := Lib.hid (hq.chg hc (by simp))
  have HR := Lib.hid (hr.chg hc (by simp))
  have HN := Lib.hid hn
  have e0 : (un == vn) = false := beq_eq_false_iff_ne.2 hne
  have hN := Lib.hid hne
  clear hne
  clear hw hc ha hq hb hr hn
  go_enter Tryz.func103, Tryz.ntmps103
  go_upto_region 1 with fail
  rw [← W2.out]
  generalize w.heap.size + 1 = g1 at *
  generalize w.heap.size = g0 at *
  have z0 := cell_of b0 0
  have z1 := cell_of b0 1
  have z2 := cell_of b0 2
  have z3 := cell_of b0 3
  have z4 := cell_of b0 4
  have z5 := cell_of b0 5
  have z6 := cell_of b0 6
  have y0 := cell_of b1 0
  have y1 := cell_of b1 1
  have y2 := cell_of b1 2
  have y3 := cell_of b1 3
  have y4 := cell_of b1 4
  have y5 := cell_of b1 5
  have y6 := cell_of b1 6
  simp only [List.getElem?_toArray, List.getElem?_cons_succ, List.getElem?_cons_zero] at z0 z1 z2 z3 z4 z5 z6 y0 y1 y2 y3 y4 y5 y6
  clear b0 b1
  go_wp2
  go_ret
  exact ⟨rfl, C.out⟩
set_option maxRecDepth 100000 in
set_option maxHeartbeats 8000000 in
theorem evalike_1 (w : World) (un us : Int) (up : List UInt8) (uk um : Int) (uA : Option Addr) (ul uc : Nat) (uB : Option Addr) (ubl ubc : Nat) (ub : List UInt8) (uq : List (Int × Int × Int)) (vs : Int) (vp : List UInt8) (vk vm : Int) (vA : Option Addr) (vl vc : Nat) (vB : Option Addr) (vbl vbc : Nat) (vb : List UInt8) (vq : List (Int × Int × Int)) (ha : Bs w uA ul ub) (hq : RdK spanTy w uB ubl uq) (hb : Bs w vA vl vb) (hr : RdK spanTy w vB vbl vq) (hn : ubl ≤ 140737488351232 ∧ vbl ≤ 140737488351232) (hne : us ≠ vs) :
    Calls Tryz.prog 103 #[.agg #[.int .i64 un, .int .i64 us, .string (strOf up), .int .i64 uk, .int .i64 um, .slice uA ul uc, .slice uB ubl ubc], .agg #[.int .i64 un, .int .i64 vs, .string (strOf vp), .int .i64 vk, .int .i64 vm, .slice vA vl vc, .slice vB vbl vbc]] w fun r w' => r = .returned (.bool false) ∧ Chg [] w w' := by
  obtain ⟨w2, hw, hc, b0, b1⟩ := news2 w (.cells #[.int .i64 un, .int .i64 us, .string (strOf up), .int .i64 uk, .int .i64 um, .slice uA ul uc, .slice uB ubl ubc] 30) (.cells #[.int .i64 un, .int .i64 vs, .string (strOf vp), .int .i64 vk, .int .i64 vm, .slice vA vl vc, .slice vB vbl vbc] 30)
  have W2 := Lib.hid hw
  have C := Lib.hid hc
  have HA := Lib.hid (ha.chg hc (by simp))
  have HB := Lib.hid (hb.chg hc (by simp))
  have HQ := Lib.hid (hq.chg hc (by simp))
  have HR := Lib.hid (hr.chg hc (by simp))
  have HN := Lib.hid hn
  have e0 : (us == vs) = false := beq_eq_false_iff_ne.2 hne
  have hN := Lib.hid hne
  clear hne
  clear hw hc ha hq hb hr hn
  go_enter Tryz.func103, Tryz.ntmps103
  go_upto_region 1 with fail
  rw [← W2.out]
  generalize w.heap.size + 1 = g1 at *
  generalize w.heap.size = g0 at *
  have z0 := cell_of b0 0
  have z1 := cell_of b0 1
  have z2 := cell_of b0 2
  have z3 := cell_of b0 3
  have z4 := cell_of b0 4
  have z5 := cell_of b0 5
  have z6 := cell_of b0 6
  have y0 := cell_of b1 0
  have y1 := cell_of b1 1
  have y2 := cell_of b1 2
  have y3 := cell_of b1 3
  have y4 := cell_of b1 4
  have y5 := cell_of b1 5
  have y6 := cell_of b1 6
  simp only [List.getElem?_toArray, List.getElem?_cons_succ, List.getElem?_cons_zero] at z0 z1 z2 z3 z4 z5 z6 y0 y1 y2 y3 y4 y5 y6
  clear b0 b1
  go_wp2
  go_ret
  exact ⟨rfl, C.out⟩
set_option maxRecDepth 100000 in
set_option maxHeartbeats 8000000 in
theorem evalike_2 (w : World) (un us : Int) (up : List UInt8) (uk um : Int) (uA : Option Addr) (ul uc : Nat) (uB : Option Addr) (ubl ubc : Nat) (ub : List UInt8) (uq : List (Int × Int × Int)) (vp : List UInt8) (vk vm : Int) (vA : Option Addr) (vl vc : Nat) (vB : Option Addr) (vbl vbc : Nat) (vb : List UInt8) (vq : List (Int × Int × Int)) (ha : Bs w uA ul ub) (hq : RdK spanTy w uB ubl uq) (hb : Bs w vA vl vb) (hr : RdK spanTy w vB vbl vq) (hn : ubl ≤ 140737488351232 ∧ vbl ≤ 140737488351232) (hne : up ≠ vp) :
    Calls Tryz.prog 103 #[.agg #[.int .i64 un, .int .i64 us, .string (strOf up), .int .i64 uk, .int .i64 um, .slice uA ul uc, .slice uB ubl ubc], .agg #[.int .i64 un, .int .i64 us, .string (strOf vp), .int .i64 vk, .int .i64 vm, .slice vA vl vc, .slice vB vbl vbc]] w fun r w' => r = .returned (.bool false) ∧ Chg [] w w' := by
  obtain ⟨w2, hw, hc, b0, b1⟩ := news2 w (.cells #[.int .i64 un, .int .i64 us, .string (strOf up), .int .i64 uk, .int .i64 um, .slice uA ul uc, .slice uB ubl ubc] 30) (.cells #[.int .i64 un, .int .i64 us, .string (strOf vp), .int .i64 vk, .int .i64 vm, .slice vA vl vc, .slice vB vbl vbc] 30)
  have W2 := Lib.hid hw
  have C := Lib.hid hc
  have HA := Lib.hid (ha.chg hc (by simp))
  have HB := Lib.hid (hb.chg hc (by simp))
  have HQ := Lib.hid (hq.chg hc (by simp))
  have HR := Lib.hid (hr.chg hc (by simp))
  have HN := Lib.hid hn
  have e0 := strOf_ne hne
  have e1 := strOf_ne2 hne
  have e2 : (up == vp) = false := beq_eq_false_iff_ne.2 hne
  clear hw hc ha hq hb hr hn
  go_enter Tryz.func103, Tryz.ntmps103
  go_upto_region 1 with fail
  rw [← W2.out]
  generalize w.heap.size + 1 = g1 at *
  generalize w.heap.size = g0 at *
  have z0 := cell_of b0 0
  have z1 := cell_of b0 1
  have z2 := cell_of b0 2
  have z3 := cell_of b0 3
  have z4 := cell_of b0 4
  have z5 := cell_of b0 5
  have z6 := cell_of b0 6
  have y0 := cell_of b1 0
  have y1 := cell_of b1 1
  have y2 := cell_of b1 2
  have y3 := cell_of b1 3
  have y4 := cell_of b1 4
  have y5 := cell_of b1 5
  have y6 := cell_of b1 6
  simp only [List.getElem?_toArray, List.getElem?_cons_succ, List.getElem?_cons_zero] at z0 z1 z2 z3 z4 z5 z6 y0 y1 y2 y3 y4 y5 y6
  clear b0 b1
  go_wp2
  go_ret
  exact ⟨rfl, C.out⟩
set_option maxRecDepth 100000 in
set_option maxHeartbeats 8000000 in
theorem evalike_3 (w : World) (un us : Int) (up : List UInt8) (uk um : Int) (uA : Option Addr) (ul uc : Nat) (uB : Option Addr) (ubl ubc : Nat) (ub : List UInt8) (uq : List (Int × Int × Int)) (vk vm : Int) (vA : Option Addr) (vl vc : Nat) (vB : Option Addr) (vbl vbc : Nat) (vb : List UInt8) (vq : List (Int × Int × Int)) (ha : Bs w uA ul ub) (hq : RdK spanTy w uB ubl uq) (hb : Bs w vA vl vb) (hr : RdK spanTy w vB vbl vq) (hn : ubl ≤ 140737488351232 ∧ vbl ≤ 140737488351232) :
    Calls Tryz.prog 103 #[.agg #[.int .i64 un, .int .i64 us, .string (strOf up), .int .i64 uk, .int .i64 um, .slice uA ul uc, .slice uB ubl ubc], .agg #[.int .i64 un, .int .i64 us, .string (strOf up), .int .i64 vk, .int .i64 vm, .slice vA vl vc, .slice vB vbl vbc]] w fun r w' => r = .returned (.bool (sameX uk um ub vk vm vb && (uq == vq))) ∧ Chg [] w w' := by
  obtain ⟨w2, hw, hc, b0, b1⟩ := news2 w (.cells #[.int .i64 un, .int .i64 us, .string (strOf up), .int .i64 uk, .int .i64 um, .slice uA ul uc, .slice uB ubl ubc] 30) (.cells #[.int .i64 un, .int .i64 us, .string (strOf up), .int .i64 vk, .int .i64 vm, .slice vA vl vc, .slice vB vbl vbc] 30)
  have W2 := Lib.hid hw
  have C := Lib.hid hc
  have HA := Lib.hid (ha.chg hc (by simp))
  have HB := Lib.hid (hb.chg hc (by simp))
  have HQ := Lib.hid (hq.chg hc (by simp))
  have HR := Lib.hid (hr.chg hc (by simp))
  have HN := Lib.hid hn
  generalize hv : sameX uk um ub vk vm vb = v
  have HV := Lib.hid hv
  clear hv
  generalize hu : (uq == vq) = u
  have HU := Lib.hid hu
  clear hu
  clear hw hc ha hq hb hr hn
  go_enter Tryz.func103, Tryz.ntmps103
  go_upto_region 1 with fail
  rw [← W2.out]
  generalize w.heap.size + 1 = g1 at *
  generalize w.heap.size = g0 at *
  have z0 := cell_of b0 0
  have z1 := cell_of b0 1
  have z2 := cell_of b0 2
  have z3 := cell_of b0 3
  have z4 := cell_of b0 4
  have z5 := cell_of b0 5
  have z6 := cell_of b0 6
  have y0 := cell_of b1 0
  have y1 := cell_of b1 1
  have y2 := cell_of b1 2
  have y3 := cell_of b1 3
  have y4 := cell_of b1 4
  have y5 := cell_of b1 5
  have y6 := cell_of b1 6
  simp only [List.getElem?_toArray, List.getElem?_cons_succ, List.getElem?_cons_zero] at z0 z1 z2 z3 z4 z5 z6 y0 y1 y2 y3 y4 y5 y6
  clear b0 b1
  go_wp2_with fail
  refine (esamex_any _ uk um vk vm uA vA ul uc vl vc ub vb HA.out HB.out).mono ?_
  rintro r w3 ⟨rfl, h3⟩
  rw [HV.out]
  have cz6 := h3.cell z6 (by simp)
  have cy6 := h3.cell y6 (by simp)
  replace C := Lib.hid (C.out.trans h3)
  replace HQ := Lib.hid (HQ.out.chg h3 (by simp))
  replace HR := Lib.hid (HR.out.chg h3 (by simp))
  clear h3 HV z0 z1 z2 z3 z4 z5 z6 y0 y1 y2 y3 y4 y5 y6
  rcases v with _ | _
  · clear cz6 cy6
    go_wp2
    go_ret
    exact ⟨rfl, C.out⟩
  go_wp2_with fail
  refine (equalspan_any _ uB vB ubl vbl ubc vbc uq vq HQ.out HR.out HN.out.1 HN.out.2).mono ?_
  rintro r w4 ⟨rfl, h4⟩
  rw [HU.out]
  replace C := Lib.hid (C.out.trans h4)
  clear h4 cz6 cy6 HU
  rcases u with _ | _
  all_goals (go_wp2; go_ret; exact ⟨rfl, C.out⟩)
theorem evalike_raw (w : World) (un us : Int) (up : List UInt8) (uk um : Int) (uA : Option Addr) (ul uc : Nat) (uB : Option Addr) (ubl ubc : Nat) (ub : List UInt8) (uq : List (Int × Int × Int)) (vn vs : Int) (vp : List UInt8) (vk vm : Int) (vA : Option Addr) (vl vc : Nat) (vB : Option Addr) (vbl vbc : Nat) (vb : List UInt8) (vq : List (Int × Int × Int)) (ha : Bs w uA ul ub) (hq : RdK spanTy w uB ubl uq) (hb : Bs w vA vl vb) (hr : RdK spanTy w vB vbl vq) (hn : ubl ≤ 140737488351232 ∧ vbl ≤ 140737488351232) :
    Calls Tryz.prog 103 #[.agg #[.int .i64 un, .int .i64 us, .string (strOf up), .int .i64 uk, .int .i64 um, .slice uA ul uc, .slice uB ubl ubc], .agg #[.int .i64 vn, .int .i64 vs, .string (strOf vp), .int .i64 vk, .int .i64 vm, .slice vA vl vc, .slice vB vbl vbc]] w fun r w' => r = .returned (.bool (sameP ⟨un, us, up, uk, um, ub, uq⟩ ⟨vn, vs, vp, vk, vm, vb, vq⟩)) ∧ Chg [] w w' := by
  unfold sameP
  by_cases h1 : un = vn
  · subst h1
    by_cases h2 : us = vs
    · subst h2
      by_cases h3 : up = vp
      · subst h3
        have q := evalike_3 w un us up uk um uA ul uc uB ubl ubc ub uq vk vm vA vl vc vB vbl vbc vb vq ha hq hb hr hn
        unfold sameX at q
        simpa using q
      · have q := evalike_2 w un us up uk um uA ul uc uB ubl ubc ub uq vp vk vm vA vl vc vB vbl vbc vb vq ha hq hb hr hn h3
        simpa [h3] using q
    · have q := evalike_1 w un us up uk um uA ul uc uB ubl ubc ub uq vs vp vk vm vA vl vc vB vbl vbc vb vq ha hq hb hr hn h2
      simpa [h2] using q
  · have q := evalike_0 w un us up uk um uA ul uc uB ubl ubc ub uq vn vs vp vk vm vA vl vc vB vbl vbc vb vq ha hq hb hr hn h1
    simpa [h1] using q
theorem evalike_any (w : World) (x y : EvT) (e f : EvP) (hx : EvR w x e) (hy : EvR w y f) (hn : e.q.length ≤ 140737488351232 ∧ f.q.length ≤ 140737488351232) :
    Calls Tryz.prog 103 #[.agg #[.int .i64 x.n, .int .i64 x.s, .string x.p, .int .i64 x.k, .int .i64 x.m, .slice x.A x.l x.c, .slice x.B x.bl x.bc], .agg #[.int .i64 y.n, .int .i64 y.s, .string y.p, .int .i64 y.k, .int .i64 y.m, .slice y.A y.l y.c, .slice y.B y.bl y.bc]] w fun r w' => r = .returned (.bool (sameP e f)) ∧ Chg [] w w' := by
  have q := evalike_raw w e.n e.s e.p e.k e.m x.A x.l x.c x.B x.bl x.bc e.b e.q f.n f.s f.p f.k f.m y.A y.l y.c y.B y.bl y.bc f.b f.q hx.A hx.B hy.A hy.B (by rw [hx.bl, hy.bl]; exact hn)
  have en := hx.n
  have es := hx.s
  have ep := hx.p
  have ek := hx.k
  have em := hx.m
  have fn := hy.n
  have fs := hy.s
  have fp := hy.p
  have fk := hy.k
  have fm := hy.m
  rw [en, es, ep, ek, em, fn, fs, fp, fk, fm]
  exact q

theorem rd_oneE {w : World} {g : Nat} {x : EvT} (h : w.heap[g]? = some (.cells #[.int .i64 x.n, .int .i64 x.s, .string x.p, .int .i64 x.k, .int .i64 x.m, .slice x.A x.l x.c, .slice x.B x.bl x.bc] 30)) : RdK evTy w (some ⟨g, 0, none⟩) 1 [x] :=
  ⟨rfl, fun j v hj => ⟨_, rfl, by rw [add_zero_lit, cell_of h j]; simpa [RowTy.flat, evTy] using hj⟩⟩
set_option maxRecDepth 100000 in
set_option maxHeartbeats 8000000 in
theorem equalfuncev_any (w : World) (g g' : Nat) (c d : Nat) (x y : EvT) (e f : EvP) (h : RdK evTy w (some ⟨g, 0, none⟩) 1 [x]) (h' : RdK evTy w (some ⟨g', 0, none⟩) 1 [y]) (hx : EvR w x e) (hy : EvR w y f) (hn : e.q.length ≤ 140737488351232 ∧ f.q.length ≤ 140737488351232) :
    Calls Tryz.prog 102 #[.slice (some ⟨g, 0, none⟩) 1 c, .slice (some ⟨g', 0, none⟩) 1 d, .func (.func 103) #[] #[]] w fun r w' => r = .returned (.bool (sameP e f)) ∧ Chg [] w w' := by
  have HA := Lib.hid h
  have HB := Lib.hid h'
  have HX := Lib.hid hx
  have HY := Lib.hid hy
  have HN := Lib.hid hn
  clear h h' hx hy hn
  generalize hv : sameP e f = v
  have HV := Lib.hid hv
  clear hv
  go_enter Tryz.func102, Tryz.ntmps102
  go_wp2
  go_loopw [7, 8, 9, 17] (fun _ _ _ i wr => ∃ k : Nat, k ≤ 1 ∧ i = .int .i64 k ∧ Hid (k = 1 → v = true) ∧ Hid (Chg [] w wr)) (fun _ _ _ i _ => 1 - (RowKit.intOf i).toNat)
  case atStart => exact ⟨0, by omega, rfl, Lib.hid (fun q => absurd q (by omega)), Chg.refl _ _⟩
  case round =>
    obtain ⟨k, hk, rfl, KV, RC⟩ := hrel
    by_cases hlt : k = 0
    · subst hlt
      obtain ⟨z0, z1, z2, z3, z4, z5, z6⟩ := evCells (j := 0) (HA.out.chg RC.out (by simp)) rfl
      simp only [Nat.zero_mul, Nat.zero_add, Nat.add_zero] at z0 z1 z2 z3 z4 z5 z6
      obtain ⟨w1, hw, hc, b0⟩ := news1 wr (.cells #[.int .i64 x.n, .int .i64 x.s, .string x.p, .int .i64 x.k, .int .i64 x.m, .slice x.A x.l x.c, .slice x.B x.bl x.bc] 30)
      have W1 := Lib.hid hw
      have B0 := Lib.hid b0
      have C1 := Lib.hid (RC.out.trans hc)
      clear hw hc b0
      go_upto_region 6 with fail
      rw [← W1.out]
      generalize wr.heap.size = g0 at *
      clear z0 z1 z2 z3 z4 z5 z6 W1
      obtain ⟨y0, y1, y2, y3, y4, y5, y6⟩ := evCells (j := 0) (HB.out.chg C1.out (by simp)) rfl
      simp only [Nat.zero_mul, Nat.zero_add, Nat.add_zero] at y0 y1 y2 y3 y4 y5 y6
      obtain ⟨w2, hw, hc, b1⟩ := news1 w1 (.cells #[.int .i64 y.n, .int .i64 y.s, .string y.p, .int .i64 y.k, .int .i64 y.m, .slice y.A y.l y.c, .slice y.B y.bl y.bc] 30)
      have W2 := Lib.hid hw
      have B1 := Lib.hid b1
      replace B0 := Lib.hid (hc.at_ B0.out (by simp))
      have C2 := Lib.hid (C1.out.trans hc)
      clear hw hc b1
      go_upto_region 7 with fail
      rw [← W2.out]
      generalize w1.heap.size = g1 at *
      clear y0 y1 y2 y3 y4 y5 y6
      have z0 := cell_of B0.out 0
      have y0 := cell_of B1.out 0
      have z1 := cell_of B0.out 1
      have y1 := cell_of B1.out 1
      have z2 := cell_of B0.out 2
      have y2 := cell_of B1.out 2
      have z3 := cell_of B0.out 3
      have y3 := cell_of B1.out 3
      have z4 := cell_of B0.out 4
      have y4 := cell_of B1.out 4
      have z5 := cell_of B0.out 5
      have y5 := cell_of B1.out 5
      have z6 := cell_of B0.out 6
      have y6 := cell_of B1.out 6
      simp only [List.getElem?_toArray, List.getElem?_cons_succ, List.getElem?_cons_zero] at z0 y0 z1 y1 z2 y2 z3 y3 z4 y4 z5 y5 z6 y6
      go_wp2_with fail
      clear z0 y0 z1 y1 z2 y2 z3 y3 z4 y4 z5 y5 z6 y6
      refine (evalike_any w2 x y e f (HX.out.chg C2.out) (HY.out.chg C2.out) HN.out).mono ?_
      rintro r w3 ⟨rfl, h3⟩
      rw [HV.out]
      have C3 := Lib.hid (C2.out.trans h3)
      clear h3
      rcases v with _ | _
      · go_wp2
        go_ret
        exact ⟨rfl, C3.out⟩
      · go_wp2
        go_round
        case rel => exact ⟨1, by omega, by go_num, Lib.hid (fun _ => by first | rfl | exact True.intro), C3.out⟩
        case measure => simp [RowKit.intOf]
    · obtain rfl : k = 1 := by omega
      obtain rfl := KV.out rfl
      go_wp2
      go_ret
      exact ⟨rfl, RC.out⟩

set_option maxRecDepth 100000 in
set_option maxHeartbeats 8000000 in
/-- event.Same, whatever comes. -/
theorem evsame_any (w : World) (x y : EvT) (e f : EvP) (hx : EvR w x e) (hy : EvR w y f) (hn : e.q.length ≤ 140737488351232 ∧ f.q.length ≤ 140737488351232) :
    Calls Tryz.prog 62 #[.agg #[.int .i64 x.n, .int .i64 x.s, .string x.p, .int .i64 x.k, .int .i64 x.m, .slice x.A x.l x.c, .slice x.B x.bl x.bc], .agg #[.int .i64 y.n, .int .i64 y.s, .string y.p, .int .i64 y.k, .int .i64 y.m, .slice y.A y.l y.c, .slice y.B y.bl y.bc]] w fun r w' => r = .returned (.bool (sameP e f)) ∧ Chg [] w w' := by
  obtain ⟨w2, hw, hc, b0, b1⟩ := news2 w (.cells #[.int .i64 x.n, .int .i64 x.s, .string x.p, .int .i64 x.k, .int .i64 x.m, .slice x.A x.l x.c, .slice x.B x.bl x.bc] 30) (.cells #[.int .i64 y.n, .int .i64 y.s, .string y.p, .int .i64 y.k, .int .i64 y.m, .slice y.A y.l y.c, .slice y.B y.bl y.bc] 30)
  obtain ⟨w4, hw4, hc4, b2, b3⟩ := news2 w2 (.cells #[.int .i64 x.n, .int .i64 x.s, .string x.p, .int .i64 x.k, .int .i64 x.m, .slice x.A x.l x.c, .slice x.B x.bl x.bc] 30) (.cells #[.int .i64 y.n, .int .i64 y.s, .string y.p, .int .i64 y.k, .int .i64 y.m, .slice y.A y.l y.c, .slice y.B y.bl y.bc] 30)
  have W2 := Lib.hid hw
  have W4 := Lib.hid hw4
  have C := Lib.hid (hc.trans hc4)
  have HX := Lib.hid (hx.chg (hc.trans hc4))
  have HY := Lib.hid (hy.chg (hc.trans hc4))
  have HN := Lib.hid hn
  have R2 := Lib.hid (rd_oneE b2)
  have R3 := Lib.hid (rd_oneE b3)
  generalize hv : sameP e f = v
  have HV := Lib.hid hv
  have z0 := cell_of b0 0
  have y0 := cell_of b1 0
  have z1 := cell_of b0 1
  have y1 := cell_of b1 1
  have z2 := cell_of b0 2
  have y2 := cell_of b1 2
  have z3 := cell_of b0 3
  have y3 := cell_of b1 3
  have z4 := cell_of b0 4
  have y4 := cell_of b1 4
  have z5 := cell_of b0 5
  have y5 := cell_of b1 5
  have z6 := cell_of b0 6
  have y6 := cell_of b1 6
  simp only [List.getElem?_toArray, List.getElem?_cons_succ, List.getElem?_cons_zero] at z0 y0 z1 y1 z2 y2 z3 y3 z4 y4 z5 y5 z6 y6
  clear hv hw hc hw4 hc4 b0 b1 b2 b3 hx hy hn
  go_enter Tryz.func62, Tryz.ntmps62
  go_upto_region 1 with fail
  rw [← W2.out]
  generalize w.heap.size + 1 = g1 at *
  generalize w.heap.size = g0 at *
  have x0 := ((Chg.refl [] w2).alloc (.cells #[.int .i64 x.n, .int .i64 x.s, .string x.p, .int .i64 x.k, .int .i64 x.m, .slice x.A x.l x.c, .slice x.B x.bl x.bc] 30)).cell y0 (by simp)
  have x1 := ((Chg.refl [] w2).alloc (.cells #[.int .i64 x.n, .int .i64 x.s, .string x.p, .int .i64 x.k, .int .i64 x.m, .slice x.A x.l x.c, .slice x.B x.bl x.bc] 30)).cell y1 (by simp)
  have x2 := ((Chg.refl [] w2).alloc (.cells #[.int .i64 x.n, .int .i64 x.s, .string x.p, .int .i64 x.k, .int .i64 x.m, .slice x.A x.l x.c, .slice x.B x.bl x.bc] 30)).cell y2 (by simp)
  have x3 := ((Chg.refl [] w2).alloc (.cells #[.int .i64 x.n, .int .i64 x.s, .string x.p, .int .i64 x.k, .int .i64 x.m, .slice x.A x.l x.c, .slice x.B x.bl x.bc] 30)).cell y3 (by simp)
  have x4 := ((Chg.refl [] w2).alloc (.cells #[.int .i64 x.n, .int .i64 x.s, .string x.p, .int .i64 x.k, .int .i64 x.m, .slice x.A x.l x.c, .slice x.B x.bl x.bc] 30)).cell y4 (by simp)
  have x5 := ((Chg.refl [] w2).alloc (.cells #[.int .i64 x.n, .int .i64 x.s, .string x.p, .int .i64 x.k, .int .i64 x.m, .slice x.A x.l x.c, .slice x.B x.bl x.bc] 30)).cell y5 (by simp)
  have x6 := ((Chg.refl [] w2).alloc (.cells #[.int .i64 x.n, .int .i64 x.s, .string x.p, .int .i64 x.k, .int .i64 x.m, .slice x.A x.l x.c, .slice x.B x.bl x.bc] 30)).cell y6 (by simp)
  go_wp2_with fail
  rw [← W4.out]
  generalize w2.heap.size + 1 = g3 at *
  generalize w2.heap.size = g2 at *
  clear z0 y0 x0 z1 y1 x1 z2 y2 x2 z3 y3 x3 z4 y4 x4 z5 y5 x5 z6 y6 x6
  refine (equalfuncev_any w4 g2 g3 1 1 x y e f R2.out R3.out HX.out HY.out HN.out).mono ?_
  rintro r w5 ⟨rfl, h5⟩
  rw [HV.out]
  replace C := Lib.hid (C.out.trans h5)
  clear h5
  go_wp2
  go_ret
  exact ⟨rfl, C.out⟩
end
section
open Go.RowKit Go.WideShapes Go.ChangeShapes Go.Deep
set_option linter.unusedSimpArgs false
/-- The slice reads as these numbers. -/
structure Is (w : World) (A : Option Addr) (n : Nat) (zs : List Int) : Prop where
  len : zs.length = n
  cells : ∀ (j : Nat) (z : Int), zs[j]? = some z → ∃ a, A = some a ∧ w.cell? (a.add j) = some (.int .i64 z)
theorem Is.line {w : World} {A : Option Addr} {n : Nat} {zs : List Int} (h : Is w A n zs) (h0 : 0 < n) : ∃ g o, A = some ⟨g, o, none⟩ ∧ ∀ j, j < n → w.cell? ⟨g, o + j, none⟩ = some (.int .i64 (zs.getD j 0)) := by
  have hl := h.len
  obtain ⟨a, rfl, hc⟩ := h.cells 0 _ (List.getElem?_eq_getElem (by omega))
  have hsp := World.cell?_spot hc
  obtain ⟨g, o, sp⟩ := a
  have hsp : sp = none := by simpa [Addr.add] using hsp
  subst hsp
  refine ⟨g, o, rfl, fun j hj => ?_⟩
  obtain ⟨a', e, hcj⟩ := h.cells j _ (List.getElem?_eq_getElem (by omega))
  cases e
  rw [add_lit] at hcj
  rw [hcj]
  simp [List.getD_eq_getElem?_getD, List.getElem?_eq_getElem (show j < zs.length by omega)]
section
variable {H : Type} {enc : TypeId × Value → H} {P : Program} {w : World} {base : Nat} {spare : Nat → Bool} {held : Bool}
theorem open_ints_ {n : Nat} {cs : List Value} {y : DataW H × List MemPlace} (h : DataW.trod enc Tryz.prog w base spare held n 44 cs = some y) (hz : ∀ k ∈ y.1.weights Tryz.prog 44, k ≤ reachBytes) :
    ∃ A m d zs, cs = [.slice A m d] ∧ Is w A m zs ∧ m * 8 ≤ 140737488351232 ∧ m ≤ d := by
  rcases open_ints Tryz.underlying44 Tryz.underlying3 (by kernel_rfl) h with ⟨rfl, _⟩ | ⟨x, l, c, zs, rfl, _, hl, hm, hzl, rfl, hcell, hwz⟩
  · exact ⟨none, 0, 0, [], rfl, ⟨rfl, by simp⟩, by decide, by decide⟩
  · have hlen : l ≤ zs.length := by rw [hzl]; split <;> omega
    have hw := (weights_slice Tryz.underlying44 hz).1
    rw [show Tryz.prog.bytesOf 3 = 8 by kernel_rfl] at hw
    refine ⟨some x, l, c, zs.take l, rfl, ⟨by simp; omega, fun j u hj => ⟨x, rfl, ?_⟩⟩, ?_, hl⟩
    · have hjl := (List.getElem?_eq_some_iff.1 hj).1
      rw [List.length_take] at hjl
      have h2 : j < zs.length := by omega
      rw [hcell j h2]
      simp only [List.getElem?_take, if_pos (show j < l by omega)] at hj
      simp [List.getD, hj]
    · simp [lits, reachBytes] at hw
      omega
end
end
end Go.Proofs.YtdfapiffalmjcaaGreatDoor
