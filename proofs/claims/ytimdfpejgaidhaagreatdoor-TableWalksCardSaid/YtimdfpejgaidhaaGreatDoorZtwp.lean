/- The document's reader: Open, fail, Left, End, and Num. The document's number, read. The document's number, read: where digits follow, or none. The document's reader: Raw and Text. The document's writer and reader, made since a world w. The document's effects: Check, Same, Less, Size, Bytes. event.Same. table.Walk, table.Diff. The document's Diff. -/
import Derived.Test.YtimdfpejgaidhaaGreatDoorZtwb
import Derived.Deep.RegionHeld3
import Derived.Deep.AppendLies
import Derived.Test.YtimdfpejgaidhaaGreatDoorZtwo
import Derived.Test.YtimdfpejgaidhaaGreatDoorZtwk
import Derived.Test.YtimdfpejgaidhaaGreatDoorZtwl
import Derived.Deep.Cut
import Derived.Deep.QuietTactic
import Derived.BigQuiet
import Derived.RegionTactic
import Derived.Test.YtimdfpejgaidhaaGreatDoorZtwn
namespace Go.Proofs.YtimdfpejgaidhaaGreatDoor
section
open Go.RowKit


theorem cmpI_zeroF {a b : Int} : cmpI a b = 0 ↔ a = b := by
  unfold cmpI
  split
  · constructor <;> omega
  · split
    · constructor <;> omega
    · constructor <;> omega
theorem cmpB_zero : ∀ (a b : List UInt8), Lib.compareBytes a b = 0 ↔ a = b
  | [], [] => by simp [Lib.compareBytes]
  | [], _ :: _ => by simp [Lib.compareBytes]
  | _ :: _, [] => by simp [Lib.compareBytes]
  | x :: a, y :: b => by
    unfold Lib.compareBytes
    have ih := cmpB_zero a b
    by_cases h : x < y
    · rw [if_pos h]
      constructor
      · intro e; simp at e
      · intro e; cases e; exact absurd h (UInt8.lt_irrefl _)
    · by_cases h' : y < x
      · rw [if_neg h, if_pos h']
        constructor
        · intro e; simp at e
        · intro e; cases e; exact absurd h' (UInt8.lt_irrefl _)
      · rw [if_neg h, if_neg h', ih]
        have : x = y := UInt8.le_antisymm (UInt8.not_lt.1 h') (UInt8.not_lt.1 h)
        subst this
        simp
theorem or3_zero {a b c : Int} : or3 a b c = 0 ↔ a = 0 ∧ b = 0 ∧ c = 0 := by
  unfold or3
  split
  · constructor <;> omega
  · split
    · constructor <;> omega
    · constructor <;> omega
theorem cmpE_zero {k m k' m' : Int} {xs ys : List UInt8} : cmpE k m xs k' m' ys = 0 ↔ k = k' ∧ m = m' ∧ xs = ys := by
  unfold cmpE
  rw [or3_zero, cmpI_zeroF, cmpI_zeroF, cmpB_zero]
set_option maxRecDepth 20000 in
set_option maxHeartbeats 1000000 in
theorem fsame_any (w : World) (k m k' m' : Int) (A B : Option Addr) (n c n' d : Nat) (xs ys : List UInt8) (h : Bs w A n xs) (h' : Bs w B n' ys) :
    Calls Tryz.prog 66 #[.agg #[.int .i64 k, .int .i64 m, .slice A n c], .agg #[.int .i64 k', .int .i64 m', .slice B n' d]] w fun e w' => e = .returned (.bool (cmpE k m xs k' m' ys == 0)) ∧ Chg [] w w' := by
  have c0 := ((Chg.refl [] w).alloc (.cells #[.int .i64 k, .int .i64 m, .slice A n c] 25)).alloc (.cells #[.int .i64 k', .int .i64 m', .slice B n' d] 25)
  have C0 := Lib.hid c0
  have s1 := run_str _ (c := c) (h.chg c0 (by simp))
  have s2 := run_str _ (c := d) (h'.chg c0 (by simp))
  clear c0 h h'
  generalize hr : (cmpE k m xs k' m' ys == 0) = R
  have HR := Lib.hid hr
  clear hr
  by_cases e1 : k = k'
  · subst e1
    by_cases e2 : m = m'
    · subst e2
      go_enter Tryz.func66, Tryz.ntmps66
      go_wp2
      go_ret
      refine ⟨?_, C0.out⟩
      show Ending.returned (.bool (xs == ys)) = Ending.returned (.bool R)
      rw [← HR.out]
      congr 2
      rw [Bool.eq_iff_iff, beq_iff_eq, beq_iff_eq, cmpE_zero]
      simp
    · have e2' : (m == m') = false := by simpa using e2
      clear s1 s2
      go_enter Tryz.func66, Tryz.ntmps66
      go_wp2
      go_ret
      refine ⟨?_, C0.out⟩
      show Ending.returned (.bool false) = Ending.returned (.bool R)
      rw [← HR.out]
      congr 2
      rw [Bool.eq_iff_iff, beq_iff_eq, cmpE_zero]
      simp [e2]
  · have e1' : (k == k') = false := by simpa using e1
    clear s1 s2
    go_enter Tryz.func66, Tryz.ntmps66
    go_wp2
    go_ret
    refine ⟨?_, C0.out⟩
    show Ending.returned (.bool false) = Ending.returned (.bool R)
    rw [← HR.out]
    congr 2
    rw [Bool.eq_iff_iff, beq_iff_eq, cmpE_zero]
    simp [e1]
end
section
open Go.RowKit Go.Lib
set_option linter.unusedSimpArgs false
set_option linter.unusedVariables false


theorem cmpE_same (k m : Int) (xs : List UInt8) (k' m' : Int) (ys : List UInt8) : (cmpE k m xs k' m' ys == 0) = sameX k m xs k' m' ys := by
  rw [Bool.eq_iff_iff, beq_iff_eq, cmpE_zero]
  unfold sameX
  simp [and_assoc]
theorem esamex_any (w : World) (k m k' m' : Int) (A B : Option Addr) (n c n' d : Nat) (xs ys : List UInt8) (h : Bs w A n xs) (h' : Bs w B n' ys) :
    Calls Tryz.prog 65 #[.agg #[.int .i64 k, .int .i64 m, .slice A n c], .agg #[.int .i64 k', .int .i64 m', .slice B n' d]] w fun e w' => e = .returned (.bool (sameX k m xs k' m' ys)) ∧ Chg [] w w' := by
  rw [← cmpE_same]
  exact esame_any w k m k' m' A B n c n' d xs ys h h'
theorem fsamex_any (w : World) (k m k' m' : Int) (A B : Option Addr) (n c n' d : Nat) (xs ys : List UInt8) (h : Bs w A n xs) (h' : Bs w B n' ys) :
    Calls Tryz.prog 66 #[.agg #[.int .i64 k, .int .i64 m, .slice A n c], .agg #[.int .i64 k', .int .i64 m', .slice B n' d]] w fun e w' => e = .returned (.bool (sameX k m xs k' m' ys)) ∧ Chg [] w w' := by
  rw [← cmpE_same]
  exact fsame_any w k m k' m' A B n c n' d xs ys h h'
end
section
open Go.RowKit Go.Lib
set_option linter.unusedSimpArgs false
set_option linter.unusedVariables false

set_option maxRecDepth 100000 in
set_option maxHeartbeats 8000000 in
/-- table.Walk. -/
theorem tbwk_any (w : World) (A B : Option Addr) (c d : Nat) (xs ys : List EnT) (es fs : List EnP) (h : RdK enTy w A xs.length xs) (h' : RdK enTy w B ys.length ys) (hx : EnsR w xs es) (hy : EnsR w ys fs) (hn : xs.length ≤ 200 ∧ ys.length ≤ 200 ∧ xs.length ≤ c ∧ ys.length ≤ d) (hs : (∀ e ∈ es, EnSm e) ∧ ∀ e ∈ fs, EnSm e) :
    Calls Tryz.prog 24 #[.slice A xs.length c, .slice B ys.length d] w fun r w' => ∃ (A' : Option Addr) (c' : Nat) (us : List PrT), r = .returned (.tuple #[.slice A' us.length c', .int .i64 (walkT es fs).1]) ∧ OwnK prTy w' A' c' us ∧ PrsR w' us (walkT es fs).2 ∧ (∀ a, A' = some a → w.heap.size ≤ a.block) ∧ Chg [] w w' := by
  obtain ⟨R, hR⟩ : ∃ R, walkT es fs = R := ⟨_, rfl⟩
  rw [hR]
  have HRR := Lib.hid hR
  have CE := Lib.hid (fun (w' : World) (hc : Chg [] w w') => tbcheck_any w' A c xs es (h.chg hc (by simp)) (hx.chg hc) hn.1 hs.1)
  have CF := Lib.hid (fun (w' : World) (hc : Chg [] w w') => tbcheck_any w' B d ys fs (h'.chg hc (by simp)) (hy.chg hc) hn.2.1 hs.2)
  have TG := Lib.hid (fun (w' : World) (hc : Chg [] w w') (p : TabOk es) (q : TabOk fs) => tbtog_any w' A B c d xs ys es fs (h.chg hc (by simp)) (h'.chg hc (by simp)) (hx.chg hc) (hy.chg hc) ⟨by omega, by omega, hn.2.2⟩ ⟨p.2.1, q.2.1⟩ ⟨fun e he => ⟨hs.1 e he, ok_ne_nil (p.1 e he).1⟩, fun e he => ⟨hs.2 e he, ok_ne_nil (q.1 e he).1⟩⟩)
  clear h h' hx hy hn hs hR
  go_enter Tryz.func24, Tryz.ntmps24
  go_wp2_with fail
  refine (CE.out w (Chg.refl _ _)).mono ?_
  rintro r w2 ⟨rfl, hc⟩
  have C := Lib.hid hc
  clear hc CE
  rcases tabE_two es with e1 | e1
  rotate_left
  · have ER : Hid (R = (2, [])) := Lib.hid (by rw [← HRR.out]; unfold walkT; rw [if_neg (fun q => by rw [tabE_zero.2 q.1] at e1; cases e1)])
    rw [e1]
    clear e1
    go_wp2
    go_ret2
    rw [ER.out]
    exact ⟨none, 0, [], rfl, OwnK.none_ _, PrsR.nil _, by simp, C.out⟩
  have OK : Hid (TabOk es) := Lib.hid (tabE_zero.1 e1)
  rw [e1]
  clear e1
  go_wp2_with fail
  refine (CF.out w2 C.out).mono ?_
  rintro r w3 ⟨rfl, hc⟩
  replace C := Lib.hid (C.out.trans hc)
  clear hc CF
  rcases tabE_two fs with e1 | e1
  rotate_left
  · have ER : Hid (R = (2, [])) := Lib.hid (by rw [← HRR.out]; unfold walkT; rw [if_neg (fun q => by rw [tabE_zero.2 q.2] at e1; cases e1)])
    rw [e1]
    clear e1
    go_wp2
    go_ret2
    rw [ER.out]
    exact ⟨none, 0, [], rfl, OwnK.none_ _, PrsR.nil _, by simp, C.out⟩
  have OK2 : Hid (TabOk fs) := Lib.hid (tabE_zero.1 e1)
  rw [e1]
  clear e1
  have ER : Hid (R = (0, walkL es fs)) := Lib.hid (by rw [← HRR.out]; unfold walkT; rw [if_pos ⟨OK.out, OK2.out⟩])
  go_wp2_with fail
  refine (TG.out w3 C.out OK.out OK2.out).mono ?_
  rintro r w4 ⟨A', c', us, rfl, ho, hp, hf, hc⟩
  have RES := Lib.hid (And.intro ho (And.intro hp (And.intro hf hc)))
  clear ho hp hf hc TG
  go_wp2
  go_ret2
  rw [ER.out]
  exact ⟨A', c', us, rfl, RES.out.1, RES.out.2.1, fun a ha => Nat.le_trans C.out.size (RES.out.2.2.1 a ha), C.out.trans RES.out.2.2.2⟩
set_option maxRecDepth 100000 in
set_option maxHeartbeats 8000000 in
theorem tbdiff1_any (w : World) (x : PrT) (e : PrP) (h : PrR w x e) :
    Calls Tryz.prog 64 #[.agg #[.string x.p, .int .i64 x.k, .int .i64 x.m, .slice x.A x.l x.c, .int .i64 x.k2, .int .i64 x.m2, .slice x.B x.bl x.bc]] w fun r w' => r = .returned (.bool (prSame e)) ∧ Chg [] w w' := by
  obtain ⟨w1, hw1, c1, b1⟩ := news1 w (.cells #[.string x.p, .int .i64 x.k, .int .i64 x.m, .slice x.A x.l x.c, .int .i64 x.k2, .int .i64 x.m2, .slice x.B x.bl x.bc] 50)
  have W1 := Lib.hid hw1
  have C1 := Lib.hid c1
  have CC : Hid (Calls Tryz.prog 65 #[.agg #[.int .i64 x.k, .int .i64 x.m, .slice x.A x.l x.c], .agg #[.int .i64 x.k2, .int .i64 x.m2, .slice x.B x.bl x.bc]] w1 fun r w' => r = .returned (.bool (prSame e)) ∧ Chg [] w1 w') := Lib.hid (by
    have hv : sameX x.k x.m e.ab x.k2 x.m2 e.bb = prSame e := by unfold prSame; rw [h.k, h.m, h.k2, h.m2]
    have q := esamex_any w1 x.k x.m x.k2 x.m2 x.A x.B x.l x.c x.bl x.bc e.ab e.bb (h.A.chg c1 (by simp)) (h.B.chg c1 (by simp))
    rwa [hv] at q)
  obtain ⟨z1, z2, z3, z4, z5, z6⟩ : w1.cell? ⟨w.heap.size, 1, none⟩ = some (.int .i64 x.k) ∧ w1.cell? ⟨w.heap.size, 2, none⟩ = some (.int .i64 x.m) ∧ w1.cell? ⟨w.heap.size, 3, none⟩ = some (.slice x.A x.l x.c) ∧ w1.cell? ⟨w.heap.size, 4, none⟩ = some (.int .i64 x.k2) ∧ w1.cell? ⟨w.heap.size, 5, none⟩ = some (.int .i64 x.m2) ∧ w1.cell? ⟨w.heap.size, 6, none⟩ = some (.slice x.B x.bl x.bc) := ⟨cell_of b1 1, cell_of b1 2, cell_of b1 3, cell_of b1 4, cell_of b1 5, cell_of b1 6⟩
  clear hw1 c1 b1 h
  go_enter Tryz.func64, Tryz.ntmps64
  go_upto_region 1 with fail
  rw [← W1.out]
  generalize w.heap.size = g1 at *
  clear W1
  go_wp2_with fail
  clear z1 z2 z3 z4 z5 z6
  refine CC.out.mono ?_
  rintro r w2 ⟨rfl, hc⟩
  replace C1 := Lib.hid (C1.out.trans hc)
  clear hc CC
  go_wp2
  go_ret
  exact ⟨rfl, C1.out⟩
theorem walkT_len (a b : List EnP) : (walkT a b).2.length ≤ a.length + b.length := by
  unfold walkT
  split
  · exact walk_len a b
  · simp
set_option maxRecDepth 100000 in
set_option maxHeartbeats 8000000 in
/-- table.Diff. -/
theorem tbdiff_any (w : World) (A B : Option Addr) (c d : Nat) (xs ys : List EnT) (es fs : List EnP) (h : RdK enTy w A xs.length xs) (h' : RdK enTy w B ys.length ys) (hx : EnsR w xs es) (hy : EnsR w ys fs) (hn : xs.length ≤ 200 ∧ ys.length ≤ 200 ∧ xs.length ≤ c ∧ ys.length ≤ d) (hs : (∀ e ∈ es, EnSm e) ∧ ∀ e ∈ fs, EnSm e) :
    Calls Tryz.prog 26 #[.slice A xs.length c, .slice B ys.length d] w fun r w' => ∃ (A' : Option Addr) (c' : Nat) (us : List PrT), r = .returned (.tuple #[.slice A' us.length c', .int .i64 (diffT es fs).1]) ∧ OwnK prTy w' A' c' us ∧ PrsR w' us (diffT es fs).2 ∧ (∀ a, A' = some a → w.heap.size ≤ a.block) ∧ Chg [] w w' := by
  have WK := Lib.hid (tbwk_any w A B c d xs ys es fs h h' hx hy hn hs)
  have LN : Hid ((walkT es fs).2.length ≤ 400) := Lib.hid (by have := walkT_len es fs; rw [← hx.1, ← hy.1] at this; omega)
  clear h h' hx hy hn hs
  unfold diffT
  generalize walkT es fs = R at *
  go_enter Tryz.func26, Tryz.ntmps26
  go_wp2_with fail
  refine WK.out.mono ?_
  rintro r w2 ⟨A', c', us, rfl, ho, hp, hf, hc⟩
  have DE := Lib.hid (prfdel_S (blkOf A') w2 w2 w2 A' c' us R.2 64 #[] prSame (enters_of Tryz.func64 (by kernel_rfl) rfl) hp (Chg.refl _ _) ho (fun a ha => .inl (mem_blkOf ha)) hp (by rw [hp.1]; have := LN.out; omega) (fun wr hcc i x e hx he => by
    rw [Array.append_empty]
    exact tbdiff1_any wr x e ((hp.2 i x e hx he).row ho hcc)))
  have RES := Lib.hid (And.intro ho (And.intro hf hc))
  clear ho hp hf hc WK
  go_wp2_with fail
  refine DE.out.mono ?_
  rintro r w3 ⟨zs, rfl, hl, hr, ho3, hc3⟩
  have FIN := Lib.hid (And.intro ho3 (And.intro (hr.row RES.out.1 hc3) (RES.out.2.2.trans' hc3 (fun j hj => by
    obtain ⟨b, hb, e⟩ := of_blkOf hj
    have := RES.out.2.1 b hb
    exact .inr (by omega)))))
  clear hl hr ho3 hc3 DE
  go_wp2
  go_ret2
  exact ⟨A', c', zs, rfl, FIN.out.1, FIN.out.2.1, RES.out.2.1, FIN.out.2.2⟩
end
section
open Go.RowKit Go.Lib
set_option linter.unusedSimpArgs false
set_option linter.unusedVariables false

theorem fsame_pr (w : World) (x : PrT) (e : PrP) (h : PrR w x e) :
    Calls Tryz.prog 66 #[.agg #[.int .i64 x.k, .int .i64 x.m, .slice x.A x.l x.c], .agg #[.int .i64 x.k2, .int .i64 x.m2, .slice x.B x.bl x.bc]] w fun r w' => r = .returned (.bool (prSame e)) ∧ Chg [] w w' := by
  have hv : sameX x.k x.m e.ab x.k2 x.m2 e.bb = prSame e := by unfold prSame; rw [h.k, h.m, h.k2, h.m2]
  have q := fsamex_any w x.k x.m x.k2 x.m2 x.A x.B x.l x.c x.bl x.bc e.ab e.bb h.A h.B
  rwa [hv] at q
set_option maxRecDepth 100000 in
set_option maxHeartbeats 16000000 in
/-- The document's Diff. -/
theorem tddiff_any (w : World) (A B : Option Addr) (c d : Nat) (xs ys : List EnT) (es fs : List EnP) (h : RdK enTy w A xs.length xs) (h' : RdK enTy w B ys.length ys) (hx : EnsR w xs es) (hy : EnsR w ys fs) (hn : xs.length ≤ 200 ∧ ys.length ≤ 200) (hs : (∀ e ∈ es, EnSm e ∧ e.p.length ≤ 900000) ∧ ∀ e ∈ fs, EnSm e ∧ e.p.length ≤ 900000) :
    Calls Tryz.prog 27 #[.slice A xs.length c, .slice B ys.length d] w fun r w' => ∃ (A' : Option Addr) (c' : Nat) (us : List PrT), r = .returned (.tuple #[.slice A' us.length c', .int .i64 (diffT es fs).1]) ∧ OwnK prTy w' A' c' us ∧ PrsR w' us (diffT es fs).2 ∧ (∀ a, A' = some a → w.heap.size ≤ a.block) ∧ Chg [] w w' := by
  have WK := Lib.hid (tdwalk_any w A B c d xs ys es fs h h' hx hy hn hs)
  have LN : Hid ((walkT es fs).2.length ≤ 400) := Lib.hid (by have := walkT_len es fs; rw [← hx.1, ← hy.1] at this; omega)
  clear h h' hx hy hn hs
  unfold diffT
  generalize walkT es fs = R at *
  go_enter Tryz.func27, Tryz.ntmps27
  go_wp2_with fail
  refine WK.out.mono ?_
  rintro r w4 ⟨A6, c6, us, rfl, ho, hp, hf, hc⟩
  have C4 := Lib.hid hc
  have OL := Lib.hid ho.reads
  have PL := Lib.hid hp
  have UL : Hid (us.length ≤ 400) := Lib.hid (by rw [hp.1]; exact LN.out)
  clear ho hp hf hc WK LN
  go_wp2
  go_loopw [8, 9] (fun v8 v9 wr => ∃ (k : Nat) (A1 : Option Addr) (d1 : Nat) (zs : List PrT), k ≤ us.length ∧ v9 = .int .i64 (k : Int) ∧ v8 = .slice A1 zs.length d1 ∧ Hid (zs.length ≤ k) ∧ Hid (OwnK prTy wr A1 d1 zs) ∧ Hid (PrsR wr zs ((R.2.take k).filter (fun x => !prSame x))) ∧ Hid (∀ a, A1 = some a → w4.heap.size ≤ a.block) ∧ Hid (Chg [] w4 wr)) (fun _ v9 _ => us.length - (RowKit.intOf v9).toNat)
  case atStart => exact ⟨0, none, 0, [], Nat.zero_le _, rfl, rfl, Lib.hid (by simp), OwnK.none_ _, Lib.hid (PrsR.nil _), Lib.hid (by simp), Chg.refl _ _⟩
  case round =>
    obtain ⟨k, A1, d1, zs, hk, rfl, rfl, ZL, RO, RU, RN, RC⟩ := hrel
    have i0 : (0 : Int) ≤ (k : Int) := by omega
    by_cases hlt : k < us.length
    · skip
      have i1 : (k : Int) < (us.length : Int) := by omega
      have i3 : IntKind.i64.wrap ((k : Int) + 1) = (k : Int) + 1 := IntWalk.i64_in _ (by have := UL.out; omega)
      obtain ⟨g6, o6, eA, _⟩ := OL.out.line (by omega)
      subst eA
      obtain ⟨x, e, ex, ee, rx⟩ := PL.out.at_ hlt
      have DX : Hid (∀ w', Chg [] w4 w' → w'.cell? ⟨g6, o6 + k * 7, none⟩ = some (.string x.p) ∧ w'.cell? ⟨g6, o6 + k * 7 + 1, none⟩ = some (.int .i64 x.k) ∧ w'.cell? ⟨g6, o6 + k * 7 + 2, none⟩ = some (.int .i64 x.m) ∧ w'.cell? ⟨g6, o6 + k * 7 + 3, none⟩ = some (.slice x.A x.l x.c) ∧ w'.cell? ⟨g6, o6 + k * 7 + 4, none⟩ = some (.int .i64 x.k2) ∧ w'.cell? ⟨g6, o6 + k * 7 + 5, none⟩ = some (.int .i64 x.m2) ∧ w'.cell? ⟨g6, o6 + k * 7 + 6, none⟩ = some (.slice x.B x.bl x.bc)) := Lib.hid (fun w' hc => prCells (OL.out.chg hc (by simp)) ex)
      have RX := Lib.hid rx
      have MT : Hid ((R.2.take (k + 1)).filter (fun x => !prSame x) = (R.2.take k).filter (fun x => !prSame x) ++ (if prSame e = true then [] else [e])) := Lib.hid (by
        rw [List.take_add_one, ee, List.filter_append]
        congr 1
        cases q : prSame e <;> simp [q])
      have N4 : Hid ((zs.length + 1) * 400 ≤ 140737488355327) := Lib.hid (by have := ZL.out; have := UL.out; omega)
      clear ex ee rx
      go_upto_region 6 with fail
      refine wp_region_held_drew (S := fun w' => Chg [] w4 w') (by kernel_rfl) (RC.out.trans (Chg.refl [] wr).drew) (fun hHeld => ?_)
      have RD : Hid (Chg [] wr wr.drew) := Lib.hid (Chg.refl [] wr).drew
      clear hHeld
      replace RO := Lib.hid (RO.out.chg RD.out (by simp))
      replace RU := Lib.hid (RU.out.chg RD.out)
      replace RC := Lib.hid (RC.out.trans RD.out)
      clear RD
      generalize wr.drew = wc at *
      refine sy 0 22 rfl rfl ?_ (hS := RC.out)
      try simp only [Act.put, sA, s0, s1]
      refine sy 1 23 rfl rfl ?_ (hS := RC.out)
      try simp only [Act.put, sA, s0, s1]
      refine sy 2 24 rfl rfl ?_ (hS := RC.out)
      try simp only [Act.put, sA, s0, s1]
      refine sy 3 25 rfl rfl ?_ (hS := RC.out)
      try simp only [Act.put, sA, s0, s1]
      refine sy 4 26 rfl rfl ?_ (hS := RC.out) (hy := by (intro w hSw; (try dsimp only at hSw); have hq := DX.out _ hSw; obtain ⟨q0, q1, q2, q3, q4, q5, q6⟩ := hq; go_simp; try with_reducible rfl))
      try simp only [Act.put, sA, s0, s1]
      refine sy 5 27 rfl rfl ?_ (hS := RC.out)
      try simp only [Act.put, sA, s0, s1]
      refine sy 6 28 rfl rfl ?_ (hS := RC.out)
      try simp only [Act.put, sA, s0, s1]
      refine sy 7 29 rfl rfl ?_ (hS := RC.out)
      try simp only [Act.put, sA, s0, s1]
      refine sy 8 30 rfl rfl ?_ (hS := RC.out)
      try simp only [Act.put, sA, s0, s1]
      refine sy 9 31 rfl rfl ?_ (hS := RC.out) (hy := by (intro w hSw; (try dsimp only at hSw); have hq := DX.out _ hSw; obtain ⟨q0, q1, q2, q3, q4, q5, q6⟩ := hq; go_simp; try with_reducible rfl))
      try simp only [Act.put, sA, s0, s1]
      refine wpAnyH_ready (rs := [10]) (by kernel_rfl) (by simp) ?_
      refine AllReadyH.cons rfl (fun K hK => ?_) AllReadyH.nil
      replace hK := Lib.hid hK
      go_simp
      refine (fsame_pr wc x e (RX.out.chg RC.out)).mono ?_
      rintro r w5 ⟨rfl, hc⟩
      replace RO := Lib.hid (RO.out.chg hc (by simp))
      replace RU := Lib.hid (RU.out.chg hc)
      replace RC := Lib.hid (RC.out.trans hc)
      clear hc
      refine hK.out _ _ RC.out (fun hHeld => ?_)
      clear hK K
      try simp only [Act.put, sA, s0, s1]
      refine sy 11 33 rfl rfl ?_ (hS := RC.out)
      try simp only [Act.put, sA, s0, s1]
      refine wpAnyH_done (by kernel_rfl) ?_ _
      clear hHeld
      rcases hb : prSame e with _ | _
      · skip
        obtain ⟨z0, z1, z2, z3, z4, z5, z6⟩ := DX.out _ RC.out
        have MT1 : Hid ((R.2.take (k + 1)).filter (fun x => !prSame x) = (R.2.take k).filter (fun x => !prSame x) ++ [e]) := Lib.hid (by rw [MT.out, hb]; rfl)
        obtain ⟨w7, hw, hc, b3⟩ := news1 w5 (.cells #[.string x.p, .int .i64 x.k, .int .i64 x.m, .slice x.A x.l x.c, .int .i64 x.k2, .int .i64 x.m2, .slice x.B x.bl x.bc] 50)
        have W7 := Lib.hid hw
        have R3 := Lib.hid (rd_onePr b3)
        replace RO := Lib.hid (RO.out.chg hc (by simp))
        replace RU := Lib.hid (RU.out.chg hc)
        replace RC := Lib.hid (RC.out.trans hc)
        have XR := Lib.hid (RX.out.chg RC.out)
        clear hw hc b3 hb
        go_wp2_with (at_builtin; rw [← W7.out]; refine wpList_appK (R := prTy) rfl (.tmp 34) (.tmp 39) rfl rfl (A := A1) (n := zs.length) (m := 1) (c := d1) (d := 1) (xs := zs) (ys := [x]) RO.out rfl rfl R3.out N4.out ?_; intro A7 c7 w8 o7 g7 e7; have O7 := Lib.hid o7; have F7 := Lib.hid (fresh_appN RN.out RC.out g7 e7); have G7 := Lib.hid g7; clear o7 g7 e7 z0 z1 z2 z3 z4 z5 z6)
        have CG : Hid (Chg (blkOf A1) w7 w8) := Lib.hid ((Chg.refl (blkOf A1) w7).grown G7.out (fun i hi => by
          cases A1 with
          | none => simp at hi
          | some a => simp at hi; subst hi; exact .inl (mem_blkOf rfl)))
        have RU8 : Hid (PrsR w8 (zs ++ [x]) ((R.2.take (k + 1)).filter (fun x => !prSame x))) := Lib.hid (by rw [MT1.out]; exact (RU.out.row RO.out CG.out).snoc (XR.out.row RO.out CG.out))
        clear CG G7 RO RU XR R3 W7
        go_wp2
        go_round
        case rel => exact ⟨k + 1, A7, c7, zs ++ [x], by omega, by go_num, by simp, Lib.hid (by have := ZL.out; simp; omega), O7, RU8, Lib.hid F7.out.1, F7.out.2⟩
        case measure => simp [RowKit.intOf]; omega
      · skip
        have RU8 : Hid (PrsR w5 zs ((R.2.take (k + 1)).filter (fun x => !prSame x))) := Lib.hid (by rw [MT.out, hb, if_pos rfl, List.append_nil]; exact RU.out)
        clear hb
        go_wp2
        go_round
        case rel => exact ⟨k + 1, A1, d1, zs, by omega, by go_num, rfl, Lib.hid (by have := ZL.out; omega), RO, RU8, RN, RC⟩
        case measure => simp [RowKit.intOf]; omega
    · skip
      have i1 : ¬ (k : Int) < (us.length : Int) := by omega
      have KE : Hid (k = us.length) := Lib.hid (by omega)
      have RE : Hid (PrsR wr zs (R.2.filter (fun x => !prSame x))) := Lib.hid (by
        have t := RU.out
        rw [KE.out, PL.out.1, List.take_length] at t
        exact t)
      go_wp2
      go_ret2
      exact ⟨A1, d1, zs, rfl, RO.out, RE.out, fun a ha => Nat.le_trans C4.out.size (RN.out a ha), C4.out.trans RC.out⟩
end
end Go.Proofs.YtimdfpejgaidhaaGreatDoor
