/- The document's reader: Open, fail, Left, End, and Num. The document's number, read. The document's number, read: where digits follow, or none. The document's reader: Raw and Text. The document's writer and reader, made since a world w. The document's effects: Check, Same, Less, Size, Bytes. event.Same. table.Walk, table.Diff. Package effect: Read. -/
import Derived.Test.YtimdfpejgaidhaaGreatDoorZteb
import Derived.Deep.RegionHeld3
import Derived.Deep.AppendLies
import Derived.Test.YtimdfpejgaidhaaGreatDoorZtem
import Derived.Test.YtimdfpejgaidhaaGreatDoorZtef
import Derived.Deep.Cut
import Derived.Deep.QuietTactic
import Derived.BigQuiet
import Derived.RegionTactic
import Derived.Test.YtimdfpejgaidhaaGreatDoorZtel
import Derived.Deep.CutRange
namespace Go.Proofs.YtimdfpejgaidhaaGreatDoor
section
open Go.RowKit


theorem cmpI_zeroF {a b : Int} : cmpI a b = 0 ↔ a = b := by
  unfold cmpI
  split
  · constructor <;> omega
  · split
    · constructor <;> omega
    · constructor <;> omega
theorem cmpB_zero : ∀ (a b : List UInt8), Lib.compareBytes a b = 0 ↔ a = b
  | [], [] => by simp [Lib.compareBytes]
  | [], _ :: _ => by simp [Lib.compareBytes]
  | _ :: _, [] => by simp [Lib.compareBytes]
  | x :: a, y :: b => by
    unfold Lib.compareBytes
    have ih := cmpB_zero a b
    by_cases h : x < y
    · rw [if_pos h]
      constructor
      · intro e; simp at e
      · intro e; cases e; exact absurd h (UInt8.lt_irrefl _)
    · by_cases h' : y < x
      · rw [if_neg h, if_pos h']
        constructor
        · intro e; simp at e
        · intro e; cases e; exact absurd h' (UInt8.lt_irrefl _)
      · rw [if_neg h, if_neg h', ih]
        have : x = y := UInt8.le_antisymm (UInt8.not_lt.1 h') (UInt8.not_lt.1 h)
        subst this
        simp
theorem or3_zero {a b c : Int} : or3 a b c = 0 ↔ a = 0 ∧ b = 0 ∧ c = 0 := by
  unfold or3
  split
  · constructor <;> omega
  · split
    · constructor <;> omega
    · constructor <;> omega
theorem cmpE_zero {k m k' m' : Int} {xs ys : List UInt8} : cmpE k m xs k' m' ys = 0 ↔ k = k' ∧ m = m' ∧ xs = ys := by
  unfold cmpE
  rw [or3_zero, cmpI_zeroF, cmpI_zeroF, cmpB_zero]
end
section
open Go.RowKit Go.Lib
set_option linter.unusedSimpArgs false
set_option linter.unusedVariables false


theorem cmpE_same (k m : Int) (xs : List UInt8) (k' m' : Int) (ys : List UInt8) : (cmpE k m xs k' m' ys == 0) = sameX k m xs k' m' ys := by
  rw [Bool.eq_iff_iff, beq_iff_eq, cmpE_zero]
  unfold sameX
  simp [and_assoc]
theorem esamex_any (w : World) (k m k' m' : Int) (A B : Option Addr) (n c n' d : Nat) (xs ys : List UInt8) (h : Bs w A n xs) (h' : Bs w B n' ys) :
    Calls Tryz.prog 65 #[.agg #[.int .i64 k, .int .i64 m, .slice A n c], .agg #[.int .i64 k', .int .i64 m', .slice B n' d]] w fun e w' => e = .returned (.bool (sameX k m xs k' m' ys)) ∧ Chg [] w w' := by
  rw [← cmpE_same]
  exact esame_any w k m k' m' A B n c n' d xs ys h h'
end
section
open Go.RowKit Go.Lib
set_option linter.unusedSimpArgs false
set_option linter.unusedVariables false

set_option maxRecDepth 100000 in
set_option maxHeartbeats 8000000 in
/-- table.Walk. -/
theorem tbwk_any (w : World) (A B : Option Addr) (c d : Nat) (xs ys : List EnT) (es fs : List EnP) (h : RdK enTy w A xs.length xs) (h' : RdK enTy w B ys.length ys) (hx : EnsR w xs es) (hy : EnsR w ys fs) (hn : xs.length ≤ 200 ∧ ys.length ≤ 200 ∧ xs.length ≤ c ∧ ys.length ≤ d) (hs : (∀ e ∈ es, EnSm e) ∧ ∀ e ∈ fs, EnSm e) :
    Calls Tryz.prog 24 #[.slice A xs.length c, .slice B ys.length d] w fun r w' => ∃ (A' : Option Addr) (c' : Nat) (us : List PrT), r = .returned (.tuple #[.slice A' us.length c', .int .i64 (walkT es fs).1]) ∧ OwnK prTy w' A' c' us ∧ PrsR w' us (walkT es fs).2 ∧ (∀ a, A' = some a → w.heap.size ≤ a.block) ∧ Chg [] w w' := by
  obtain ⟨R, hR⟩ : ∃ R, walkT es fs = R := ⟨_, rfl⟩
  rw [hR]
  have HRR := Lib.hid hR
  have CE := Lib.hid (fun (w' : World) (hc : Chg [] w w') => tbcheck_any w' A c xs es (h.chg hc (by simp)) (hx.chg hc) hn.1 hs.1)
  have CF := Lib.hid (fun (w' : World) (hc : Chg [] w w') => tbcheck_any w' B d ys fs (h'.chg hc (by simp)) (hy.chg hc) hn.2.1 hs.2)
  have TG := Lib.hid (fun (w' : World) (hc : Chg [] w w') (p : TabOk es) (q : TabOk fs) => tbtog_any w' A B c d xs ys es fs (h.chg hc (by simp)) (h'.chg hc (by simp)) (hx.chg hc) (hy.chg hc) ⟨by omega, by omega, hn.2.2⟩ ⟨p.2.1, q.2.1⟩ ⟨fun e he => ⟨hs.1 e he, ok_ne_nil (p.1 e he).1⟩, fun e he => ⟨hs.2 e he, ok_ne_nil (q.1 e he).1⟩⟩)
  clear h h' hx hy hn hs hR
  go_enter Tryz.func24, Tryz.ntmps24
  go_wp2_with fail
  refine (CE.out w (Chg.refl _ _)).mono ?_
  rintro r w2 ⟨rfl, hc⟩
  have C := Lib.hid hc
  clear hc CE
  rcases tabE_two es with e1 | e1
  rotate_left
  · have ER : Hid (R = (2, [])) := Lib.hid (by rw [← HRR.out]; unfold walkT; rw [if_neg (fun q => by rw [tabE_zero.2 q.1] at e1; cases e1)])
    rw [e1]
    clear e1
    go_wp2
    go_ret2
    rw [ER.out]
    exact ⟨none, 0, [], rfl, OwnK.none_ _, PrsR.nil _, by simp, C.out⟩
  have OK : Hid (TabOk es) := Lib.hid (tabE_zero.1 e1)
  rw [e1]
  clear e1
  go_wp2_with fail
  refine (CF.out w2 C.out).mono ?_
  rintro r w3 ⟨rfl, hc⟩
  replace C := Lib.hid (C.out.trans hc)
  clear hc CF
  rcases tabE_two fs with e1 | e1
  rotate_left
  · have ER : Hid (R = (2, [])) := Lib.hid (by rw [← HRR.out]; unfold walkT; rw [if_neg (fun q => by rw [tabE_zero.2 q.2] at e1; cases e1)])
    rw [e1]
    clear e1
    go_wp2
    go_ret2
    rw [ER.out]
    exact ⟨none, 0, [], rfl, OwnK.none_ _, PrsR.nil _, by simp, C.out⟩
  have OK2 : Hid (TabOk fs) := Lib.hid (tabE_zero.1 e1)
  rw [e1]
  clear e1
  have ER : Hid (R = (0, walkL es fs)) := Lib.hid (by rw [← HRR.out]; unfold walkT; rw [if_pos ⟨OK.out, OK2.out⟩])
  go_wp2_with fail
  refine (TG.out w3 C.out OK.out OK2.out).mono ?_
  rintro r w4 ⟨A', c', us, rfl, ho, hp, hf, hc⟩
  have RES := Lib.hid (And.intro ho (And.intro hp (And.intro hf hc)))
  clear ho hp hf hc TG
  go_wp2
  go_ret2
  rw [ER.out]
  exact ⟨A', c', us, rfl, RES.out.1, RES.out.2.1, fun a ha => Nat.le_trans C.out.size (RES.out.2.2.1 a ha), C.out.trans RES.out.2.2.2⟩
set_option maxRecDepth 100000 in
set_option maxHeartbeats 8000000 in
theorem tbdiff1_any (w : World) (x : PrT) (e : PrP) (h : PrR w x e) :
    Calls Tryz.prog 64 #[.agg #[.string x.p, .int .i64 x.k, .int .i64 x.m, .slice x.A x.l x.c, .int .i64 x.k2, .int .i64 x.m2, .slice x.B x.bl x.bc]] w fun r w' => r = .returned (.bool (prSame e)) ∧ Chg [] w w' := by
  obtain ⟨w1, hw1, c1, b1⟩ := news1 w (.cells #[.string x.p, .int .i64 x.k, .int .i64 x.m, .slice x.A x.l x.c, .int .i64 x.k2, .int .i64 x.m2, .slice x.B x.bl x.bc] 50)
  have W1 := Lib.hid hw1
  have C1 := Lib.hid c1
  have CC : Hid (Calls Tryz.prog 65 #[.agg #[.int .i64 x.k, .int .i64 x.m, .slice x.A x.l x.c], .agg #[.int .i64 x.k2, .int .i64 x.m2, .slice x.B x.bl x.bc]] w1 fun r w' => r = .returned (.bool (prSame e)) ∧ Chg [] w1 w') := Lib.hid (by
    have hv : sameX x.k x.m e.ab x.k2 x.m2 e.bb = prSame e := by unfold prSame; rw [h.k, h.m, h.k2, h.m2]
    have q := esamex_any w1 x.k x.m x.k2 x.m2 x.A x.B x.l x.c x.bl x.bc e.ab e.bb (h.A.chg c1 (by simp)) (h.B.chg c1 (by simp))
    rwa [hv] at q)
  obtain ⟨z1, z2, z3, z4, z5, z6⟩ : w1.cell? ⟨w.heap.size, 1, none⟩ = some (.int .i64 x.k) ∧ w1.cell? ⟨w.heap.size, 2, none⟩ = some (.int .i64 x.m) ∧ w1.cell? ⟨w.heap.size, 3, none⟩ = some (.slice x.A x.l x.c) ∧ w1.cell? ⟨w.heap.size, 4, none⟩ = some (.int .i64 x.k2) ∧ w1.cell? ⟨w.heap.size, 5, none⟩ = some (.int .i64 x.m2) ∧ w1.cell? ⟨w.heap.size, 6, none⟩ = some (.slice x.B x.bl x.bc) := ⟨cell_of b1 1, cell_of b1 2, cell_of b1 3, cell_of b1 4, cell_of b1 5, cell_of b1 6⟩
  clear hw1 c1 b1 h
  go_enter Tryz.func64, Tryz.ntmps64
  go_upto_region 1 with fail
  rw [← W1.out]
  generalize w.heap.size = g1 at *
  clear W1
  go_wp2_with fail
  clear z1 z2 z3 z4 z5 z6
  refine CC.out.mono ?_
  rintro r w2 ⟨rfl, hc⟩
  replace C1 := Lib.hid (C1.out.trans hc)
  clear hc CC
  go_wp2
  go_ret
  exact ⟨rfl, C1.out⟩
theorem walkT_len (a b : List EnP) : (walkT a b).2.length ≤ a.length + b.length := by
  unfold walkT
  split
  · exact walk_len a b
  · simp
set_option maxRecDepth 100000 in
set_option maxHeartbeats 8000000 in
/-- table.Diff. -/
theorem tbdiff_any (w : World) (A B : Option Addr) (c d : Nat) (xs ys : List EnT) (es fs : List EnP) (h : RdK enTy w A xs.length xs) (h' : RdK enTy w B ys.length ys) (hx : EnsR w xs es) (hy : EnsR w ys fs) (hn : xs.length ≤ 200 ∧ ys.length ≤ 200 ∧ xs.length ≤ c ∧ ys.length ≤ d) (hs : (∀ e ∈ es, EnSm e) ∧ ∀ e ∈ fs, EnSm e) :
    Calls Tryz.prog 26 #[.slice A xs.length c, .slice B ys.length d] w fun r w' => ∃ (A' : Option Addr) (c' : Nat) (us : List PrT), r = .returned (.tuple #[.slice A' us.length c', .int .i64 (diffT es fs).1]) ∧ OwnK prTy w' A' c' us ∧ PrsR w' us (diffT es fs).2 ∧ (∀ a, A' = some a → w.heap.size ≤ a.block) ∧ Chg [] w w' := by
  have WK := Lib.hid (tbwk_any w A B c d xs ys es fs h h' hx hy hn hs)
  have LN : Hid ((walkT es fs).2.length ≤ 400) := Lib.hid (by have := walkT_len es fs; rw [← hx.1, ← hy.1] at this; omega)
  clear h h' hx hy hn hs
  unfold diffT
  generalize walkT es fs = R at *
  go_enter Tryz.func26, Tryz.ntmps26
  go_wp2_with fail
  refine WK.out.mono ?_
  rintro r w2 ⟨A', c', us, rfl, ho, hp, hf, hc⟩
  have DE := Lib.hid (prfdel_S (blkOf A') w2 w2 w2 A' c' us R.2 64 #[] prSame (enters_of Tryz.func64 (by kernel_rfl) rfl) hp (Chg.refl _ _) ho (fun a ha => .inl (mem_blkOf ha)) hp (by rw [hp.1]; have := LN.out; omega) (fun wr hcc i x e hx he => by
    rw [Array.append_empty]
    exact tbdiff1_any wr x e ((hp.2 i x e hx he).row ho hcc)))
  have RES := Lib.hid (And.intro ho (And.intro hf hc))
  clear ho hp hf hc WK
  go_wp2_with fail
  refine DE.out.mono ?_
  rintro r w3 ⟨zs, rfl, hl, hr, ho3, hc3⟩
  have FIN := Lib.hid (And.intro ho3 (And.intro (hr.row RES.out.1 hc3) (RES.out.2.2.trans' hc3 (fun j hj => by
    obtain ⟨b, hb, e⟩ := of_blkOf hj
    have := RES.out.2.1 b hb
    exact .inr (by omega)))))
  clear hl hr ho3 hc3 DE
  go_wp2
  go_ret2
  exact ⟨A', c', zs, rfl, FIN.out.1, FIN.out.2.1, RES.out.2.1, FIN.out.2.2⟩
end
end Go.Proofs.YtimdfpejgaidhaaGreatDoor
