/- The kit's CopyEntries. slices.Insert of one entry. table.stands. What is changed within two bounds. slices.IndexFunc, ContainsFunc, DeleteFunc over entries. table.find. The kit's CopyEvent. A row of nil has no elements. slices.Clone of spans. fresh.Effect, fresh.Event. fresh.Entry. table.Get. -/
import Derived.Test.YtimdfpejgaidhaaGreatDoorZtbad
import Derived.Test.YtimdfpejgaidhaaGreatDoorZtbae
import Derived.Test.YtimdfpejgaidhaaGreatDoorZtbaj
import Derived.Deep.Cut
import Derived.Deep.RegionHeld3
import Derived.Test.YtimdfpejgaidhaaGreatDoorZtbac
import Derived.BigQuiet
import Derived.Test.YtimdfpejgaidhaaGreatDoorZtbab
import Derived.Test.YtimdfpejgaidhaaGreatDoorZtbaa
namespace Go.Proofs.YtimdfpejgaidhaaGreatDoor
section
open Go.RowKit Go.Lib
set_option linter.unusedSimpArgs false
set_option linter.unusedVariables false

/-- The rows of a copy lie apart from the list's own block, and are there. -/
def ApartN (w : World) (A : Option Addr) (xs : List EnT) : Prop := ∀ x ∈ xs, ∀ a, x.A = some a → a.block < w.heap.size ∧ ∀ b, A = some b → a.block ≠ b.block
theorem fresh_appN {w2 w w' : World} {A A' : Option Addr} (hA : ∀ a, A = some a → w2.heap.size ≤ a.block) (hC : Chg [] w2 w) (g : w.grownBy w' (A.map (·.block))) (e : A' = A ∨ A' = some ⟨w.heap.size, 0, none⟩) :
    (∀ a, A' = some a → w2.heap.size ≤ a.block) ∧ Chg [] w2 w' := by
  refine ⟨?_, hC.grown g ?_⟩
  · rintro a ha
    rcases e with rfl | rfl
    · exact hA a ha
    · cases ha; exact hC.size
  · rintro i hi
    cases A with
    | none => simp at hi
    | some a => simp at hi; subst hi; exact .inr (hA a rfl)
set_option maxRecDepth 100000 in
set_option maxHeartbeats 8000000 in
theorem copyens_any (w : World) (A : Option Addr) (c : Nat) (xs : List EnT) (es : List EnP) (h : RdK enTy w A xs.length xs) (hx : EnsR w xs es) (hn : xs.length ≤ 100000) (hq : ∀ e ∈ es, e.b.length ≤ 140737488351232) :
    Calls Tryz.prog 11 #[.slice A xs.length c] w fun r w' => ∃ (A' : Option Addr) (c' : Nat) (ys : List EnT), r = .returned (.slice A' ys.length c') ∧ ys.length = xs.length ∧ OwnK enTy w' A' c' ys ∧ EnsR w' ys es ∧ ApartN w' A' ys ∧ (∀ a, A' = some a → w.heap.size ≤ a.block) ∧ Chg [] w w' := by
  have HA := Lib.hid h
  have HX := Lib.hid hx
  have HN := Lib.hid hn
  have HQ := Lib.hid hq
  clear h hx hn hq
  go_enter Tryz.func11, Tryz.ntmps11
  go_wp2
  go_loopw [3, 4] (fun o i wr => ∃ (k : Nat) (A1 : Option Addr) (d1 : Nat) (ys : List EnT), k ≤ xs.length ∧ ys.length = k ∧ i = .int .i64 k ∧ o = .slice A1 ys.length d1 ∧ Hid (OwnK enTy wr A1 d1 ys) ∧ Hid (EnsR wr ys (es.take k)) ∧ Hid (ApartN wr A1 ys) ∧ Hid (∀ a, A1 = some a → w.heap.size ≤ a.block) ∧ Hid (Chg [] w wr)) (fun _ i _ => xs.length - (RowKit.intOf i).toNat)
  case atStart => exact ⟨0, none, 0, [], Nat.zero_le _, rfl, rfl, rfl, OwnK.none_ _, Lib.hid (by simpa using EnsR.nil _), Lib.hid (fun x hx => by simp at hx), Lib.hid (by simp), Chg.refl _ _⟩
  case round =>
    obtain ⟨k, A1, d1, ys, hk, hyl, rfl, rfl, RO, RE, RA, RN, RC⟩ := hrel
    have i0 : (0 : Int) ≤ (k : Int) := by omega
    by_cases hlt : k < xs.length
    · have i1 : (k : Int) < (xs.length : Int) := by omega
      have i3 : IntKind.i64.wrap ((k : Int) + 1) = (k : Int) + 1 := IntWalk.i64_in _ (by have := HN.out; omega)
      obtain ⟨g, o, eA, _⟩ := HA.out.line (by omega)
      subst eA
      obtain ⟨x, e, ex, ee, rx⟩ := HX.out.at_ hlt
      have DX : Hid (∀ w', Chg [] w w' → (fun w' => w'.cell? ⟨g, o + k * 4, none⟩ = some (.string x.p) ∧ w'.cell? ⟨g, o + k * 4 + 1, none⟩ = some (.int .i64 x.k) ∧ w'.cell? ⟨g, o + k * 4 + 2, none⟩ = some (.int .i64 x.m) ∧ w'.cell? ⟨g, o + k * 4 + 3, none⟩ = some (.slice x.A x.l x.c)) w') := Lib.hid (fun w' hc => enCells (HA.out.chg hc (by simp)) ex)
      have RX := Lib.hid rx
      have ET : Hid (es.take (k + 1) = es.take k ++ [e]) := Lib.hid (by rw [List.take_add_one, ee]; rfl)
      have EQ := Lib.hid (HQ.out e (List.mem_of_getElem? ee))
      have YL := Lib.hid hyl
      clear ex ee rx hyl
      obtain ⟨z0, z1, z2, z3⟩ := DX.out _ RC.out
      go_upto_region 5 with fail
      clear z0 z1 z2 z3
      refine wp_region_held_drew (S := fun w' => w'.cell? ⟨g, o + k * 4, none⟩ = some (.string x.p) ∧ w'.cell? ⟨g, o + k * 4 + 1, none⟩ = some (.int .i64 x.k) ∧ w'.cell? ⟨g, o + k * 4 + 2, none⟩ = some (.int .i64 x.m) ∧ w'.cell? ⟨g, o + k * 4 + 3, none⟩ = some (.slice x.A x.l x.c)) (by kernel_rfl) (DX.out _ (RC.out.trans (Chg.refl [] wr).drew)) (fun hHeld => ?_)
      have RD : Hid (Chg [] wr wr.drew) := Lib.hid (Chg.refl [] wr).drew
      clear hHeld
      replace RO := Lib.hid (RO.out.chg RD.out (by simp))
      replace RE := Lib.hid (RE.out.chg RD.out)
      replace RA : Hid (ApartN wr.drew A1 ys) := Lib.hid (fun y hy a ha => ⟨Nat.lt_of_lt_of_le (RA.out y hy a ha).1 RD.out.size, (RA.out y hy a ha).2⟩)
      replace RC := Lib.hid (RC.out.trans RD.out)
      clear RD
      generalize wr.drew = wc at *
      refine sy 0 11 rfl rfl ?_ (hS := (DX.out _ RC.out))
      try simp only [Act.put, sA, s0, s1]
      refine sy 1 12 rfl rfl ?_ (hS := (DX.out _ RC.out))
      try simp only [Act.put, sA, s0, s1]
      refine sy 2 13 rfl rfl ?_ (hS := (DX.out _ RC.out))
      try simp only [Act.put, sA, s0, s1]
      refine sy 3 14 rfl rfl ?_ (hS := (DX.out _ RC.out))
      try simp only [Act.put, sA, s0, s1]
      refine sy 4 15 rfl rfl ?_ (hS := (DX.out _ RC.out))
      try simp only [Act.put, sA, s0, s1]
      refine sy 5 16 rfl rfl ?_ (hS := (DX.out _ RC.out)) (hy := by (intro w hSw; (try dsimp only at hSw); obtain ⟨q0, q1, q2, q3⟩ := hSw; go_simp; try with_reducible rfl))
      try simp only [Act.put, sA, s0, s1]
      refine sy 6 17 rfl rfl ?_ (hS := (DX.out _ RC.out))
      try simp only [Act.put, sA, s0, s1]
      refine sy 7 18 rfl rfl ?_ (hS := (DX.out _ RC.out))
      try simp only [Act.put, sA, s0, s1]
      refine sy 8 19 rfl rfl ?_ (hS := (DX.out _ RC.out))
      try simp only [Act.put, sA, s0, s1]
      refine sy 9 20 rfl rfl ?_ (hS := (DX.out _ RC.out))
      try simp only [Act.put, sA, s0, s1]
      refine sy 10 21 rfl rfl ?_ (hS := (DX.out _ RC.out)) (hy := by (intro w hSw; (try dsimp only at hSw); obtain ⟨q0, q1, q2, q3⟩ := hSw; go_simp; try with_reducible rfl))
      try simp only [Act.put, sA, s0, s1]
      refine wpAnyH_ready (rs := [11]) (by kernel_rfl) (by simp) ?_
      refine AllReadyH.cons rfl (fun K hK => ?_) AllReadyH.nil
      replace hK := Lib.hid hK
      go_simp
      refine (copyeff_any wc x.k x.m x.A x.l x.c e.b (RX.out.A.chg RC.out (by simp)) (by rw [RX.out.l]; exact EQ.out)).mono ?_
      rintro r w2 ⟨A', c', rfl, hA, hnA, hc⟩
      obtain ⟨X, hX⟩ : ∃ X : EnT, X = ⟨x.p, x.k, x.m, A', x.l, c'⟩ := ⟨_, rfl⟩
      have e0 : X.p = x.p := by rw [hX]
      have e1 : X.k = x.k := by rw [hX]
      have e2 : X.m = x.m := by rw [hX]
      have e3 : X.A = A' := by rw [hX]
      have e4 : X.l = x.l := by rw [hX]
      have e5 : X.c = c' := by rw [hX]
      clear hX
      subst e3 e5
      rw [← e1, ← e2, ← e4]
      have XR : Hid (EnR w2 X e) := Lib.hid ⟨e0.trans RX.out.p, e1.trans RX.out.k, e2.trans RX.out.m, e4.trans RX.out.l, by have q := hA.reads; rw [show X.l = e.b.length from e4.trans RX.out.l]; exact q⟩
      have E0 := Lib.hid e0
      have KA : Hid (∀ a, X.A = some a → a.block < w2.heap.size ∧ wc.heap.size ≤ a.block) := Lib.hid (fun a ha => ⟨hA.lt a ha, hnA a ha⟩)
      have LA1 := Lib.hid RO.out.lt_
      replace RO := Lib.hid (RO.out.chg hc (by simp))
      replace RE := Lib.hid (RE.out.chg hc)
      have S2 := Lib.hid hc.size
      replace RC := Lib.hid (RC.out.trans hc)
      clear hA hnA hc e0 e1 e2 e4
      refine hK.out _ _ (DX.out _ RC.out) (fun hHeld => ?_)
      clear hK K
      try simp only [Act.put, sA, s0, s1]
      refine sy 12 23 rfl rfl ?_
      try simp only [Act.put, sA, s0, s1]
      refine wpAnyH_ready (rs := [13]) (by kernel_rfl) (by simp) ?_
      refine AllReadyH.cons rfl (fun K hK => ?_) AllReadyH.nil
      replace hK := Lib.hid hK
      go_simp
      try rw [← E0.out]
      obtain ⟨w3, hw, hc, b3⟩ := news1 w2 (.cells #[.string X.p, .int .i64 X.k, .int .i64 X.m, .slice X.A X.l X.c] 55)
      rw [← hw]
      have R3 := Lib.hid (rd_oneEn b3)
      replace RO := Lib.hid (RO.out.chg hc (by simp))
      replace RE := Lib.hid (RE.out.chg hc)
      replace XR := Lib.hid (XR.out.chg hc)
      have S3 := Lib.hid hc.size
      replace RC := Lib.hid (RC.out.trans hc)
      clear hw hc b3
      refine hK.out _ _ (DX.out _ RC.out) (fun hHeld => ?_)
      clear hK K
      try simp only [Act.put, sA, s0, s1]
      refine wpAnyH_ready (rs := [14]) (by kernel_rfl) (by simp) ?_
      refine AllReadyH.cons rfl (fun K hK => ?_) AllReadyH.nil
      replace hK := Lib.hid hK
      have N4 : Hid ((ys.length + 1) * 400 ≤ 140737488355327) := Lib.hid (by have := YL.out; have := HN.out; omega)
      refine step_appK (R := enTy) rfl (.tmp 11) (.tmp 24) rfl rfl (A := A1) (B := some ⟨w2.heap.size, 0, none⟩) (n := ys.length) (m := 1) (c := d1) (d := 1) (xs := ys) (ys := [X]) RO.out rfl rfl R3.out N4.out ?_
      intro A7 c7 w7 o7 g7 e7
      have O7 := Lib.hid o7
      have F7 := Lib.hid (fresh_appN RN.out RC.out g7 e7)
      have G7 := Lib.hid g7
      have E7 := Lib.hid e7
      clear o7 g7 e7
      refine hK.out _ _ (DX.out _ F7.out.2) (fun hHeld => ?_)
      clear hK K
      try simp only [Act.put, sA, s0, s1]
      refine sy 15 3 rfl rfl ?_
      try simp only [Act.put, sA, s0, s1]
      refine wpAnyH_done (by kernel_rfl) ?_ _
      clear hHeld
      have CG : Hid (Chg (blkOf A1) w3 w7) := Lib.hid ((Chg.refl (blkOf A1) w3).grown G7.out (fun i hi => by
        cases A1 with
        | none => simp at hi
        | some a => simp at hi; subst hi; exact .inl (mem_blkOf rfl)))
      have RE7 : Hid (EnsR w7 (ys ++ [X]) (es.take (k + 1))) := Lib.hid (by
        rw [ET.out]
        refine EnsR.snoc (RE.out.chgS CG.out (fun y hy a ha q => ?_)) (XR.out.chgS CG.out (fun a ha q => ?_))
        · obtain ⟨b, hb, e⟩ := of_blkOf q; exact (RA.out y hy a ha).2 b hb e.symm
        · obtain ⟨b, hb, e⟩ := of_blkOf q; have := LA1.out b hb; have := (KA.out a ha).2; omega)
      have RA7 : Hid (ApartN w7 A7 (ys ++ [X])) := Lib.hid (fun y hy => by
        have s7 := CG.out.size
        have s3 := S3.out
        have s2 := S2.out
        have lo : ∀ a : Addr, a.block < w3.heap.size → (∀ b, A1 = some b → a.block ≠ b.block) → a.block < w7.heap.size ∧ ∀ b, A7 = some b → a.block ≠ b.block := fun a h1 h2 => ⟨by omega, fun b hb => by
          rcases E7.out with q | q
          · rw [q] at hb; exact h2 b hb
          · rw [q] at hb; cases hb; exact Nat.ne_of_lt h1⟩
        rcases List.mem_append.1 hy with r | r
        · exact fun a ha => lo a (by have := (RA.out y r a ha).1; omega) (RA.out y r a ha).2
        · simp at r
          subst r
          exact fun a ha => lo a (by have := (KA.out a ha).1; omega) (fun b hb => by have := LA1.out b hb; have := (KA.out a ha).2; omega))
      have SZ7 : (ys ++ [X]).length = ys.length + 1 := by simp
      clear CG G7 E7 RO RE RA
      go_wp2
      go_round
      case rel => exact ⟨k + 1, A7, c7, ys ++ [X], by omega, by simp [YL.out], by go_num, by simp, O7, RE7, RA7, Lib.hid F7.out.1, F7.out.2⟩
      case measure => simp [RowKit.intOf]; omega
    · obtain rfl : k = xs.length := by omega
      have i1 : ¬ (xs.length : Int) < (xs.length : Int) := by omega
      have ET : es.take xs.length = es := by rw [HX.out.1]; exact List.take_length
      rw [ET] at RE
      have YL := Lib.hid hyl
      clear hyl ET
      go_wp2
      go_ret
      exact ⟨A1, d1, ys, rfl, YL.out, RO.out, RE.out, RA.out, RN.out, RC.out⟩
end
section
open Go.RowKit Go.Lib
set_option linter.unusedSimpArgs false
set_option linter.unusedVariables false

theorem ins_rowN1 {α : Type} {full xs : List α} {y : α} {i : Nat} (ht : full.take xs.length = xs) (hi : i < xs.length) : ((full.take (i + 1) ++ xs.drop i ++ full.drop (i + 1 + (xs.drop i).length)).take i ++ [y] ++ (full.take (i + 1) ++ xs.drop i ++ full.drop (i + 1 + (xs.drop i).length)).drop (i + [y].length)).take (xs.take i ++ y :: xs.drop i).length = xs.take i ++ y :: xs.drop i := by
  have hc : xs.length ≤ full.length := by have := congrArg List.length ht; rw [List.length_take] at this; omega
  have hl : (full.take (i + 1)).length = i + 1 := by rw [List.length_take]; omega
  have e1 : (full.take (i + 1) ++ xs.drop i ++ full.drop (i + 1 + (xs.drop i).length)).take i = xs.take i := by
    rw [List.append_assoc, List.take_append_of_le_length (by omega), List.take_take, Nat.min_eq_left (by omega), ← ht, List.take_take, Nat.min_eq_left (by omega)]
  have e2 : (full.take (i + 1) ++ xs.drop i ++ full.drop (i + 1 + (xs.drop i).length)).drop (i + [y].length) = xs.drop i ++ full.drop (i + 1 + (xs.drop i).length) := by
    rw [List.append_assoc, List.drop_append_of_le_length (by rw [List.length_singleton]; omega), List.drop_of_length_le (by rw [List.length_singleton]; omega), List.nil_append]
  rw [e1, e2]
  have e3 : xs.take i ++ [y] ++ (xs.drop i ++ full.drop (i + 1 + (xs.drop i).length)) = (xs.take i ++ y :: xs.drop i) ++ full.drop (i + 1 + (xs.drop i).length) := by simp
  rw [e3, List.take_left]
theorem ins_rowN2 {α : Type} {xs R : List α} {y : α} {i : Nat} (hi : i < xs.length) (hR : xs.length + 1 - i ≤ R.length) : (((xs.take i ++ R).take i ++ [y] ++ (xs.take i ++ R).drop (i + [y].length)).take (i + 1) ++ xs.drop i ++ ((xs.take i ++ R).take i ++ [y] ++ (xs.take i ++ R).drop (i + [y].length)).drop (i + 1 + (xs.drop i).length)).take (xs.take i ++ y :: xs.drop i).length = xs.take i ++ y :: xs.drop i := by
  have hl : (xs.take i).length = i := by rw [List.length_take]; omega
  have e1 : (xs.take i ++ R).take i = xs.take i := by rw [List.take_append_of_le_length (by omega), List.take_take, Nat.min_self]
  rw [e1]
  have e2 : (xs.take i ++ [y] ++ (xs.take i ++ R).drop (i + [y].length)).take (i + 1) = xs.take i ++ [y] := by
    rw [List.take_append_of_le_length (by simp; omega), List.take_of_length_le (by simp; omega)]
  rw [e2]
  have e3 : ∀ T : List α, xs.take i ++ [y] ++ xs.drop i ++ T = (xs.take i ++ y :: xs.drop i) ++ T := fun T => by simp
  rw [e3, List.take_left]
set_option maxRecDepth 100000 in
set_option maxHeartbeats 8000000 in
/-- slices.Insert of one event into a row that is owned. -/
theorem insen_any (w : World) (A : Option Addr) (c : Nat) (xs : List EnT) (i vb : Nat) (y : EnT) (h : OwnK enTy w A c xs) (hi : i ≤ xs.length) (hn : xs.length ≤ 100000) (hv : w.heap[vb]? = some (.cells #[.string y.p, .int .i64 y.k, .int .i64 y.m, .slice y.A y.l y.c] 55 (0, 0))) (hne : ∀ a, A = some a → a.block ≠ vb) :
    Calls Tryz.prog 79 #[.slice A xs.length c, .int .i64 (i : Int), .slice (some ⟨vb, 0, none⟩) 1 1] w fun r w' => ∃ (A' : Option Addr) (c' : Nat), r = .returned (.slice A' (xs.length + 1) c') ∧ OwnK enTy w' A' c' (xs.take i ++ y :: xs.drop i) ∧ (∀ a, A' = some a → A = some a ∨ w.heap.size ≤ a.block) ∧ Chg (blkOf A) w w' := by

  have XR : Hid (RdK enTy w (some ⟨vb, 0, none⟩) 1 [y]) := Lib.hid (rd_oneEn hv)
  have HN : Hid ((xs.length + 1) * 400 ≤ 140737488355327) := Lib.hid (by omega)
  have O := Lib.hid h
  have n1 : ¬ ((1 : Int) = 0) := by decide
  by_cases hil : i = xs.length
  · subst hil
    have NL : Hid ((xs.take xs.length ++ y :: xs.drop xs.length) = xs ++ [y]) := Lib.hid (by simp)
    have e1 : (((xs.length : Int) == (xs.length : Int)) : Bool) = true := by simp
    clear h hi hn hv hne
    go_enter Tryz.func79, Tryz.ntmps79
    go_wp2_with (at_builtin; refine wpList_appK (R := enTy) rfl (.tmp 23) (.tmp 24) rfl rfl (A := A) (n := xs.length) (m := 1) (c := c) (d := 1) (xs := xs) (ys := [y]) O.out rfl rfl XR.out HN.out ?_; intro A9 c9 w9 o9 g9 e9)
    all_goals (
      have O9 := Lib.hid o9
      have E9 := Lib.hid e9
      have G9 := Lib.hid ((Chg.refl (blkOf A) w).grown g9 (fun i hi => by rcases A with _ | a; (· simp at hi); (· simp at hi; subst hi; exact .inl (mem_blkOf rfl))))
      clear o9 g9 e9
      go_wp2
      go_ret
      refine ⟨A9, c9, rfl, (by first | exact O9.out | (rw [NL.out]; exact O9.out)), (fun a ha => E9.out.elim (fun q => .inl (q ▸ ha)) (fun q => .inr (by rw [q] at ha; cases ha; exact Nat.le_refl _))), G9.out⟩)
  · obtain ⟨g, full, rfl, hg, hfl, hcm, hnc, hft⟩ : ∃ (g : Nat) (full : List EnT), A = some ⟨g, 0, none⟩ ∧ w.heap[g]? = some (.cells (enTy.flat full).toArray 55 (0, 0)) ∧ full.length = c ∧ c ≤ maxLen ∧ xs.length ≤ c ∧ full.take xs.length = xs := by
      rcases h with ⟨_, q, _⟩ | q
      · subst q
        have : i = 0 := by simpa using hi
        exact absurd this hil
      · exact q
    have k7 : enTy.k = 4 := rfl
    have gv : g ≠ vb := hne _ rfl
    have lg := lt_of_heap hg
    have lv := lt_of_heap hv
    have i0 : (0 : Int) ≤ (i : Int) := by omega
    have i1 : (i : Int) ≤ (xs.length : Int) := by omega
    have i2 : i ≤ xs.length := hi
    have e1 : (((i : Int) == (xs.length : Int)) : Bool) = false := by simp; omega
    have e2 : ¬ (i : Int) = (xs.length : Int) := by omega
    have w1 : IntKind.i64.wrap ((xs.length : Int) + 1) = ((xs.length + 1 : Nat) : Int) := by rw [IntWalk.i64_in _ (by omega)]; omega
    have w2 : IntKind.i64.wrap ((i : Int) + 1) = ((i + 1 : Nat) : Int) := by rw [IntWalk.i64_in _ (by omega)]; omega
    have DR : Hid (RdK enTy w (some ⟨g, i * 4, none⟩) (xs.length - i) (xs.drop i)) := Lib.hid (by
      have q := (h.reads).part i (xs.length - i) (by omega)
      rw [List.take_of_length_le (by rw [List.length_drop]; omega), Nat.zero_add] at q
      exact q)
    by_cases hr : xs.length + 1 ≤ c
    · have HOV : ∀ lb cb, (callFunc 108 #[.slice (some ⟨vb, 0, none⟩) 1 1, .slice (some ⟨g, (i + 1) * 4, none⟩) lb cb]).run Tryz.prog w = .ok (.value (.bool false)) w := fun lb cb => by
        have ho := run_overlaps_apart (P := Tryz.prog) w 22 4 55 Tryz.underlying22 4 (fun w => by first | rfl | kernel_rfl) ⟨vb, 0, none⟩ ⟨g, (i + 1) * 4, none⟩ 1 1 lb cb (fun e => gv e.symm) 55 55 4 (c * 4) (by simp [World.shape?, hv]) (by simp [World.shape?, hg, enTy.flat_len, hfl, k7]) (by omega) (by simp [World.frozen?, hv]) (by simp [World.frozen?, hv])
        rw [run_callFunc_extern (e := Extern.SlicesOverlaps.overlaps #[22, 22] #[4]) Tryz.func108 (by kernel_rfl) (by kernel_rfl) (by kernel_rfl) (by kernel_rfl), ho]
        rfl
      have b1 : (0 : Int) ≤ ((xs.length + 1 : Nat) : Int) := by omega
      have b2 : ((xs.length + 1 : Nat) : Int) ≤ (c : Int) := by omega
      have b3 : xs.length + 1 ≤ c := by omega
      have b4 : ((i + 1 : Nat) : Int) ≤ ((xs.length + 1 : Nat) : Int) := by omega
      have b5 : i + 1 ≤ xs.length + 1 := by omega
      have b6 : ¬ c = i + 1 := by omega
      have b7 : ¬ c = i := by omega
      have b8 : (0 : Int) ≤ ((i + 1 : Nat) : Int) := by omega
      have b9 : ¬ (c : Int) < ((xs.length + 1 : Nat) : Int) := by omega
      have b10 : (i : Int) ≤ ((xs.length + 1 : Nat) : Int) := by omega
      have b11 : i ≤ xs.length + 1 := by omega
      have b12 : (0 : Int) ≤ (i : Int) + 1 := by omega
      have b13 : (i : Int) + 1 ≤ (xs.length : Int) + 1 := by omega
      have b14 : (i : Int) ≤ (xs.length : Int) + 1 := by omega
      have FG := Lib.hid hg
      have FL := Lib.hid hfl
      have FC := Lib.hid hcm
      have FN := Lib.hid hnc
      have FT := Lib.hid hft
      have VB := Lib.hid hv
      have GV := Lib.hid gv
      clear h hi hn hv hne hg hfl hcm hnc hft gv lg lv O
      go_enter Tryz.func79, Tryz.ntmps79
      go_upto_region 14 with fail
      go_wp2_with (simp only [HOV])
      clear HOV
      obtain ⟨F1, hF1⟩ : ∃ F1, F1 = full.take (i + 1) ++ xs.drop i ++ full.drop (i + 1 + (xs.drop i).length) := ⟨_, rfl⟩
      have HCP : ∀ W, Chg [] w W → ∀ ty dc sc, (Builtin.copy_ #[22, 22] ty #[.slice (some ⟨g, (i + 1) * 4, none⟩) (xs.length - i) dc, .slice (some ⟨g, i * 4, none⟩) (xs.length + 1 - i) sc]).run Tryz.prog W = .ok (goInt (xs.drop i).length) (W.setRow g (enTy.flat F1).toArray) := fun W hW ty dc sc => by
        have q := run_copyK (R := enTy) W ty (g := g) (off := i + 1) (dLen := xs.length - i) (dCap := dc) (sLen := xs.length + 1 - i) (sCap := sc) (B := some ⟨g, i * 4, none⟩) (ys := xs.drop i) (full := full) (hW.at_ FG.out (by simp)) (by have := DR.out.chg hW (by simp); rw [List.length_drop]; exact this) (by rw [List.length_drop]; simp only [Nat.min_def]; split <;> omega) (by rw [List.length_drop, FL.out]; omega)
        rw [← hF1] at q
        exact q
      have L1 : Hid (F1.length = c) := Lib.hid (by rw [hF1]; have := FL.out; simp; omega)
      have HC2 : ∀ W, W.heap[g]? = some (.cells (enTy.flat F1).toArray 55 (0, 0)) → RdK enTy W (some ⟨vb, 0, none⟩) 1 [y] → ∀ ty dc, (Builtin.copy_ #[22, 22] ty #[.slice (some ⟨g, i * 4, none⟩) (xs.length + 1 - i) dc, .slice (some ⟨vb, 0, none⟩) 1 1]).run Tryz.prog W = .ok (goInt ([y] : List EnT).length) (W.setRow g (enTy.flat (F1.take i ++ [y] ++ F1.drop (i + [y].length))).toArray) := fun W hg hv ty dc =>
        run_copyK (R := enTy) W ty (g := g) (off := i) (dLen := xs.length + 1 - i) (dCap := dc) (sLen := 1) (sCap := 1) (B := some ⟨vb, 0, none⟩) (ys := [y]) (full := F1) hg hv (by simp only [Nat.min_def, List.length_singleton]; split <;> omega) (by rw [L1.out]; simp; omega)
      have FIN : Hid ((F1.take i ++ [y] ++ F1.drop (i + [y].length)).take (xs.take i ++ y :: xs.drop i).length = xs.take i ++ y :: xs.drop i) := Lib.hid (by rw [hF1]; exact ins_rowN1 FT.out (by omega))
      have LNI : Hid ((xs.take i ++ y :: xs.drop i).length = xs.length + 1) := Lib.hid (by simp; omega)
      obtain ⟨F2, hF2⟩ : ∃ F2, F2 = F1.take i ++ [y] ++ F1.drop (i + [y].length) := ⟨_, rfl⟩
      have L2 : Hid (F2.length = c) := Lib.hid (by rw [hF2]; have := L1.out; simp; omega)
      rw [← hF2] at FIN
      simp only [← hF2] at HC2
      clear hF1 hF2

      refine wp_region_held_drew (S := fun w' => True) (by kernel_rfl) trivial (fun hHeld => ?_)
      have hHeld := trivial
      refine sy 0 69 rfl rfl ?_ (hS := trivial)
      try simp only [Act.put, sA, s0, s1]
      refine sy 1 70 rfl rfl ?_ (hS := trivial)
      try simp only [Act.put, sA, s0, s1]
      refine sy 2 71 rfl rfl ?_ (hS := trivial)
      try simp only [Act.put, sA, s0, s1]
      refine sy 3 72 rfl rfl ?_ (hS := trivial)
      try simp only [Act.put, sA, s0, s1]
      refine sy 4 73 rfl rfl ?_ (hS := trivial)
      try simp only [Act.put, sA, s0, s1]
      refine sy 5 74 rfl rfl ?_ (hS := trivial)
      try simp only [Act.put, sA, s0, s1]
      refine sy 6 75 rfl rfl ?_ (hS := trivial)
      try simp only [Act.put, sA, s0, s1]
      refine sy 7 76 rfl rfl ?_ (hS := trivial)
      try simp only [Act.put, sA, s0, s1]
      refine wpAnyH_ready (rs := [8]) (by kernel_rfl) (by simp) ?_
      refine AllReadyH.cons rfl (fun K hK => ?_) AllReadyH.nil
      replace hK := Lib.hid hK
      refine step_copyR rfl (.tmp 73) (.tmp 76) 22 22 rfl (.slice (some ⟨g, (i + 1) * 4, none⟩) (xs.length - i) (c - (i + 1))) (.slice (some ⟨g, i * 4, none⟩) (xs.length + 1 - i) (c - i)) rfl rfl (HCP _ ((Chg.refl [] w).drew) _ _ _) ?_
      go_simp
      have K1 := setRow_heap w.drew g _ (enTy.flat F1).toArray _ _ (((Chg.refl [] w).drew).at_ FG.out (by simp))
      have C1 : Chg [g] w (w.drew.setRow g (enTy.flat F1).toArray) := ((Chg.refl [] w).drew.mono (by simp)).trans ⟨rfl, rfl, rfl, by simp, fun j hj hn => setRow_other w.drew g j _ (by simpa using hn)⟩
      generalize w.drew.setRow g (enTy.flat F1).toArray = w2 at *
      refine hK.out _ _ trivial (fun hHeld => ?_)
      clear hK K
      try simp only [Act.put, sA, s0, s1]
      refine wpAnyH_done (by kernel_rfl) ?_ _
      clear hHeld HCP
      have V2 : RdK enTy w2 (some ⟨vb, 0, none⟩) 1 [y] := XR.out.chg C1 (fun a ha => by cases ha; simpa using fun e => GV.out e.symm)
      have HC3 := HC2 w2 K1 V2
      have K2 := Lib.hid (setRow_heap w2 g _ (enTy.flat F2).toArray _ _ K1)
      have C2 : Hid (Chg [g] w (w2.setRow g (enTy.flat F2).toArray)) := Lib.hid (C1.trans ⟨rfl, rfl, rfl, by simp, fun j hj hn => setRow_other w2 g j _ (by simpa using hn)⟩)
      have C1H := Lib.hid C1
      clear HC2 K1 V2 C1
      go_wp2_with (first | (at_builtin; refine wpList_copyR _ rfl (.tmp 80) (.tmp 81) 22 22 rfl (.slice (some ⟨g, i * 4, none⟩) (xs.length + 1 - i) (c - i)) (.slice (some ⟨vb, 0, none⟩) 1 1) rfl rfl (HC3 _ _) ?_) | (with_reducible refine wpList_copyR _ rfl (.tmp 80) (.tmp 81) 22 22 rfl (.slice (some ⟨g, i * 4, none⟩) (xs.length + 1 - i) (c - i)) (.slice (some ⟨vb, 0, none⟩) 1 1) rfl rfl (HC3 _ _) ?_))
      go_ret
      refine ⟨some ⟨g, 0, none⟩, c, rfl, OwnK.of K2.out (by rw [LNI.out]; exact b3) FC.out L2.out FIN.out, fun a ha => .inl ha, C2.out.mono (by simp [blkOf])⟩
    · obtain ⟨i0', hi0, hz0, hz1, hz2⟩ := info_parts enTy.info
      have HRZ0 := run_append_grow_zeros (P := Tryz.prog) w 22 3 0 55 i0' enTy.zv .i64 .i64 enTy.under (by first | rfl | kernel_rfl) hi0 hz0 (some ⟨g, 0, none⟩) i c (enTy.flat (xs.take i)) (run_firstCells_some (P := Tryz.prog) w.drew i0'.size i ⟨g, 0, none⟩ i c (enTy.flat (xs.take i)) (by rw [hz1, enTy.flat_len, List.length_take, Nat.min_eq_left (by omega)]) (fun j v hj => by
        have q := ((h.take i).chg (Chg.refl [] w).drew (by simp)).reads.cells j v hj
        obtain ⟨a, e, q⟩ := q
        cases e
        exact q)) (xs.length + 1 - i) (by omega) (by rw [hz1, k7]; omega) (by omega) (by omega) (by rw [hz2]; have : enTy.bytes ≤ 200 := enTy.bpos; have := Nat.mul_le_mul_left (xs.length + 1 - i) this; omega) (growslice_fits (by omega) (by rw [hz2]; have : enTy.bytes ≤ 200 := enTy.bpos; have := Nat.mul_le_mul_left (i + (xs.length + 1 - i)) this; omega))
      rw [show i + (xs.length + 1 - i) = xs.length + 1 by omega] at HRZ0
      obtain ⟨G, hG⟩ : ∃ G, G = grownCap w (xs.length + 1) c 55 := ⟨_, rfl⟩
      have GE : xs.length + 1 ≤ G := by rw [hG]; exact grownCap_ge w _ _ _
      have GM : G ≤ maxLen := by rw [hG]; exact grownCap_le_maxLen w _ _ _ (by unfold maxLen; omega)
      obtain ⟨R, hR⟩ : ∃ R, R = List.replicate (xs.length + 1 - i) enTy.z ++ List.replicate (G - (xs.length + 1)) enTy.z := ⟨_, rfl⟩
      have LR : xs.length + 1 - i ≤ R.length := by rw [hR]; simp
      have hrow : (enTy.flat (xs.take i)).toArray ++ Builtin.zeroCells enTy.zv.cells (xs.length + 1 - i) ++ Builtin.zeroCells enTy.zv.cells (G - (xs.length + 1)) = (enTy.flat (xs.take i ++ R)).toArray := by
        rw [hR, enTy.zeros, enTy.zeros, enTy.flat_app, enTy.flat_app]
        simp
      rw [← hG, hrow] at HRZ0
      have L0 : (xs.take i ++ R).length = G := by rw [hR]; simp; omega
      have hwr : IntKind.i64.wrap ((((xs.length + 1 : Nat) : Int)) - (i : Int)) = ((xs.length + 1 - i : Nat) : Int) := by rw [IntWalk.i64_in _ (by omega)]; omega
      have hwr2 : IntKind.i64.wrap ((xs.length : Int) + 1 - (i : Int)) = ((xs.length + 1 - i : Nat) : Int) := by rw [IntWalk.i64_in _ (by omega)]; omega
      have HRZ : ∀ ty, (Builtin.append_ #[22, 3] ty #[.slice (some ⟨g, 0, none⟩) i c, .int .i64 ((xs.length + 1 - i : Nat) : Int)]).run Tryz.prog w = .ok (.slice (some ⟨w.heap.size, 0, none⟩) (xs.length + 1) G) (w.drew.alloc (.cells (enTy.flat (xs.take i ++ R)).toArray 55)) := fun ty => HRZ0
      clear HRZ0 hrow hG hR hi0 hz0 hz1 hz2
      obtain ⟨w1, hw1, c1, q1⟩ : ∃ w1, w.drew.alloc (.cells (enTy.flat (xs.take i ++ R)).toArray 55) = w1 ∧ Chg [] w w1 ∧ w1.heap[w.heap.size]? = some (.cells (enTy.flat (xs.take i ++ R)).toArray 55 (0, 0)) := ⟨_, rfl, (Chg.refl [] w).drew.alloc _, heap_alloc_new w.drew _⟩
      simp only [hw1] at HRZ
      obtain ⟨g2, hg2⟩ : ∃ g2, w.heap.size = g2 := ⟨_, rfl⟩
      rw [hg2] at q1
      simp only [hg2] at HRZ
      have G2 : g2 ≠ g := by omega
      have G3 : g2 ≠ vb := by omega
      obtain ⟨F1, hF1⟩ : ∃ F1, F1 = (xs.take i ++ R).take i ++ [y] ++ (xs.take i ++ R).drop (i + [y].length) := ⟨_, rfl⟩
      obtain ⟨F2, hF2⟩ : ∃ F2, F2 = F1.take (i + 1) ++ xs.drop i ++ F1.drop (i + 1 + (xs.drop i).length) := ⟨_, rfl⟩
      have L1 : F1.length = G := by rw [hF1]; simp at L0 ⊢; omega
      have L2 : F2.length = G := by rw [hF2]; simp; omega
      have HC1 : ∀ ty dc, (Builtin.copy_ #[22, 22] ty #[.slice (some ⟨g2, i * 4, none⟩) (xs.length + 1 - i) dc, .slice (some ⟨vb, 0, none⟩) 1 1]).run Tryz.prog w1 = .ok (goInt ([y] : List EnT).length) (w1.setRow g2 (enTy.flat F1).toArray) := fun ty dc => by
        have q := run_copyK (R := enTy) w1 ty (g := g2) (off := i) (dLen := xs.length + 1 - i) (dCap := dc) (sLen := 1) (sCap := 1) (B := some ⟨vb, 0, none⟩) (ys := [y]) (full := xs.take i ++ R) q1 (XR.out.chg c1 (by simp)) (by simp only [Nat.min_def, List.length_singleton]; split <;> omega) (by rw [L0]; simp; omega)
        rw [← hF1] at q
        exact q
      have k1 := setRow_heap w1 g2 _ (enTy.flat F1).toArray _ _ q1
      have C1 : Chg [g2] w1 (w1.setRow g2 (enTy.flat F1).toArray) := ⟨rfl, rfl, rfl, by simp, fun j hj hn => setRow_other w1 g2 j _ (by simpa using hn)⟩
      generalize w1.setRow g2 (enTy.flat F1).toArray = w2 at *
      have HC2 : ∀ W, Chg [] w2 W → ∀ ty dc sc, (Builtin.copy_ #[22, 22] ty #[.slice (some ⟨g2, (i + 1) * 4, none⟩) (xs.length - i) dc, .slice (some ⟨g, i * 4, none⟩) (xs.length - i) sc]).run Tryz.prog W = .ok (goInt (xs.drop i).length) (W.setRow g2 (enTy.flat F2).toArray) := fun W hW ty dc sc => by
        have q := run_copyK (R := enTy) W ty (g := g2) (off := i + 1) (dLen := xs.length - i) (dCap := dc) (sLen := xs.length - i) (sCap := sc) (B := some ⟨g, i * 4, none⟩) (ys := xs.drop i) (full := F1) (hW.at_ k1 (by simp)) (by have := ((DR.out.chg c1 (by simp)).chg C1 (fun a ha => by cases ha; simpa using fun e => G2 e.symm)).chg hW (by simp); rw [List.length_drop]; exact this) (by rw [List.length_drop]; simp only [Nat.min_def]; split <;> omega) (by rw [List.length_drop, L1]; omega)
        rw [← hF2] at q
        exact q
      have FIN : Hid (F2.take (xs.take i ++ y :: xs.drop i).length = xs.take i ++ y :: xs.drop i) := Lib.hid (by rw [hF2, hF1]; exact ins_rowN2 (by omega) LR)
      have LNI : Hid ((xs.take i ++ y :: xs.drop i).length = xs.length + 1) := Lib.hid (by simp; omega)
      have K1 := Lib.hid k1
      have L2H := Lib.hid L2
      have C12 : Hid (Chg [g2] w w2) := Lib.hid ((c1.mono (by simp)).trans C1)
      have HG2 := Lib.hid hg2
      have GMH := Lib.hid GM
      have b1 : (0 : Int) ≤ (i : Int) + 1 := by omega
      have b2 : (i : Int) + 1 ≤ (xs.length : Int) + 1 := by omega
      have b3 : (i : Int) ≤ (xs.length : Int) + 1 := by omega
      have b4 : (c : Int) < ((xs.length + 1 : Nat) : Int) := by omega
      have b5 : (c : Int) < (xs.length : Int) + 1 := by omega
      have b6 : ¬ c = i := by omega
      have b7 : ¬ G = i := by omega
      have b8 : ¬ G = i + 1 := by omega
      have b9 : i ≤ c := by omega
      have b10 : (i : Int) ≤ (c : Int) := by omega
      clear hF1 hF2 k1 C1 c1 q1 hw1 hg2 GM L0 L1 L2 LR h hi hn hv hne hg hfl hcm hft gv lg lv O G2 G3 hwr
      go_enter Tryz.func79, Tryz.ntmps79
      go_wp2_with (first | (at_builtin; refine wpList_append_run _ rfl (.tmp 34) (.tmp 39) 22 3 rfl _ _ rfl rfl _ _ (HRZ _) ?_) | (at_builtin; refine wpList_copyR _ rfl (.tmp 43) (.tmp 44) 22 22 rfl (.slice (some ⟨g2, i * 4, none⟩) (xs.length + 1 - i) (G - i)) (.slice (some ⟨vb, 0, none⟩) 1 1) rfl rfl (HC1 _ _) ?_))
      clear HRZ HC1
      refine wp_region_held_drew (S := fun w' => True) (by kernel_rfl) trivial (fun hHeld => ?_)
      have hHeld := trivial
      refine sy 0 46 rfl rfl ?_ (hS := trivial)
      try simp only [Act.put, sA, s0, s1]
      refine sy 1 47 rfl rfl ?_ (hS := trivial)
      try simp only [Act.put, sA, s0, s1]
      refine sy 2 48 rfl rfl ?_ (hS := trivial)
      try simp only [Act.put, sA, s0, s1]
      refine sy 3 49 rfl rfl ?_ (hS := trivial)
      try simp only [Act.put, sA, s0, s1]
      refine sy 4 50 rfl rfl ?_ (hS := trivial)
      try simp only [Act.put, sA, s0, s1]
      refine sy 5 51 rfl rfl ?_ (hS := trivial)
      try simp only [Act.put, sA, s0, s1]
      refine sy 6 52 rfl rfl ?_ (hS := trivial)
      try simp only [Act.put, sA, s0, s1]
      refine sy 7 53 rfl rfl ?_ (hS := trivial)
      try simp only [Act.put, sA, s0, s1]
      refine wpAnyH_ready (rs := [8]) (by kernel_rfl) (by simp) ?_
      refine AllReadyH.cons rfl (fun K hK => ?_) AllReadyH.nil
      replace hK := Lib.hid hK
      refine step_copyR rfl (.tmp 50) (.tmp 53) 22 22 rfl (.slice (some ⟨g2, (i + 1) * 4, none⟩) (xs.length - i) (G - (i + 1))) (.slice (some ⟨g, i * 4, none⟩) (xs.length - i) (c - i)) rfl rfl (HC2 _ ((Chg.refl [] w2).drew) _ _ _) ?_
      go_simp
      have K2 := setRow_heap w2.drew g2 _ (enTy.flat F2).toArray _ _ (((Chg.refl [] w2).drew).at_ K1.out (by simp))
      have C2 : Chg [g2] w (w2.drew.setRow g2 (enTy.flat F2).toArray) := (C12.out.trans ((Chg.refl [] w2).drew.mono (by simp))).trans ⟨rfl, rfl, rfl, by simp, fun j hj hn => setRow_other w2.drew g2 j _ (by simpa using hn)⟩
      generalize w2.drew.setRow g2 (enTy.flat F2).toArray = w3 at *
      refine hK.out _ _ trivial (fun hHeld => ?_)
      clear hK K
      try simp only [Act.put, sA, s0, s1]
      refine wpAnyH_done (by kernel_rfl) ?_ _
      clear hHeld HC2
      have K3 := Lib.hid K2
      have C3 := Lib.hid C2
      have GEH := Lib.hid GE
      clear K2 C2 C12 K1
      go_wp2
      go_ret
      refine ⟨some ⟨g2, 0, none⟩, G, rfl, OwnK.of K3.out (by rw [LNI.out]; exact GEH.out) GMH.out L2H.out FIN.out, fun a ha => .inr (by cases ha; rw [HG2.out]; exact Nat.le_refl _), ((Chg.refl [] w).trans' C3.out (fun j hj => by simp at hj; subst hj; exact .inr (by rw [← HG2.out]; exact Nat.le_refl _))).mono (by simp)⟩
end
section
open Go.RowKit Go.Lib
set_option linter.unusedSimpArgs false
set_option linter.unusedVariables false

/-- Its size in memory: what the walks want. -/
def EnSm (e : EnP) : Prop := e.p.length ≤ 10000000 ∧ e.b.length ≤ 140737488351232
theorem below_chgN {w w' : World} (h : Below w.heap.size w w') : Chg [] w w' := Chg.ofBelow h (by omega) []
set_option maxRecDepth 100000 in
set_option maxHeartbeats 4000000 in
theorem tbstands_any (w : World) (x : EnT) (e : EnP) (h : EnR w x e) (hs : EnSm e) :
    Calls Tryz.prog 42 #[.agg #[.string x.p, .int .i64 x.k, .int .i64 x.m, .slice x.A x.l x.c]] w fun r w' => r = .returned (.bool (decide (Stands e))) ∧ Chg [] w w' := by
  obtain ⟨w1, hw, hc, b0⟩ := news1 w (.cells #[.string x.p, .int .i64 x.k, .int .i64 x.m, .slice x.A x.l x.c] 55)
  have W1 := Lib.hid hw
  have C := Lib.hid hc
  have B0 := Lib.hid b0
  have PC : Hid (∀ w', Calls Tryz.prog 71 #[.string x.p] w' fun r w2 => r = .returned (.int .i64 (if checkL 6 12 e.p then 0 else 2)) ∧ Chg [] w' w2) := Lib.hid (fun w' => by
    rw [h.p]
    exact (phcheck_any w' e.p (by have := hs.1; omega)).mono fun r w2 ⟨a, b⟩ => ⟨a, below_chgN b⟩)
  have EC : Hid (∀ w', Calls Tryz.prog 84 #[.agg #[.int .i64 x.k, .int .i64 x.m, .slice x.A x.l x.c]] w' fun r w2 => r = .returned (.int .i64 (chkE e.k e.m e.b.length)) ∧ Chg [] w' w2) := Lib.hid (fun w' => by
    have q := check_any w' x.k x.m x.A x.l x.c (by rw [h.l]; exact hs.2)
    rw [h.k, h.m, h.l] at q
    rw [h.k, h.m, h.l]
    exact q)
  have KE : Hid (x.k = e.k) := Lib.hid h.k
  generalize hv : decide (Stands e) = v
  have HV := Lib.hid hv
  clear hv hw hc b0 h hs
  go_enter Tryz.func42, Tryz.ntmps42
  go_upto_region 1 with fail
  rw [← W1.out]
  generalize w.heap.size = g0 at *
  clear W1
  have z0 := cell_of B0.out 0
  have z1 := cell_of B0.out 1
  have z2 := cell_of B0.out 2
  have z3 := cell_of B0.out 3
  simp only [List.getElem?_toArray, List.getElem?_cons_succ, List.getElem?_cons_zero] at z0 z1 z2 z3
  go_wp2_with fail
  refine (PC.out w1).mono ?_
  rintro r w2 ⟨rfl, hc⟩
  replace B0 := Lib.hid (hc.at_ B0.out (by simp))
  replace C := Lib.hid (C.out.trans hc)
  clear z0 z1 z2 z3
  clear hc PC
  by_cases hp : checkL 6 12 e.p = true
  rotate_left
  · obtain rfl : v = false := by rw [← HV.out]; exact decide_eq_false (fun q => hp q.1)
    rw [if_neg hp]
    clear hp HV
    go_wp2
    go_ret
    exact ⟨rfl, C.out⟩
  rw [if_pos hp]
  have HP : Hid (okP e.p = true) := Lib.hid hp
  clear hp
  have z0 := cell_of B0.out 0
  have z1 := cell_of B0.out 1
  have z2 := cell_of B0.out 2
  have z3 := cell_of B0.out 3
  simp only [List.getElem?_toArray, List.getElem?_cons_succ, List.getElem?_cons_zero] at z0 z1 z2 z3
  go_wp2_with fail
  refine (EC.out w2).mono ?_
  rintro r w3 ⟨rfl, hc⟩
  replace B0 := Lib.hid (hc.at_ B0.out (by simp))
  replace C := Lib.hid (C.out.trans hc)
  clear z0 z1 z2 z3
  clear hc EC
  by_cases he : chkE e.k e.m e.b.length = 0
  rotate_left
  · obtain rfl : v = false := by rw [← HV.out]; exact decide_eq_false (fun q => he q.2.1)
    have h1 : ((chkE e.k e.m e.b.length == 0) : Bool) = false := by simpa using he
    have h2 : decide (chkE e.k e.m e.b.length = 0) = false := decide_eq_false he
    clear HV
    go_wp2
    go_ret
    exact ⟨rfl, C.out⟩
  rw [he]
  have HE := Lib.hid he
  clear he
  have z0 := cell_of B0.out 0
  have z1 := cell_of B0.out 1
  have z2 := cell_of B0.out 2
  have z3 := cell_of B0.out 3
  simp only [List.getElem?_toArray, List.getElem?_cons_succ, List.getElem?_cons_zero] at z0 z1 z2 z3
  by_cases hk : x.k = 3
  · obtain rfl : v = false := by rw [← HV.out]; exact decide_eq_false (fun q => q.2.2 (by rw [← KE.out]; exact hk))
    have h1 : ((x.k == 3) : Bool) = true := by simpa using hk
    have h2 : ((x.k != 3) : Bool) = false := by unfold bne; rw [h1]; rfl
    clear HV hk
    go_wp2
    go_ret
    exact ⟨rfl, C.out⟩
  · obtain rfl : v = true := by rw [← HV.out]; exact decide_eq_true ⟨HP.out, HE.out, fun q => hk (by rw [KE.out]; exact q)⟩
    have h1 : ((x.k == 3) : Bool) = false := by simpa using hk
    have h2 : ((x.k != 3) : Bool) = true := by unfold bne; rw [h1]; rfl
    clear HV hk
    go_wp2
    go_ret
    exact ⟨rfl, C.out⟩
end
section
open Go.RowKit Go.Lib
set_option linter.unusedSimpArgs false
set_option linter.unusedVariables false

theorem getElem?_of_drop {α : Type} {xs ys : List α} {k i : Nat} (h : xs.drop k = ys.drop k) (hi : k ≤ i) : xs[i]? = ys[i]? := by
  have := congrArg (fun l => l[i - k]?) h
  simpa [List.getElem?_drop, Nat.add_sub_cancel' hi] using this
/-- So much is changed. -/
def Within (lo hi : Nat) (w w' : World) : Prop := ∃ S : List Nat, (∀ i ∈ S, lo ≤ i ∧ i < hi) ∧ Chg S w w'
theorem Within.refl (lo hi : Nat) (w : World) : Within lo hi w w := ⟨[], by simp, Chg.refl _ _⟩
theorem Within.more {lo hi : Nat} {w w1 w2 : World} {S : List Nat} (h : Within lo hi w w1) (hS : ∀ i ∈ S, lo ≤ i ∧ i < hi) (hc : Chg S w1 w2) : Within lo hi w w2 := by
  obtain ⟨T, hT, hw⟩ := h
  exact ⟨T ++ S, fun i hi => (List.mem_append.1 hi).elim (fun q => hT i q) (fun q => hS i q), (hw.mono (S' := T ++ S) (fun i hi => .inl (List.mem_append_left _ hi))).trans (hc.mono (S' := T ++ S) (fun i hi => .inl (List.mem_append_right _ hi)))⟩
end
section
open Go.RowKit Go.Lib
set_option linter.unusedSimpArgs false
set_option linter.unusedVariables false

/-- What a search by a func tells: the first of which it is so; -1: none. -/
def IdxN (es : List EnP) (p : EnP → Bool) (v : Int) : Prop := (v = -1 ∧ ∀ e ∈ es, p e = false) ∨ ∃ (k : Nat) (e : EnP), v = k ∧ es[k]? = some e ∧ p e = true ∧ ∀ e ∈ es.take k, p e = false
theorem IdxN.any {es : List EnP} {p : EnP → Bool} {v : Int} (h : IdxN es p v) : es.any p = decide (0 ≤ v) := by
  rcases h with ⟨rfl, h⟩ | ⟨k, e, rfl, hk, hp, _⟩
  · rw [List.any_eq_false.2 (fun e he => by rw [h e he]; decide)]
    rfl
  · rw [List.any_eq_true.2 ⟨e, List.mem_of_getElem? hk, hp⟩]
    exact (decide_eq_true (by omega)).symm
theorem all_take_noN {es : List EnP} {p : EnP → Bool} {k : Nat} {e : EnP} (h : ∀ e ∈ es.take k, p e = false) (hk : es[k]? = some e) (he : p e = false) : ∀ e ∈ es.take (k + 1), p e = false := by
  intro x hx
  rw [List.take_add_one, hk] at hx
  rcases List.mem_append.1 hx with q | q
  · exact h x q
  · simp at q
    subst q
    exact he

theorem run_clearN (w : World) (ty : TypeId) (g c n k : Nat) (full : List EnT) (hg : w.heap[g]? = some (.cells (enTy.flat full).toArray 55 (0, 0))) (hl : full.length = c) (hn : n ≤ c) (hk : k < n) :
    (Builtin.clear_ #[22] ty #[.slice (some ⟨g, k * 4, none⟩) (n - k) (c - k)]).run Tryz.prog w = .ok (.tuple #[]) (w.setRow g (enTy.flat (full.take k ++ List.replicate (n - k) enTy.z ++ full.drop n)).toArray) := by
  have hz := enTy.zeros (n - k)
  have hk2 : enTy.k = 4 := rfl
  have hlen : (enTy.flat full).length = full.length * 4 := enTy.flat_len full
  have hlz : (enTy.flat (List.replicate (n - k) enTy.z)).length = (n - k) * 4 := by rw [enTy.flat_len, List.length_replicate, hk2]
  have hst := run_storeCells_at (P := Tryz.prog) g (k * 4) 55 (enTy.flat (List.replicate (n - k) enTy.z)) 0 _ w hg (by rw [hlz, List.size_toArray, hlen]; omega) (enTy.flat_one _)
  have ht := enTy.flat_take full k
  have hd := enTy.flat_drop full n
  rw [hk2] at ht hd
  have hfin : ((enTy.flat full).toArray.toList.take (k * 4 + 0) ++ enTy.flat (List.replicate (n - k) enTy.z) ++ (enTy.flat full).toArray.toList.drop (k * 4 + 0 + (enTy.flat (List.replicate (n - k) enTy.z)).length)) = enTy.flat (full.take k ++ List.replicate (n - k) enTy.z ++ full.drop n) := by
    rw [enTy.flat_app, enTy.flat_app, ht, hd, hlz, show k * 4 + 0 + (n - k) * 4 = n * 4 by omega]
    rfl
  rw [hfin] at hst
  obtain ⟨m, hm⟩ : ∃ m, n - k = m + 1 := ⟨n - k - 1, by omega⟩
  have hzv : ∀ w, (zeroValue 55).run Tryz.prog w = .ok (.agg #[.string ⟨#[]⟩, .int .i64 0, .int .i64 0, .slice none 0 0]) w := Tryz.zeroValue55
  have hzz : (Builtin.zeroCells (Value.agg #[.string ⟨#[]⟩, .int .i64 0, .int .i64 0, .slice none 0 0]).cells (n - k)).toList = enTy.flat (List.replicate (n - k) enTy.z) := by
    exact (congrArg Array.toList hz).trans (by simp)
  rw [hm] at hst hzz ⊢
  simp [Builtin.clear_, run_underlying Tryz.underlying22, hzv, hzz, hst]
/-- Those that stay. -/
theorem filt_takeN {es : List EnP} {q : EnP → Bool} {k : Nat} {e : EnP} (he : es[k]? = some e) : (es.take (k + 1)).filter q = (es.take k).filter q ++ (if q e = true then [e] else []) := by
  rw [List.take_add_one, he, List.filter_append]
  cases h : q e <;> simp [h]
theorem take_set_nextN {α : Type} {zs : List α} {i : Nat} {x : α} (hi : i < zs.length) : (zs.set i x).take (i + 1) = zs.take i ++ [x] := by
  rw [List.take_add_one, List.getElem?_set, if_pos rfl, if_pos hi, List.take_set, List.set_eq_of_length_le (by rw [List.length_take]; omega)]
  rfl
set_option maxRecDepth 100000 in
set_option maxHeartbeats 4000000 in
theorem enfindex_any (w : World) (A : Option Addr) (c : Nat) (xs : List EnT) (es : List EnP) (gf : Nat) (lb : Array Value) (d : EnP → Bool) (eg : ∀ args w, (callFunc gf args).run Tryz.prog w = .ok (.enter gf args) w) (h : RdK enTy w A xs.length xs) (hx : EnsR w xs es) (hn : xs.length ≤ 100000) (hcall : ∀ (wr : World), Chg [] w wr → ∀ (i : Nat) (x : EnT) (e : EnP), xs[i]? = some x → es[i]? = some e → Calls Tryz.prog gf (#[.agg #[.string x.p, .int .i64 x.k, .int .i64 x.m, .slice x.A x.l x.c]] ++ lb) wr fun r w' => r = .returned (.bool (d e)) ∧ Chg [] wr w') :
    Calls Tryz.prog 81 #[.slice A xs.length c, .func (.func gf) #[] lb] w fun r w' => (∃ v : Int, r = .returned (.int .i64 v) ∧ IdxN es d v) ∧ Chg [] w w' := by
  have HA := Lib.hid h
  have HX := Lib.hid hx
  have HN := Lib.hid hn
  have HCALL := Lib.hid hcall
  have CLEARS : True := trivial
  clear CLEARS h hx hn hcall
  go_enter Tryz.func81, Tryz.ntmps81
  go_wp2
  go_loopw [5, 8] (fun v5 v8 wr => ∃ (k : Nat), k ≤ xs.length ∧ v8 = .int .i64 k ∧ Hid (∀ e ∈ es.take k, d e = false) ∧ Hid (Chg [] w wr)) (fun _ v8 _ => xs.length - (RowKit.intOf v8).toNat)
  case atStart => exact ⟨0, Nat.zero_le _, rfl, Lib.hid (by simp), Chg.refl _ _⟩
  case round =>
    obtain ⟨k, hk, rfl, FN_, RC⟩ := hrel
    have i0 : (0 : Int) ≤ (k : Int) := by omega
    by_cases hlt : k < xs.length
    · have i1 : (k : Int) < (xs.length : Int) := by omega
      have i3 : IntKind.i64.wrap ((k : Int) + 1) = (k : Int) + 1 := IntWalk.i64_in _ (by have := HN.out; omega)
      obtain ⟨x, e, ex, ee, rx⟩ := HX.out.at_ hlt
      obtain ⟨g, o, eA, _⟩ := HA.out.line (by omega)
      subst eA
      obtain ⟨z0, z1, z2, z3⟩ := enCells (HA.out.chg RC.out (by simp)) ex
      have EE := Lib.hid ee
      have CL := Lib.hid (HCALL.out wr RC.out _ x e ex ee)
      clear ex ee rx
      go_wp2_with fail
      refine CL.out.mono ?_
      rintro r w2 ⟨rfl, hc⟩
      have C2 := Lib.hid (RC.out.trans hc)
      clear hc CL z0 z1 z2 z3
      rcases hb : d e with _ | _
      · have FN1 := Lib.hid (all_take_noN FN_.out EE.out hb)
        clear hb FN_
        go_wp2
        go_round
        case rel => exact ⟨k + 1, by omega, by go_num, FN1, C2⟩
        case measure => simp [RowKit.intOf]; omega
      · have AN : Hid (IdxN es d (k : Int)) := Lib.hid (.inr ⟨k, e, rfl, EE.out, hb, FN_.out⟩)
        clear hb FN_
        go_wp2
        go_ret
        exact ⟨⟨k, rfl, AN.out⟩, C2.out⟩
    · obtain rfl : k = xs.length := by omega
      have ET : es.take xs.length = es := by rw [HX.out.1]; exact List.take_length
      rw [ET] at FN_
      clear ET
      have i1 : ¬ (xs.length : Int) < (xs.length : Int) := by omega
      go_wp2
      go_ret
      exact ⟨⟨-1, rfl, .inl ⟨rfl, FN_.out⟩⟩, RC.out⟩

set_option maxRecDepth 100000 in
set_option maxHeartbeats 4000000 in
theorem enfcontains_any (w : World) (A : Option Addr) (c : Nat) (xs : List EnT) (es : List EnP) (gf : Nat) (lb : Array Value) (d : EnP → Bool) (eg : ∀ args w, (callFunc gf args).run Tryz.prog w = .ok (.enter gf args) w) (h : RdK enTy w A xs.length xs) (hx : EnsR w xs es) (hn : xs.length ≤ 100000) (hcall : ∀ (wr : World), Chg [] w wr → ∀ (i : Nat) (x : EnT) (e : EnP), xs[i]? = some x → es[i]? = some e → Calls Tryz.prog gf (#[.agg #[.string x.p, .int .i64 x.k, .int .i64 x.m, .slice x.A x.l x.c]] ++ lb) wr fun r w' => r = .returned (.bool (d e)) ∧ Chg [] wr w') :
    Calls Tryz.prog 106 #[.slice A xs.length c, .func (.func gf) #[] lb] w fun r w' => r = .returned (.bool (es.any d)) ∧ Chg [] w w' := by
  have IX := Lib.hid (enfindex_any w A c xs es gf lb d eg h hx hn hcall)
  clear h hx hn hcall
  generalize hv : es.any d = v
  have HV := Lib.hid hv
  clear hv
  go_enter Tryz.func106, Tryz.ntmps106
  go_wp2_with fail
  refine IX.out.mono ?_
  rintro e w2 ⟨⟨u, rfl, hu⟩, hc⟩
  have C := Lib.hid hc
  have HU : Hid (decide ((0 : Int) ≤ u) = v) := Lib.hid (by rw [← HV.out]; exact hu.any.symm)
  clear hu hc
  go_wp2
  go_ret
  exact ⟨by rw [HU.out]; rfl, C.out⟩


theorem take_sub_next {α : Type} (l : List α) (k : Nat) : (l.take k).Sublist (l.take (k + 1)) := by
  have : l.take k = (l.take (k + 1)).take k := by rw [List.take_take, Nat.min_eq_left (Nat.le_succ k)]
  rw [this]
  exact List.take_sublist _ _
theorem zip_next {α β : Type} {l : List α} {m : List β} {j : Nat} {x : α} {e : β} (hx : l[j]? = some x) (he : m[j]? = some e) : (l.zip m).take (j + 1) = (l.zip m).take j ++ [(x, e)] := by
  rw [List.take_add_one, List.getElem?_zip_eq_some (z := (x, e)) |>.2 ⟨hx, he⟩]
  rfl
theorem take_zipN {α β : Type} (l : List α) (m : List β) (k : Nat) : (l.zip m).take k = (l.take k).zip (m.take k) := by
  rw [List.zip_eq_zipWith, List.zip_eq_zipWith, List.take_zipWith]
set_option maxRecDepth 100000 in
set_option maxHeartbeats 16000000 in
theorem enfdel_S (S0 : List Nat) (wb w0 w : World) (A : Option Addr) (c : Nat) (xs : List EnT) (es : List EnP) (gf : Nat) (lb : Array Value) (d : EnP → Bool) (eg : ∀ args w, (callFunc gf args).run Tryz.prog w = .ok (.enter gf args) w) (hxw : EnsR w xs es) (h0 : Chg S0 w0 w) (h : OwnK enTy w A c xs) (hA : ∀ a, A = some a → a.block ∈ S0 ∨ w0.heap.size ≤ a.block) (hx : EnsR wb xs es) (hn : xs.length ≤ 100000) (hcall : ∀ (wr : World), Chg S0 w0 wr → ∀ (i : Nat) (x : EnT) (e : EnP), xs[i]? = some x → es[i]? = some e → Calls Tryz.prog gf (#[.agg #[.string x.p, .int .i64 x.k, .int .i64 x.m, .slice x.A x.l x.c]] ++ lb) wr fun r w' => r = .returned (.bool (d e)) ∧ Chg [] wr w') :
    Calls Tryz.prog 49 #[.slice A xs.length c, .func (.func gf) #[] lb] w fun r w' => ∃ ys : List EnT, r = .returned (.slice A ys.length c) ∧ ys.length ≤ xs.length ∧ EnsR wb ys (es.filter (fun e => !d e)) ∧ (ys.zip (es.filter (fun e => !d e))).Sublist (xs.zip es) ∧ OwnK enTy w' A c ys ∧ Chg S0 w0 w' := by
  have IX := Lib.hid (enfindex_any w A c xs es gf lb d eg h.reads hxw hn (fun wr hc => hcall wr (h0.trans (hc.mono (by simp)))))
  have W1C := Lib.hid hcall
  have O0 := Lib.hid h
  have C0 := Lib.hid h0
  have NA := Lib.hid hA
  have HX := Lib.hid hx
  have HN := Lib.hid hn
  clear h h0 hxw hA hx hn hcall
  go_enter Tryz.func49, Tryz.ntmps49
  go_wp2_with fail
  refine IX.out.mono ?_
  rintro r w1 ⟨⟨v, rfl, hv⟩, hc⟩
  have C1 := Lib.hid (C0.out.trans (hc.mono (by simp)))
  have O1 := Lib.hid (O0.out.chg hc (by simp))
  clear hc O0 C0 IX
  rcases hv with ⟨rfl, no⟩ | ⟨k, e, rfl, ek, pk, nk⟩
  · have ES : Hid (es.filter (fun e => !d e) = es) := Lib.hid (List.filter_eq_self.2 (fun e he => by have q : d e = false := no e he; rw [q]; rfl))
    clear no
    go_wp2
    go_ret
    exact ⟨xs, rfl, Nat.le_refl _, by rw [ES.out]; exact HX.out, by rw [ES.out]; exact List.Sublist.refl _, O1.out, C1.out⟩
  · have kl : k < xs.length := by rw [HX.out.1]; exact (List.getElem?_eq_some_iff.1 ek).1
    have F0 : Hid ((es.take (k + 1)).filter (fun e => !d e) = es.take k) := Lib.hid (by
      rw [filt_takeN ek]
      have pk : d e = true := pk
      simp only [pk, Bool.not_true, Bool.false_eq_true, if_false, List.append_nil]
      exact List.filter_eq_self.2 (fun e he => by have q : d e = false := nk e he; rw [q]; rfl))
    have E0 : Hid (EnsR wb (xs.take k) (es.take k)) := Lib.hid ⟨by rw [List.length_take, List.length_take, HX.out.1], fun i x d hx hd => by
      rw [List.getElem?_take] at hx hd
      split at hx
      · rename_i q; rw [if_pos q] at hd; exact HX.out.2 i x d hx hd
      · cases hx⟩
    obtain ⟨g, eA, _⟩ : ∃ g, A = some ⟨g, 0, none⟩ ∧ g < w1.heap.size := by
      rcases O1.out.shape with ⟨_, q, _⟩ | q
      · rw [q] at kl; simp at kl
      · exact q
    subst eA
    have CP := Lib.hid O1.out.cap
    have n1 : ¬ ((k : Int) = -1) := by omega
    have n2 : (((k : Int) == -1) : Bool) = false := by first | (simp; done) | (simp; omega)
    have n3 : IntKind.i64.wrap ((k : Int) + 1) = ((k + 1 : Nat) : Int) := by rw [IntWalk.i64_in _ (by have := HN.out; omega)]; omega
    have KL := Lib.hid kl
    clear ek pk nk kl
    go_upto_region 5 with fail
    go_loopw [5, 6] (fun v5 v6 wr => ∃ (i j : Nat) (zs : List EnT), i + 1 ≤ j ∧ j ≤ xs.length ∧ v5 = .int .i64 i ∧ v6 = .int .i64 j ∧ Hid (zs.length = xs.length ∧ zs.drop j = xs.drop j) ∧ Hid (EnsR wb (zs.take i) ((es.take j).filter (fun e => !d e))) ∧ Hid (((zs.take i).zip ((es.take j).filter (fun e => !d e))).Sublist ((xs.zip es).take j)) ∧ Hid (OwnK enTy wr (some ⟨g, 0, none⟩) c zs) ∧ Hid (Chg S0 w0 wr)) (fun _ v6 _ => xs.length - (RowKit.intOf v6).toNat)
    case atStart => exact ⟨k, k + 1, xs, Nat.le_refl _, KL.out, rfl, rfl, Lib.hid ⟨rfl, rfl⟩, Lib.hid (by rw [F0.out]; exact E0.out), Lib.hid (by rw [F0.out, ← take_zipN]; exact take_sub_next _ _), O1, C1⟩
    case round =>
      obtain ⟨i, j, zs, hij, hj, rfl, rfl, ZL, RE, ZS, RO, RC⟩ := hrel
      have i0 : (0 : Int) ≤ (i : Int) := by omega
      have j0 : (0 : Int) ≤ (j : Int) := by omega
      by_cases hlt : j < xs.length
      · have j1 : (j : Int) < (xs.length : Int) := by omega
        have i1 : (i : Int) < (xs.length : Int) := by omega
        have j3 : IntKind.i64.wrap ((j : Int) + 1) = (j : Int) + 1 := IntWalk.i64_in _ (by have := HN.out; omega)
        have i3 : IntKind.i64.wrap ((i : Int) + 1) = (i : Int) + 1 := IntWalk.i64_in _ (by have := HN.out; omega)
        obtain ⟨x, e, ex, ee, rx⟩ := HX.out.at_ hlt
        have zx : zs[j]? = some x := by rw [getElem?_of_drop ZL.out.2 (Nat.le_refl _)]; exact ex
        obtain ⟨z0, z1, z2, z3⟩ := enCells RO.out.reads zx
        rw [Nat.zero_add] at z0 z1 z2 z3
        have EE := Lib.hid ee
        have RX := Lib.hid rx
        have EX := Lib.hid ex
        clear ex ee rx zx
        obtain ⟨w2, hw2, c2, b2⟩ := news1 wr (.cells #[.string x.p, .int .i64 x.k, .int .i64 x.m, .slice x.A x.l x.c] 55)
        have W2 := Lib.hid hw2
        have B2 := Lib.hid b2
        have SB : Hid (g ≠ wr.heap.size) := Lib.hid (by
          have := RO.out.lt_ _ rfl
          intro q
          rw [q] at this
          exact Nat.lt_irrefl _ this)
        replace RO := Lib.hid (RO.out.chg c2 (by simp))
        replace RC := Lib.hid (RC.out.trans (c2.mono (by simp)))
        clear hw2 c2 b2
        go_upto_region 8 with fail
        rw [← W2.out]
        generalize wr.heap.size = s2 at *
        clear W2 z0 z1 z2 z3
        have y0 := cell_of B2.out 0
        have y1 := cell_of B2.out 1
        have y2 := cell_of B2.out 2
        have y3 := cell_of B2.out 3
        simp only [List.getElem?_toArray, List.getElem?_cons_succ, List.getElem?_cons_zero] at y0 y1 y2 y3
        have CC := Lib.hid (W1C.out w2 RC.out _ x e EX.out EE.out)
        go_wp2_with fail
        refine CC.out.mono ?_
        rintro r w3 ⟨rfl, hc⟩
        replace RO := Lib.hid (RO.out.chg hc (by simp))
        replace RC := Lib.hid (RC.out.trans (hc.mono (by simp)))
        replace B2 := Lib.hid (hc.at_ B2.out (by simp))
        clear hc CC y0 y1 y2 y3
        rcases ha : d e with _ | _
        · have FT : Hid ((es.take (j + 1)).filter (fun e => !d e) = (es.take j).filter (fun e => !d e) ++ [e]) := Lib.hid (by rw [filt_takeN EE.out]; simp [ha])
          clear ha
          have y0 := cell_of B2.out 0
          have y1 := cell_of B2.out 1
          have y2 := cell_of B2.out 2
          have y3 := cell_of B2.out 3
          simp only [List.getElem?_toArray, List.getElem?_cons_succ, List.getElem?_cons_zero] at y0 y1 y2 y3
          obtain ⟨u, hu⟩ : ∃ u, zs[i]? = some u := ⟨_, List.getElem?_eq_getElem (by rw [ZL.out.1]; omega)⟩
          obtain ⟨z0, z1, z2, z3⟩ := enCells RO.out.reads hu
          rw [Nat.zero_add] at z0 z1 z2 z3
          have F3 : ∀ j, w3.frozen? ⟨g, j, none⟩ = false := fun j => by
            rcases RO.out with ⟨h, _⟩ | ⟨g', full, e, hg, _⟩
            · cases h
            · cases e; exact free_of hg j
          have f0 := F3 (i * 4)
          have f1 := F3 (i * 4 + 1)
          have f2 := F3 (i * 4 + 2)
          have f3 := F3 (i * 4 + 3)
          have RO4 := Lib.hid (RO.out.setn4 i _ x hu)
          have RC4 := Lib.hid (RC.out.setn4 (g := g) (NA.out _ rfl) (i * 4) (.string x.p) (.int .i64 x.k) (.int .i64 x.m) (.slice x.A x.l x.c))
          have ZL4 : Hid ((zs.set i x).length = xs.length ∧ (zs.set i x).drop (j + 1) = xs.drop (j + 1)) := Lib.hid ⟨by rw [List.length_set]; exact ZL.out.1, by
            rw [List.drop_set_of_lt (by omega)]
            have := congrArg (List.drop 1) ZL.out.2
            simpa [List.drop_drop] using this⟩
          have RE4 : Hid (EnsR wb ((zs.set i x).take (i + 1)) ((es.take (j + 1)).filter (fun e => !d e))) := Lib.hid (by
            rw [FT.out, take_set_nextN (by rw [ZL.out.1]; omega)]
            exact RE.out.snoc RX.out)
          have ZS4 : Hid ((((zs.set i x).take (i + 1)).zip ((es.take (j + 1)).filter (fun e => !d e))).Sublist ((xs.zip es).take (j + 1))) := Lib.hid (by
            rw [FT.out, take_set_nextN (by rw [ZL.out.1]; omega), List.zip_append RE.out.1, zip_next EX.out EE.out]
            exact List.Sublist.append ZS.out (List.Sublist.refl _))
          clear F3 hu
          go_upto_region 10 with fail
          clear z0 z1 z2 z3 f0 f1 f2 f3 y0 y1 y2 y3
          generalize ((((w3.setCell ⟨g, i * 4, none⟩ (.string x.p)).setCell ⟨g, i * 4 + 1, none⟩ (.int .i64 x.k)).setCell ⟨g, i * 4 + 2, none⟩ (.int .i64 x.m)).setCell ⟨g, i * 4 + 3, none⟩ (.slice x.A x.l x.c)) = w4 at *
          go_wp2
          go_round
          case rel => exact ⟨i + 1, j + 1, zs.set i x, by omega, by omega, by go_num, by go_num, ZL4, RE4, ZS4, RO4, RC4⟩
          case measure => simp [RowKit.intOf]; omega
        · have FT : Hid ((es.take (j + 1)).filter (fun e => !d e) = (es.take j).filter (fun e => !d e)) := Lib.hid (by rw [filt_takeN EE.out]; simp [ha])
          clear ha
          have ZL4 : Hid (zs.length = xs.length ∧ zs.drop (j + 1) = xs.drop (j + 1)) := Lib.hid ⟨ZL.out.1, by
            have := congrArg (List.drop 1) ZL.out.2
            simpa [List.drop_drop] using this⟩
          rw [← FT.out] at RE ZS
          have ZS4 := Lib.hid (ZS.out.trans (take_sub_next _ _))
          clear ZS
          go_wp2
          go_round
          case rel => exact ⟨i, j + 1, zs, by omega, by omega, rfl, by go_num, ZL4, RE, ZS4, RO, RC⟩
          case measure => simp [RowKit.intOf]; omega
      · obtain rfl : j = xs.length := by omega
        have j1 : ¬ (xs.length : Int) < (xs.length : Int) := by omega
        have ET : es.take xs.length = es := by rw [HX.out.1]; exact List.take_length
        rw [ET] at RE ZS
        have ZE : Hid ((xs.zip es).take xs.length = xs.zip es) := Lib.hid (List.take_of_length_le (by rw [List.length_zip]; omega))
        rw [ZE.out] at ZS
        clear ET ZE
        obtain ⟨full, hg, hfl, hcm, hzl, hft⟩ : ∃ full, wr.heap[g]? = some (.cells (enTy.flat full).toArray 55 (0, 0)) ∧ full.length = c ∧ c ≤ maxLen ∧ zs.length ≤ c ∧ full.take zs.length = zs := by
          rcases RO.out with ⟨h, _⟩ | ⟨g', full, e, hg, h1, h2, h3, h4⟩
          · cases h
          · cases e; exact ⟨full, hg, h1, h2, h3, h4⟩
        have il : i < xs.length := by omega
        have nc : xs.length ≤ c := by rw [← ZL.out.1]; exact hzl
        have hcl := fun ty => run_clearN wr ty g c xs.length i full hg hfl nc il
        have hown := OwnK.of (R := enTy) (w := wr.setRow g (enTy.flat (full.take i ++ (List.replicate (xs.length - i) enTy.z ++ full.drop xs.length))).toArray) (g := g) (c := c) (full := full.take i ++ (List.replicate (xs.length - i) enTy.z ++ full.drop xs.length)) (xs := zs.take i) (setRow_heap wr g _ _ _ _ hg) (by rw [List.length_take, ZL.out.1]; omega) hcm (by simp; omega) (by
          have e1 : (zs.take i).length = i := by rw [List.length_take, ZL.out.1]; omega
          rw [e1, List.take_append_of_le_length (by rw [List.length_take, hfl]; omega), List.take_take, Nat.min_self, ← hft, List.take_take, Nat.min_eq_left (by rw [ZL.out.1]; omega)])
        have hch : Chg S0 w0 (wr.setRow g (enTy.flat (full.take i ++ (List.replicate (xs.length - i) enTy.z ++ full.drop xs.length))).toArray) := RC.out.trans' (S' := [g]) ⟨rfl, rfl, rfl, by simp, fun j hj hn => setRow_other wr g j _ (by simpa using hn)⟩ (fun j hj => by simp at hj; subst hj; exact NA.out _ rfl)
        have HE := Lib.hid (And.intro hown hch)
        have IL : Hid ((zs.take i).length = i) := Lib.hid (by rw [List.length_take, ZL.out.1]; omega)
        have j7 : (i : Int) ≤ (xs.length : Int) := by omega
        have j8 : (i : Int) ≤ (c : Int) := by omega
        have j9 : i ≤ xs.length := by omega
        have j6 : ¬ c = i := by omega
        clear hown hch hg hfl hcm hzl hft
        go_wp2
        go_ret
        exact ⟨zs.take i, by rw [IL.out]; rfl, by rw [IL.out]; omega, RE.out, ZS.out, HE.out.1, HE.out.2⟩
set_option maxHeartbeats 4000000 in
theorem enfdel_any (wb w0 w : World) (A : Option Addr) (c : Nat) (xs : List EnT) (es : List EnP) (gf : Nat) (lb : Array Value) (d : EnP → Bool) (eg : ∀ args w, (callFunc gf args).run Tryz.prog w = .ok (.enter gf args) w) (hb : Chg [] wb w0) (h0 : Chg [] w0 w) (h : OwnK enTy w A c xs) (hA : ∀ a, A = some a → w0.heap.size ≤ a.block) (hx : EnsR wb xs es) (hn : xs.length ≤ 100000) (hcall : ∀ (wr : World), Chg [] w0 wr → ∀ (i : Nat) (x : EnT) (e : EnP), xs[i]? = some x → es[i]? = some e → Calls Tryz.prog gf (#[.agg #[.string x.p, .int .i64 x.k, .int .i64 x.m, .slice x.A x.l x.c]] ++ lb) wr fun r w' => r = .returned (.bool (d e)) ∧ Chg [] wr w') :
    Calls Tryz.prog 49 #[.slice A xs.length c, .func (.func gf) #[] lb] w fun r w' => ∃ ys : List EnT, r = .returned (.slice A ys.length c) ∧ ys.length ≤ xs.length ∧ EnsR wb ys (es.filter (fun e => !d e)) ∧ OwnK enTy w' A c ys ∧ Chg [] w0 w' :=
  enfdel_S [] wb w0 w A c xs es gf lb d eg (hx.chg (hb.trans h0)) h0 h (fun a ha => .inr (hA a ha)) hx hn hcall |>.mono fun r w' ⟨ys, a, b, c, _, d⟩ => ⟨ys, a, b, c, d⟩
end
section
open Go.RowKit Go.Lib
set_option linter.unusedSimpArgs false
set_option linter.unusedVariables false

/-- Where the first of a path is; -1: none is. -/
def findT (t : List EnP) (p : List UInt8) : Int → Prop := IdxN t (fun e => decide (e.p = p))
set_option maxRecDepth 100000 in
set_option maxHeartbeats 4000000 in
theorem tbfind1_any (w : World) (x : EnT) (e : EnP) (h : EnR w x e) (gb : Nat) (p : List UInt8) (hb : w.heap[gb]? = some (.cells #[.string (strOf p)] 9 (0, 0))) :
    Calls Tryz.prog 82 #[.agg #[.string x.p, .int .i64 x.k, .int .i64 x.m, .slice x.A x.l x.c], .pointer (some ⟨gb, 0, none⟩)] w fun r w' => r = .returned (.bool (decide (e.p = p))) ∧ Chg [] w w' := by
  obtain ⟨w1, hw, hc, b0⟩ := news1 w (.cells #[.string x.p, .int .i64 x.k, .int .i64 x.m, .slice x.A x.l x.c] 55)
  have W1 := Lib.hid hw
  have C := Lib.hid hc
  have y0 := cell_of (hc.at_ hb (by simp)) 0
  have z0 := cell_of b0 0
  have z1 := cell_of b0 1
  have z2 := cell_of b0 2
  have z3 := cell_of b0 3
  simp only [List.getElem?_toArray, List.getElem?_cons_succ, List.getElem?_cons_zero] at y0 z0 z1 z2 z3
  have XP : Hid (x.p = strOf e.p) := Lib.hid h.p
  generalize hv : decide (e.p = p) = v
  have HV := Lib.hid hv
  clear hw hc b0 h hb hv
  go_enter Tryz.func82, Tryz.ntmps82
  go_upto_region 1 with fail
  rw [← W1.out]
  generalize w.heap.size = g0 at *
  clear W1
  rw [XP.out] at z0
  by_cases hp : e.p = p
  · obtain rfl : v = true := by rw [← HV.out]; exact decide_eq_true hp
    have e1 : ((e.p == p) : Bool) = true := by simpa using hp
    clear hp HV
    go_wp2
    go_ret
    exact ⟨rfl, C.out⟩
  · obtain rfl : v = false := by rw [← HV.out]; exact decide_eq_false hp
    have e1 : ((e.p == p) : Bool) = false := by simpa using hp
    clear hp HV
    go_wp2
    go_ret
    exact ⟨rfl, C.out⟩
set_option maxRecDepth 100000 in
set_option maxHeartbeats 4000000 in
theorem tbfind_any (w : World) (A : Option Addr) (c : Nat) (xs : List EnT) (es : List EnP) (p : List UInt8) (h : RdK enTy w A xs.length xs) (hx : EnsR w xs es) (hn : xs.length ≤ 100000) :
    Calls Tryz.prog 40 #[.slice A xs.length c, .string (strOf p)] w fun r w' => (∃ v : Int, r = .returned (.int .i64 v) ∧ findT es p v) ∧ Chg [] w w' := by
  obtain ⟨w1, hw, hc, b0⟩ := news1 w (.cells #[.string (strOf p)] 9)
  have W1 := Lib.hid hw
  have C := Lib.hid hc
  have IX := Lib.hid (enfindex_any w1 A c xs es 82 #[.pointer (some ⟨w.heap.size, 0, none⟩)] (fun e => decide (e.p = p)) (enters_of Tryz.func82 (by kernel_rfl) rfl) (h.chg hc (by simp)) (hx.chg hc) hn (fun wr hcc i x e ex ee => tbfind1_any wr x e ((hx.2 i x e ex ee).chg (hc.trans hcc)) w.heap.size p (hcc.at_ b0 (by simp))))
  clear hw hc b0 h hx hn
  go_enter Tryz.func40, Tryz.ntmps40
  go_upto_region 1 with fail
  rw [← W1.out]
  generalize w.heap.size = g0 at *
  clear W1
  go_wp2_with fail
  refine IX.out.mono ?_
  rintro r w2 ⟨⟨v, rfl, hv⟩, hc⟩
  have HV := Lib.hid hv
  have C2 := Lib.hid (C.out.trans hc)
  clear hv hc IX
  go_wp2
  go_ret
  exact ⟨⟨v, rfl, HV.out⟩, C2.out⟩
end
section
open Go.RowKit Go.Lib
set_option linter.unusedVariables false

theorem rdk_nil {α : Type} {R : RowTy α} {w : World} {n : Nat} {xs : List α} (h : RdK R w none n xs) : xs = [] := by
  cases xs with
  | nil => rfl
  | cons y ys =>
    have : 0 < (R.flat (y :: ys)).length := by rw [R.flat_len, List.length_cons]; exact Nat.mul_pos (by omega) R.kpos
    obtain ⟨a, h, _⟩ := h.cells 0 _ (List.getElem?_eq_getElem this); cases h
end
section
open Go.RowKit Go.Lib
set_option linter.unusedSimpArgs false
set_option linter.unusedVariables false


set_option maxRecDepth 100000 in
set_option maxHeartbeats 4000000 in
theorem freff_any (w : World) (k m : Int) (A : Option Addr) (n c : Nat) (ys : List UInt8) (h : Bs w A n ys) (hn : n ≤ 140737488351232) :
    Calls Tryz.prog 41 #[.agg #[.int .i64 k, .int .i64 m, .slice A n c]] w fun r w' => ∃ A' c', r = .returned (.agg #[.int .i64 k, .int .i64 m, .slice A' n c']) ∧ Fresh w w' A' c' ys := by
  obtain ⟨w2, hw, hc, b0, b1⟩ := news2 w (.cells #[.int .i64 k, .int .i64 m, .slice A n c] 25) (.cells #[.int .i64 0, .int .i64 0, .slice none 0 0] 25)
  have W2 := Lib.hid hw
  have H := Lib.hid (h.chg hc (by simp))
  have C := Lib.hid hc
  have HN := Lib.hid hn
  obtain ⟨g0, hg0⟩ : ∃ g, w.heap.size = g := ⟨_, rfl⟩
  obtain ⟨g1, hg1⟩ : ∃ g, w.heap.size + 1 = g := ⟨_, rfl⟩
  have SZ := Lib.hid hg0
  have S1 := Lib.hid hg1
  rw [hg0] at b0
  rw [hg1] at b1
  have B0 := Lib.hid b0
  have B1 := Lib.hid b1
  have NEg0 : Hid (g0 ≠ g1) := Lib.hid (by omega)
  have NEg1 : Hid (g1 ≠ g0) := Lib.hid (by omega)
  have LZg0 : Hid (g0 ≤ g0) := Lib.hid (Nat.le_refl _)
  have LZg1 : Hid (g0 ≤ g1) := Lib.hid (by omega)
  have L0 := Lib.hid (lt_of_heap b0)
  have L1 := Lib.hid (lt_of_heap b1)
  clear hw hc b0 b1 h hn hg0 hg1
  go_enter Tryz.func41, Tryz.ntmps41
  go_upto_region 1 with fail
  rw [← W2.out, S1.out, SZ.out]
  have z0 := cell_of B0.out 0
  have fz0 := free_of B0.out 0
  have z1 := cell_of B0.out 1
  have fz1 := free_of B0.out 1
  have z2 := cell_of B0.out 2
  have fz2 := free_of B0.out 2
  simp only [List.getElem?_toArray, List.getElem?_cons_succ, List.getElem?_cons_zero] at z0 z1 z2
  go_wp2_with fail
  refine (clone_any w2 A n c ys H.out HN.out).mono ?_
  rintro r w3 ⟨A3, c3, rfl, h3⟩
  clear z0 z1 z2 fz0 fz1 fz2
  replace B0 := Lib.hid (h3.2.2.at_ B0.out (by simp))
  replace B1 := Lib.hid (h3.2.2.at_ B1.out (by simp))
  have O3 := Lib.hid h3.1
  have N3 := Lib.hid h3.2.1
  have S2 := Lib.hid C.out.size
  replace C := Lib.hid (C.out.trans h3.2.2)
  have LT3 : Hid (∀ a, A3 = some a → a.block ≠ g0 ∧ a.block ≠ g1) := Lib.hid (fun a ha => by
    have q := N3.out a ha
    have r0 := L0.out
    have r1 := L1.out
    omega)
  clear h3
  have z0 := cell_of B0.out 0
  have fz0 := free_of B0.out 0
  have z1 := cell_of B0.out 1
  have fz1 := free_of B0.out 1
  have z2 := cell_of B0.out 2
  have fz2 := free_of B0.out 2
  simp only [List.getElem?_toArray, List.getElem?_cons_succ, List.getElem?_cons_zero] at z0 z1 z2
  go_upto_region 2 with fail
  clear z0 z1 z2 fz0 fz1 fz2
  obtain ⟨p0, p1, p2⟩ := set3_2 (.slice A3 n c3) B0.out B1.out NEg0.out LZg0.out C.out SZ.out
  generalize hW : (w3.setCell ⟨g0, 2, none⟩ (.slice A3 n c3)) = w4 at *
  replace B0 := Lib.hid p0
  replace B1 := Lib.hid p1
  have O4 := Lib.hid (O3.out.chg (S := [g0]) (hW ▸ (Chg.refl [g0] w3).put' 2 _) (fun a ha => by simp; exact (LT3.out a ha).1))
  replace C := Lib.hid p2
  clear p0 p1 p2 hW O3
  have z0 := cell_of B0.out 0
  have fz0 := free_of B0.out 0
  have z1 := cell_of B0.out 1
  have fz1 := free_of B0.out 1
  have z2 := cell_of B0.out 2
  have fz2 := free_of B0.out 2
  simp only [List.getElem?_toArray, List.getElem?_cons_succ, List.getElem?_cons_zero] at z0 z1 z2
  have y0 := cell_of B1.out 0
  have fy0 := free_of B1.out 0
  have y1 := cell_of B1.out 1
  have fy1 := free_of B1.out 1
  have y2 := cell_of B1.out 2
  have fy2 := free_of B1.out 2
  simp only [List.getElem?_toArray, List.getElem?_cons_succ, List.getElem?_cons_zero] at y0 y1 y2
  go_wp2
  clear z0 z1 z2 fz0 fz1 fz2
  clear y0 y1 y2 fy0 fy1 fy2
  obtain ⟨p0, p1, p2⟩ := set3_all (.int .i64 k) (.int .i64 m) (.slice A3 n c3) B1.out B0.out NEg1.out LZg1.out C.out SZ.out
  generalize hW : (((w4.setCell ⟨g1, 0, none⟩ (.int .i64 k)).setCell ⟨g1, 1, none⟩ (.int .i64 m)).setCell ⟨g1, 2, none⟩ (.slice A3 n c3)) = w5 at *
  have O5 := Lib.hid (O4.out.chg (S := [g1]) (hW ▸ (((Chg.refl [g1] w4).put' 0 _).put' 1 _).put' 2 _) (fun a ha => by simp; exact (LT3.out a ha).2))
  replace B1 := Lib.hid p0
  replace C := Lib.hid p2
  clear p0 p1 p2 hW O4
  have y0 := cell_of B1.out 0
  have y1 := cell_of B1.out 1
  have y2 := cell_of B1.out 2
  simp only [List.getElem?_toArray, List.getElem?_cons_succ, List.getElem?_cons_zero] at y0 y1 y2
  refine bodyPost_ret (v := .agg #[.int .i64 k, .int .i64 m, .slice A3 n c3]) (by simp [results, Tryz.results41, go_sem, y0, y1, y2]) rfl ?_
  exact ⟨A3, c3, rfl, O5.out, fun a ha => Nat.le_trans S2.out (N3.out a ha), C.out⟩
end
section
open Go.RowKit Go.Lib
set_option linter.unusedSimpArgs false
set_option linter.unusedVariables false

theorem en4_3 {w : World} {g : Nat} {a0 a1 a2 a3 : Value} {T : TypeId} (v1 v2 v3 : Value) (h : w.heap[g]? = some (.cells #[a0, a1, a2, a3] T (0, 0))) :
    (((w.setCell ⟨g, 1, none⟩ v1).setCell ⟨g, 2, none⟩ v2).setCell ⟨g, 3, none⟩ v3).heap[g]? = some (.cells #[a0, v1, v2, v3] T (0, 0)) ∧ Chg [g] w (((w.setCell ⟨g, 1, none⟩ v1).setCell ⟨g, 2, none⟩ v2).setCell ⟨g, 3, none⟩ v3) := by
  have p1 := heap_setCell_same _ g 1 _ _ v1 h
  have p2 := heap_setCell_same _ g 2 _ _ v2 p1
  have p3 := heap_setCell_same _ g 3 _ _ v3 p2
  exact ⟨by simpa using p3, (((Chg.refl [g] w).setCell (p := ⟨g, 1, none⟩) (.inl (by simp)) v1).setCell (p := ⟨g, 2, none⟩) (.inl (by simp)) v2).setCell (p := ⟨g, 3, none⟩) (.inl (by simp)) v3⟩
theorem en4_all {w : World} {g : Nat} {a0 a1 a2 a3 : Value} {T : TypeId} (v0 v1 v2 v3 : Value) (h : w.heap[g]? = some (.cells #[a0, a1, a2, a3] T (0, 0))) :
    ((((w.setCell ⟨g, 0, none⟩ v0).setCell ⟨g, 1, none⟩ v1).setCell ⟨g, 2, none⟩ v2).setCell ⟨g, 3, none⟩ v3).heap[g]? = some (.cells #[v0, v1, v2, v3] T (0, 0)) ∧ Chg [g] w ((((w.setCell ⟨g, 0, none⟩ v0).setCell ⟨g, 1, none⟩ v1).setCell ⟨g, 2, none⟩ v2).setCell ⟨g, 3, none⟩ v3) := by
  have p0 := heap_setCell_same _ g 0 _ _ v0 h
  have p1 := heap_setCell_same _ g 1 _ _ v1 p0
  have p2 := heap_setCell_same _ g 2 _ _ v2 p1
  have p3 := heap_setCell_same _ g 3 _ _ v3 p2
  exact ⟨by simpa using p3, ((((Chg.refl [g] w).setCell (p := ⟨g, 0, none⟩) (.inl (by simp)) v0).setCell (p := ⟨g, 1, none⟩) (.inl (by simp)) v1).setCell (p := ⟨g, 2, none⟩) (.inl (by simp)) v2).setCell (p := ⟨g, 3, none⟩) (.inl (by simp)) v3⟩
set_option maxRecDepth 100000 in
set_option maxHeartbeats 8000000 in
/-- A copy of an entry, in memory of its own. -/
theorem fren_any (w : World) (x : EnT) (e : EnP) (h : EnR w x e) (hs : e.b.length ≤ 140737488351232) :
    Calls Tryz.prog 78 #[.agg #[.string x.p, .int .i64 x.k, .int .i64 x.m, .slice x.A x.l x.c]] w fun r w' => ∃ X : EnT, r = .returned (.agg #[.string X.p, .int .i64 X.k, .int .i64 X.m, .slice X.A X.l X.c]) ∧ EnR w' X e ∧ OwnB w' X.A X.c e.b ∧ (∀ a, X.A = some a → w.heap.size ≤ a.block) ∧ Chg [] w w' := by
  obtain ⟨w2, hw, hc, b0, b1⟩ := news2 w (.cells #[.string x.p, .int .i64 x.k, .int .i64 x.m, .slice x.A x.l x.c] 55) (.cells #[.string ⟨#[]⟩, .int .i64 0, .int .i64 0, .slice none 0 0] 55)
  have W2 := Lib.hid hw
  have HR := Lib.hid (h.chg hc)
  have C := Lib.hid hc
  have HS := Lib.hid (show x.l ≤ 140737488351232 by rw [h.l]; exact hs)
  obtain ⟨g0, hg0⟩ : ∃ g, w.heap.size = g := ⟨_, rfl⟩
  obtain ⟨g1, hg1⟩ : ∃ g, w.heap.size + 1 = g := ⟨_, rfl⟩
  rw [hg0] at b0
  rw [hg1] at b1
  have S1 := Lib.hid hg1
  have SZ := Lib.hid hg0
  have B0 := Lib.hid b0
  have B1 := Lib.hid b1
  have L0 := Lib.hid (lt_of_heap b0)
  have L1 := Lib.hid (lt_of_heap b1)
  have NE : Hid (g1 ≠ g0) := Lib.hid (by omega)
  have NE' : Hid (g0 ≠ g1) := Lib.hid (by omega)
  clear hw hc b0 b1 h hs hg0 hg1
  go_enter Tryz.func78, Tryz.ntmps78
  go_upto_region 1 with fail
  rw [← W2.out, S1.out, SZ.out]
  clear W2
  have z0 := cell_of B0.out 0
  have fz0 := free_of B0.out 0
  have z1 := cell_of B0.out 1
  have fz1 := free_of B0.out 1
  have z2 := cell_of B0.out 2
  have fz2 := free_of B0.out 2
  have z3 := cell_of B0.out 3
  have fz3 := free_of B0.out 3
  simp only [List.getElem?_toArray, List.getElem?_cons_succ, List.getElem?_cons_zero] at z0 z1 z2 z3
  go_wp2_with fail
  refine (freff_any w2 x.k x.m x.A x.l x.c e.b HR.out.A HS.out).mono ?_
  rintro r w3 ⟨A3, c3, rfl, h3⟩
  clear z0 z1 z2 z3 fz0 fz1 fz2 fz3
  replace B0 := Lib.hid (h3.2.2.at_ B0.out (by simp))
  replace B1 := Lib.hid (h3.2.2.at_ B1.out (by simp))
  have O3 := Lib.hid h3.1
  have N3 := Lib.hid h3.2.1
  have S2 := Lib.hid C.out.size
  replace C := Lib.hid (C.out.trans h3.2.2)
  have LT3 : Hid (∀ a, A3 = some a → a.block ≠ g0 ∧ a.block ≠ g1) := Lib.hid (fun a ha => by
    have q := N3.out a ha
    have r0 := L0.out
    have r1 := L1.out
    omega)
  clear h3
  have z0 := cell_of B0.out 0
  have fz0 := free_of B0.out 0
  have z1 := cell_of B0.out 1
  have fz1 := free_of B0.out 1
  have z2 := cell_of B0.out 2
  have fz2 := free_of B0.out 2
  have z3 := cell_of B0.out 3
  have fz3 := free_of B0.out 3
  simp only [List.getElem?_toArray, List.getElem?_cons_succ, List.getElem?_cons_zero] at z0 z1 z2 z3
  go_upto_region 2 with fail
  clear z0 z1 z2 z3 fz0 fz1 fz2 fz3
  obtain ⟨p0, pc⟩ := en4_3 (.int .i64 x.k) (.int .i64 x.m) (.slice A3 x.l c3) B0.out
  replace B0 := Lib.hid p0
  replace B1 := Lib.hid (pc.at_ B1.out (by have := NE.out; simpa using this))
  have O4 := Lib.hid (O3.out.chg pc (fun a ha => by simp; exact (LT3.out a ha).1))
  replace C := Lib.hid (C.out.trans' pc (fun i hi => .inr (by have := SZ.out; simp at hi; omega)))
  clear p0 pc O3
  obtain ⟨w4, hW⟩ : ∃ w9 : World, (((w3.setCell ⟨g0, 1, none⟩ (.int .i64 x.k)).setCell ⟨g0, 2, none⟩ (.int .i64 x.m)).setCell ⟨g0, 3, none⟩ (.slice A3 x.l c3)) = w9 := ⟨_, rfl⟩
  rw [hW] at B0 B1 O4 C ⊢
  clear hW
  have z0 := cell_of B0.out 0
  have fz0 := free_of B0.out 0
  have z1 := cell_of B0.out 1
  have fz1 := free_of B0.out 1
  have z2 := cell_of B0.out 2
  have fz2 := free_of B0.out 2
  have z3 := cell_of B0.out 3
  have fz3 := free_of B0.out 3
  simp only [List.getElem?_toArray, List.getElem?_cons_succ, List.getElem?_cons_zero] at z0 z1 z2 z3
  have y0 := cell_of B1.out 0
  have fy0 := free_of B1.out 0
  have y1 := cell_of B1.out 1
  have fy1 := free_of B1.out 1
  have y2 := cell_of B1.out 2
  have fy2 := free_of B1.out 2
  have y3 := cell_of B1.out 3
  have fy3 := free_of B1.out 3
  simp only [List.getElem?_toArray, List.getElem?_cons_succ, List.getElem?_cons_zero] at y0 y1 y2 y3
  go_wp2
  clear z0 z1 z2 z3 fz0 fz1 fz2 fz3
  clear y0 y1 y2 y3 fy0 fy1 fy2 fy3
  obtain ⟨p0, pc⟩ := en4_all (.string x.p) (.int .i64 x.k) (.int .i64 x.m) (.slice A3 x.l c3) B1.out
  replace B1 := Lib.hid p0
  have O5 := Lib.hid (O4.out.chg pc (fun a ha => by simp; exact (LT3.out a ha).2))
  replace C := Lib.hid (C.out.trans' pc (fun i hi => .inr (by have := S1.out; simp at hi; omega)))
  clear p0 pc O4
  obtain ⟨w5, hW⟩ : ∃ w9 : World, ((((w4.setCell ⟨g1, 0, none⟩ (.string x.p)).setCell ⟨g1, 1, none⟩ (.int .i64 x.k)).setCell ⟨g1, 2, none⟩ (.int .i64 x.m)).setCell ⟨g1, 3, none⟩ (.slice A3 x.l c3)) = w9 := ⟨_, rfl⟩
  rw [hW] at B1 O5 C ⊢
  clear hW
  have y0 := cell_of B1.out 0
  have y1 := cell_of B1.out 1
  have y2 := cell_of B1.out 2
  have y3 := cell_of B1.out 3
  simp only [List.getElem?_toArray, List.getElem?_cons_succ, List.getElem?_cons_zero] at y0 y1 y2 y3
  refine bodyPost_ret (v := .agg #[.string x.p, .int .i64 x.k, .int .i64 x.m, .slice A3 x.l c3]) (by simp [results, Tryz.results78, go_sem, y0, y1, y2, y3]) rfl ?_
  exact ⟨⟨x.p, x.k, x.m, A3, x.l, c3⟩, rfl, ⟨HR.out.p, HR.out.k, HR.out.m, HR.out.l, by have q := O5.out.reads; rw [← HR.out.l] at q; exact q⟩, O5.out, fun a ha => Nat.le_trans S2.out (N3.out a ha), C.out⟩
end
section
open Go.RowKit Go.Lib
set_option linter.unusedSimpArgs false
set_option linter.unusedVariables false

theorem find_get {es : List EnP} {p : List UInt8} {v : Int} (h : findT es p v) : (v = -1 ∧ getT es p = none) ∨ ∃ (k : Nat) (e : EnP), v = k ∧ es[k]? = some e ∧ getT es p = some e := by
  rcases h with ⟨h1, h2⟩ | ⟨k, e, h1, h2, h3, h4⟩
  · refine .inl ⟨h1, get_none.2 (fun e he q => ?_)⟩
    have := h2 e he
    simp only [decide_eq_false_iff_not] at this
    exact this q
  · refine .inr ⟨k, e, h1, h2, ?_⟩
    unfold getT
    have hk := (List.getElem?_eq_some_iff.1 h2).1
    rw [← List.take_append_drop k es, List.find?_append, List.find?_eq_none.2 (fun x hx => by have := h4 x hx; simpa using this)]
    have hd : es.drop k = e :: es.drop (k + 1) := by
      rw [List.drop_eq_getElem_cons hk, (List.getElem?_eq_some_iff.1 h2).2]
    have h5 : decide (e.p = p) = true := h3
    rw [hd, List.find?_cons, h5]
    rfl
theorem ef3_all {w : World} {g : Nat} {a0 a1 a2 : Value} {T : TypeId} (v0 v1 v2 : Value) (h : w.heap[g]? = some (.cells #[a0, a1, a2] T (0, 0))) :
    (((w.setCell ⟨g, 0, none⟩ v0).setCell ⟨g, 1, none⟩ v1).setCell ⟨g, 2, none⟩ v2).heap[g]? = some (.cells #[v0, v1, v2] T (0, 0)) ∧ Chg [g] w (((w.setCell ⟨g, 0, none⟩ v0).setCell ⟨g, 1, none⟩ v1).setCell ⟨g, 2, none⟩ v2) := by
  have p0 := heap_setCell_same _ g 0 _ _ v0 h
  have p1 := heap_setCell_same _ g 1 _ _ v1 p0
  have p2 := heap_setCell_same _ g 2 _ _ v2 p1
  exact ⟨by simpa using p2, (((Chg.refl [g] w).setCell (p := ⟨g, 0, none⟩) (.inl (by simp)) v0).setCell (p := ⟨g, 1, none⟩) (.inl (by simp)) v1).setCell (p := ⟨g, 2, none⟩) (.inl (by simp)) v2⟩
set_option maxRecDepth 100000 in
set_option maxHeartbeats 4000000 in
theorem tbget_any (w : World) (A : Option Addr) (c : Nat) (xs : List EnT) (es : List EnP) (p : List UInt8) (h : RdK enTy w A xs.length xs) (hx : EnsR w xs es) (hn : xs.length ≤ 100000) (hs : ∀ e ∈ es, e.b.length ≤ 140737488351232) :
    Calls Tryz.prog 13 #[.slice A xs.length c, .string (strOf p)] w fun r w' => ∃ (A' : Option Addr) (c' : Nat), r = .returned (.tuple #[.agg #[.int .i64 ((getT es p).getD ⟨[], 0, 0, []⟩).k, .int .i64 ((getT es p).getD ⟨[], 0, 0, []⟩).m, .slice A' ((getT es p).getD ⟨[], 0, 0, []⟩).b.length c'], .bool (getT es p).isSome]) ∧ OwnB w' A' c' ((getT es p).getD ⟨[], 0, 0, []⟩).b ∧ (∀ a, A' = some a → w.heap.size ≤ a.block) ∧ Chg [] w w' := by
  obtain ⟨w1, hw, hc, b0⟩ := news1 w (.cells #[.int .i64 0, .int .i64 0, .slice none 0 0] 25)
  have W1 := Lib.hid hw
  have C := Lib.hid hc
  have B0 := Lib.hid b0
  have HA := Lib.hid (h.chg hc (by simp))
  have HX := Lib.hid (hx.chg hc)
  have HS := Lib.hid hs
  have FI := Lib.hid (tbfind_any w1 A c xs es p (h.chg hc (by simp)) (hx.chg hc) hn)
  obtain ⟨R, hR⟩ : ∃ R, getT es p = R := ⟨_, rfl⟩
  rw [hR]
  have RN := Lib.hid hR
  clear hw hc b0 h hx hn hs hR
  go_enter Tryz.func13, Tryz.ntmps13
  go_upto_region 1 with fail
  rw [← W1.out]
  obtain ⟨g0, hg0⟩ : ∃ g, w.heap.size = g := ⟨_, rfl⟩
  rw [hg0] at B0 ⊢
  have G0 : Hid (w.heap.size ≤ g0) := Lib.hid (by omega)
  clear W1 hg0
  go_wp2_with fail
  refine FI.out.mono ?_
  rintro r w2 ⟨⟨v, rfl, hv⟩, hc⟩
  have S1 := Lib.hid C.out.size
  have lt_g0 := Lib.hid (lt_of_heap B0.out)
  have D2 := Lib.hid hc
  replace B0 := Lib.hid (hc.at_ B0.out (by simp))
  replace C := Lib.hid (C.out.trans hc)
  have FV := Lib.hid (find_get hv)
  clear hv hc FI
  rcases FV.out with ⟨rfl, hg⟩ | ⟨k, e, rfl, ek, hg⟩
  · obtain rfl : R = none := by rw [← RN.out]; exact hg
    clear hg FV
    have z0 := cell_of B0.out 0
    have fz0 := free_of B0.out 0
    have z1 := cell_of B0.out 1
    have fz1 := free_of B0.out 1
    have z2 := cell_of B0.out 2
    have fz2 := free_of B0.out 2
    simp only [List.getElem?_toArray, List.getElem?_cons_succ, List.getElem?_cons_zero] at z0 z1 z2
    go_wp2
    clear z0 z1 z2 fz0 fz1 fz2
    obtain ⟨p0, pc⟩ := ef3_all (.int .i64 0) (.int .i64 0) (.slice none 0 0) B0.out
    replace B0 := Lib.hid p0
    replace C := Lib.hid (C.out.trans' pc (fun i hi => .inr (by have := G0.out; simp at hi; omega)))
    clear p0 pc
    obtain ⟨w4, hW⟩ : ∃ w9 : World, (((w2.setCell ⟨g0, 0, none⟩ (.int .i64 0)).setCell ⟨g0, 1, none⟩ (.int .i64 0)).setCell ⟨g0, 2, none⟩ (.slice none 0 0)) = w9 := ⟨_, rfl⟩
    rw [hW] at B0 C ⊢
    clear hW
    have y0 := cell_of B0.out 0
    have y1 := cell_of B0.out 1
    have y2 := cell_of B0.out 2
    simp only [List.getElem?_toArray, List.getElem?_cons_succ, List.getElem?_cons_zero] at y0 y1 y2
    refine bodyPost_ret (v := .tuple #[.agg #[.int .i64 0, .int .i64 0, .slice none 0 0], .bool false]) (by simp [results, Tryz.results13, go_sem, y0, y1, y2]) rfl ?_
    exact ⟨none, 0, rfl, .inl ⟨rfl, rfl, rfl⟩, (fun a ha => by cases ha), C.out⟩
  · obtain rfl : R = some e := by rw [← RN.out]; exact hg
    have kl : k < xs.length := by rw [HX.out.1]; exact (List.getElem?_eq_some_iff.1 ek).1
    obtain ⟨x, e', ex, ee, rx⟩ := HX.out.at_ kl
    rw [ek] at ee
    cases ee
    obtain ⟨g, o, eA, _⟩ := HA.out.line (by omega)
    subst eA
    have RX := Lib.hid (rx.chg D2.out)
    have EB := Lib.hid (HS.out e (List.mem_of_getElem? ek))
    obtain ⟨z0, z1, z2, z3⟩ := enCells (HA.out.chg D2.out (by simp)) ex
    have k0 : (0 : Int) ≤ (k : Int) := by omega
    have k1 : (k : Int) < (xs.length : Int) := by omega
    have k2 : ¬ (k : Int) < 0 := by omega
    clear hg FV ek ex rx kl
    go_wp2_with fail
    clear z0 z1 z2 z3
    refine (freff_any w2 x.k x.m x.A x.l x.c e.b RX.out.A (by rw [RX.out.l]; exact EB.out)).mono ?_
    rintro r w3 ⟨A3, c3, rfl, h3⟩
    rw [RX.out.k, RX.out.m, RX.out.l]
    replace B0 := Lib.hid (h3.2.2.at_ B0.out (by simp))
    have O3 := Lib.hid h3.1
    have N3 := Lib.hid h3.2.1
    have S2 := Lib.hid C.out.size
    replace C := Lib.hid (C.out.trans h3.2.2)
    have LT3 : Hid (∀ a, A3 = some a → a.block ≠ g0) := Lib.hid (fun a ha q => by
      have r := N3.out a ha
      have s := S1.out
      have t := lt_of_heap B0.out
      have u := D2.out.size
      have z := lt_g0.out
      omega)
    clear h3
    have z0 := cell_of B0.out 0
    have fz0 := free_of B0.out 0
    have z1 := cell_of B0.out 1
    have fz1 := free_of B0.out 1
    have z2 := cell_of B0.out 2
    have fz2 := free_of B0.out 2
    simp only [List.getElem?_toArray, List.getElem?_cons_succ, List.getElem?_cons_zero] at z0 z1 z2
    go_wp2
    clear z0 z1 z2 fz0 fz1 fz2
    obtain ⟨p0, pc⟩ := ef3_all (.int .i64 e.k) (.int .i64 e.m) (.slice A3 e.b.length c3) B0.out
    replace B0 := Lib.hid p0
    have O4 := Lib.hid (O3.out.chg pc (fun a ha => by simp; exact LT3.out a ha))
    replace C := Lib.hid (C.out.trans' pc (fun i hi => .inr (by have := G0.out; simp at hi; omega)))
    clear p0 pc O3
    obtain ⟨w4, hW⟩ : ∃ w9 : World, (((w3.setCell ⟨g0, 0, none⟩ (.int .i64 e.k)).setCell ⟨g0, 1, none⟩ (.int .i64 e.m)).setCell ⟨g0, 2, none⟩ (.slice A3 e.b.length c3)) = w9 := ⟨_, rfl⟩
    rw [hW] at B0 O4 C ⊢
    clear hW
    have y0 := cell_of B0.out 0
    have y1 := cell_of B0.out 1
    have y2 := cell_of B0.out 2
    simp only [List.getElem?_toArray, List.getElem?_cons_succ, List.getElem?_cons_zero] at y0 y1 y2
    refine bodyPost_ret (v := .tuple #[.agg #[.int .i64 e.k, .int .i64 e.m, .slice A3 e.b.length c3], .bool true]) (by simp [results, Tryz.results13, go_sem, y0, y1, y2]) rfl ?_
    exact ⟨A3, c3, rfl, O4.out, fun a ha => Nat.le_trans S2.out (N3.out a ha), C.out⟩
end
end Go.Proofs.YtimdfpejgaidhaaGreatDoor
