/- The kit's CopyEvents, with what it makes new. The document's put (shelf). The document's own: an event in memory of its own. -/
import Derived.Test.YtdfapiffalmjcaaGreatDoorZsaj
import Derived.Deep.Cut
import Derived.Test.YtdfapiffalmjcaaGreatDoorZsar
import Derived.Test.YtdfapiffalmjcaaGreatDoorZsav
import Derived.Test.YtdfapiffalmjcaaGreatDoorZsab
import Derived.BigQuiet
import Derived.Test.YtdfapiffalmjcaaGreatDoorZsae
namespace Go.Proofs.YtdfapiffalmjcaaGreatDoor
section
open Go.RowKit Go.Lib
set_option linter.unusedSimpArgs false
set_option linter.unusedVariables false


set_option maxRecDepth 100000 in
set_option maxHeartbeats 8000000 in
theorem copyevs_new (w : World) (A : Option Addr) (c : Nat) (xs : List EvT) (es : List EvP) (h : RdK evTy w A xs.length xs) (hx : EvsR w xs es) (hn : xs.length ≤ 100000) (hq : ∀ e ∈ es, e.b.length ≤ 140737488351232 ∧ e.q.length ≤ 100000) :
    Calls Tryz.prog 8 #[.slice A xs.length c] w fun r w' => ∃ (A' : Option Addr) (c' : Nat) (ys : List EvT), r = .returned (.slice A' ys.length c') ∧ ys.length = xs.length ∧ OwnK evTy w' A' c' ys ∧ EvsR w' ys es ∧ ApartE w' A' ys ∧ (∀ a, A' = some a → w.heap.size ≤ a.block) ∧ (∀ x ∈ ys, ∀ a, (x.A = some a ∨ x.B = some a) → w.heap.size ≤ a.block) ∧ Chg [] w w' := by
  have HA := Lib.hid h
  have HX := Lib.hid hx
  have HN := Lib.hid hn
  have HQ := Lib.hid hq
  clear h hx hn hq
  go_enter Tryz.func8, Tryz.ntmps8
  go_wp2
  go_loopw [3, 4] (fun o i wr => ∃ (k : Nat) (A1 : Option Addr) (d1 : Nat) (ys : List EvT), k ≤ xs.length ∧ ys.length = k ∧ i = .int .i64 k ∧ o = .slice A1 ys.length d1 ∧ Hid (OwnK evTy wr A1 d1 ys) ∧ Hid (EvsR wr ys (es.take k)) ∧ Hid (ApartE wr A1 ys) ∧ Hid (∀ a, A1 = some a → w.heap.size ≤ a.block) ∧ Hid (∀ x ∈ ys, ∀ a, (x.A = some a ∨ x.B = some a) → w.heap.size ≤ a.block) ∧ Hid (Chg [] w wr)) (fun _ i _ => xs.length - (RowKit.intOf i).toNat)
  case atStart => exact ⟨0, none, 0, [], Nat.zero_le _, rfl, rfl, rfl, OwnK.none_ _, Lib.hid (by simpa using EvsR.nil _), Lib.hid (fun x hx => by simp at hx), Lib.hid (by simp), Lib.hid (by simp), Chg.refl _ _⟩
  case round =>
    obtain ⟨k, A1, d1, ys, hk, hyl, rfl, rfl, RO, RE, RA, RN, RW, RC⟩ := hrel
    have i0 : (0 : Int) ≤ (k : Int) := by omega
    by_cases hlt : k < xs.length
    · have i1 : (k : Int) < (xs.length : Int) := by omega
      have i3 : IntKind.i64.wrap ((k : Int) + 1) = (k : Int) + 1 := IntWalk.i64_in _ (by have := HN.out; omega)
      obtain ⟨g, o, eA, _⟩ := HA.out.line (by omega)
      subst eA
      obtain ⟨x, e, ex, ee, rx⟩ := HX.out.at_ hlt
      obtain ⟨z0, z1, z2, z3, z4, z5, z6⟩ := evCells (HA.out.chg RC.out (by simp)) ex
      have RX := Lib.hid rx
      have ET : Hid (es.take (k + 1) = es.take k ++ [e]) := Lib.hid (by rw [List.take_add_one, ee]; rfl)
      have EQ := Lib.hid (HQ.out e (List.mem_of_getElem? ee))
      have YL := Lib.hid hyl
      clear ex ee rx hyl
      go_wp2_with fail
      clear z0 z1 z2 z3 z4 z5 z6
      refine (copyev_any wr x e (RX.out.chg RC.out) EQ.out).mono ?_
      rintro r w2 ⟨A', c', B', d', rfl, hR, hA, hB, hnA, hnB, hne, hc⟩
      obtain ⟨X, hX⟩ : ∃ X : EvT, X = ⟨x.n, x.s, x.p, x.k, x.m, A', x.l, c', B', x.bl, d'⟩ := ⟨_, rfl⟩
      rw [← hX] at hR
      have fX : X.A = A' ∧ X.B = B' := by rw [hX]; exact ⟨rfl, rfl⟩
      have KA : Hid (∀ a, X.A = some a → a.block < w2.heap.size ∧ wr.heap.size ≤ a.block) := Lib.hid (fun a ha => by rw [fX.1] at ha; exact ⟨hA.lt a ha, hnA a ha⟩)
      have KB : Hid (∀ a, X.B = some a → a.block < w2.heap.size ∧ wr.heap.size ≤ a.block) := Lib.hid (fun a ha => by rw [fX.2] at ha; exact ⟨hB.lt_ a ha, hnB a ha⟩)
      have KC : Hid (X.bl ≤ X.bc ∧ X.bc ≤ maxLen) := Lib.hid (by have q := hB.cap; rw [hX]; show x.bl ≤ d' ∧ d' ≤ maxLen; have := RX.out.bl; exact ⟨by omega, q.2⟩)
      have LA1 := Lib.hid RO.out.lt_
      have WS := Lib.hid RC.out.size
      have XR := Lib.hid hR
      replace RO := Lib.hid (RO.out.chg hc (by simp))
      replace RE := Lib.hid (RE.out.chg hc)
      have S2 := Lib.hid hc.size
      replace RC := Lib.hid (RC.out.trans hc)
      have EX : Hid (Value.agg #[.int .i64 x.n, .int .i64 x.s, .string x.p, .int .i64 x.k, .int .i64 x.m, .slice A' x.l c', .slice B' x.bl d'] = .agg #[.int .i64 X.n, .int .i64 X.s, .string X.p, .int .i64 X.k, .int .i64 X.m, .slice X.A X.l X.c, .slice X.B X.bl X.bc]) := Lib.hid (by rw [hX])
      rw [EX.out]
      clear hR hA hB hnA hnB hne hc hX fX EX
      obtain ⟨w3, hw, hc, b3⟩ := news1 w2 (.cells #[.int .i64 X.n, .int .i64 X.s, .string X.p, .int .i64 X.k, .int .i64 X.m, .slice X.A X.l X.c, .slice X.B X.bl X.bc] 30)
      have W3 := Lib.hid hw
      have R3 := Lib.hid (rd_oneEc b3)
      replace RO := Lib.hid (RO.out.chg hc (by simp))
      replace RE := Lib.hid (RE.out.chg hc)
      replace XR := Lib.hid (XR.out.chg hc)
      have S3 := Lib.hid hc.size
      replace RC := Lib.hid (RC.out.trans hc)
      clear hw hc b3
      have N4 : Hid ((ys.length + 1) * 400 ≤ 140737488355327) := Lib.hid (by have := YL.out; have := HN.out; omega)
      go_wp2_with (at_builtin; rw [← W3.out]; refine wpList_appK (R := evTy) rfl (.tmp 11) (.tmp 17) rfl rfl (A := A1) (n := ys.length) (m := 1) (c := d1) (d := 1) (xs := ys) (ys := [X]) RO.out rfl rfl R3.out N4.out ?_; intro A7 c7 w7 o7 g7 e7; have O7 := Lib.hid o7; have F7 := Lib.hid (fresh_appE RN.out RC.out g7 e7); have G7 := Lib.hid g7; have E7 := Lib.hid e7; clear o7 g7 e7)
      have CG : Hid (Chg (blkOf A1) w3 w7) := Lib.hid ((Chg.refl (blkOf A1) w3).grown G7.out (fun i hi => by
        cases A1 with
        | none => simp at hi
        | some a => simp at hi; subst hi; exact .inl (mem_blkOf rfl)))
      have RE7 : Hid (EvsR w7 (ys ++ [X]) (es.take (k + 1))) := Lib.hid (by
        rw [ET.out]
        refine EvsR.snoc (RE.out.chgS CG.out (fun y hy => ⟨fun a ha q => ?_, fun a ha q => ?_⟩)) (XR.out.chgS CG.out (fun a ha q => ?_) (fun a ha q => ?_))
        · obtain ⟨b, hb, e⟩ := of_blkOf q; exact ((RA.out y hy).1 a ha).2 b hb e.symm
        · obtain ⟨b, hb, e⟩ := of_blkOf q; exact ((RA.out y hy).2.1 a ha).2 b hb e.symm
        · obtain ⟨b, hb, e⟩ := of_blkOf q; have := LA1.out b hb; have := (KA.out a ha).2; omega
        · obtain ⟨b, hb, e⟩ := of_blkOf q; have := LA1.out b hb; have := (KB.out a ha).2; omega)
      have RA7 : Hid (ApartE w7 A7 (ys ++ [X])) := Lib.hid (fun y hy => by
        have s7 := CG.out.size
        have s3 := S3.out
        have s2 := S2.out
        have lo : ∀ a : Addr, a.block < w3.heap.size → (∀ b, A1 = some b → a.block ≠ b.block) → a.block < w7.heap.size ∧ ∀ b, A7 = some b → a.block ≠ b.block := fun a h1 h2 => ⟨by omega, fun b hb => by
          rcases E7.out with q | q
          · rw [q] at hb; exact h2 b hb
          · rw [q] at hb; cases hb; exact Nat.ne_of_lt h1⟩
        rcases List.mem_append.1 hy with r | r
        · exact ⟨fun a ha => lo a (by have := ((RA.out y r).1 a ha).1; omega) ((RA.out y r).1 a ha).2, fun a ha => lo a (by have := ((RA.out y r).2.1 a ha).1; omega) ((RA.out y r).2.1 a ha).2, (RA.out y r).2.2⟩
        · simp at r
          subst r
          exact ⟨fun a ha => lo a (by have := (KA.out a ha).1; omega) (fun b hb => by have := LA1.out b hb; have := (KA.out a ha).2; omega), fun a ha => lo a (by have := (KB.out a ha).1; omega) (fun b hb => by have := LA1.out b hb; have := (KB.out a ha).2; omega), KC.out⟩)
      have RW7 : Hid (∀ x ∈ ys ++ [X], ∀ a, (x.A = some a ∨ x.B = some a) → w.heap.size ≤ a.block) := Lib.hid (fun y hy a ha => by
        have ws := WS.out
        rcases List.mem_append.1 hy with r | r
        · exact RW.out y r a ha
        · simp at r
          subst r
          rcases ha with q | q
          · have := (KA.out a q).2; omega
          · have := (KB.out a q).2; omega)
      clear CG G7 E7 RO RE RA RW
      go_wp2
      go_round
      case rel => exact ⟨k + 1, A7, c7, ys ++ [X], by omega, by simp [YL.out], by go_num, by simp, O7, RE7, RA7, Lib.hid F7.out.1, RW7, F7.out.2⟩
      case measure => simp [RowKit.intOf]; omega
    · obtain rfl : k = xs.length := by omega
      have i1 : ¬ (xs.length : Int) < (xs.length : Int) := by omega
      have ET : es.take xs.length = es := by rw [HX.out.1]; exact List.take_length
      rw [ET] at RE
      have YL := Lib.hid hyl
      clear hyl ET
      go_wp2
      go_ret
      exact ⟨A1, d1, ys, rfl, YL.out, RO.out, RE.out, RA.out, RN.out, RW.out, RC.out⟩
end
section
open Go.RowKit Go.Lib
set_option linter.unusedSimpArgs false
set_option linter.unusedVariables false


theorem put_stay {l : List EvP} {e : EvP} (h : stayE l e = true) : putE l e = l := by unfold putE; rw [if_pos h]
set_option maxRecDepth 100000 in
set_option maxHeartbeats 16000000 in
theorem ksput_any (w : World) (A : Option Addr) (c : Nat) (xs : List EvT) (es : List EvP) (y : EvT) (f : EvP) (h : RdK evTy w A xs.length xs) (hx : EvsR w xs es) (hn : xs.length ≤ 1000) (hs : ∀ e ∈ es, EvSm e) (hy : EvR w y f) (ht : EvSm f) (hu : es.Pairwise LtEv) :
    Calls Tryz.prog 42 #[.slice A xs.length c, .agg #[.int .i64 y.n, .int .i64 y.s, .string y.p, .int .i64 y.k, .int .i64 y.m, .slice y.A y.l y.c, .slice y.B y.bl y.bc]] w fun r w' => ∃ (A' : Option Addr) (c' : Nat) (ys : List EvT), r = .returned (.slice A' ys.length c') ∧ ys.length ≤ xs.length + 1 ∧ EvsR w ys (putE es f) ∧ RdK evTy w' A' ys.length ys ∧ Chg [] w w' := by

  obtain ⟨w1, hw1, c1, b1⟩ := news1 w (.cells #[.int .i64 y.n, .int .i64 y.s, .string y.p, .int .i64 y.k, .int .i64 y.m, .slice y.A y.l y.c, .slice y.B y.bl y.bc] 30)
  have W1 := Lib.hid hw1
  have C1 := Lib.hid c1
  have B1 := Lib.hid b1
  have HA := Lib.hid (h.chg c1 (by simp))
  have HX := Lib.hid hx
  have HN := Lib.hid hn
  have HS := Lib.hid hs
  have HY := Lib.hid hy
  have HT := Lib.hid ht
  have HU := Lib.hid hu
  have LW : Hid (w.heap.size < w1.heap.size) := Lib.hid (lt_of_heap b1)
  clear hw1 c1 b1 h hx hn hs hy ht hu
  go_enter Tryz.func42, Tryz.ntmps42
  go_upto_region 1 with fail
  rw [← W1.out]
  generalize w.heap.size = g1 at *
  clear W1
  go_wp2
  go_loopw [5] (fun v5 wr => ∃ (k : Nat), k ≤ xs.length ∧ v5 = .int .i64 k ∧ Hid (∀ x ∈ es.take k, ¬ (x.n = f.n ∧ x.s = f.s) ∧ aheadP f x = false) ∧ Hid (Chg [] w1 wr)) (fun v5 _ => xs.length - (RowKit.intOf v5).toNat)
  case atStart => exact ⟨0, Nat.zero_le _, rfl, Lib.hid (by simp), Chg.refl _ _⟩
  case round =>
    obtain ⟨k, hk, rfl, NS, PC⟩ := hrel
    have j0 : (0 : Int) ≤ (k : Int) := by omega
    by_cases hlt : k < xs.length
    · have j1 : (k : Int) < (xs.length : Int) := by omega
      have j3 : IntKind.i64.wrap ((k : Int) + 1) = (k : Int) + 1 := IntWalk.i64_in _ (by have := HN.out; omega)
      obtain ⟨g3, o3, eA, _⟩ := HA.out.line (by omega)
      subst eA
      obtain ⟨x, e, ex, ee, rx⟩ := HX.out.at_ hlt
      have EX := Lib.hid ex
      have EE := Lib.hid ee
      have RX1 := Lib.hid rx
      have ES1 := Lib.hid (HS.out e (List.mem_of_getElem? ee))
      have XD : Hid (x.n = e.n ∧ x.s = e.s ∧ y.n = f.n ∧ y.s = f.s) := Lib.hid ⟨rx.n, rx.s, HY.out.n, HY.out.s⟩
      clear ex ee rx
      go_upto_region 4 with fail
      have HB : Hid (∀ w', Chg [] wr w' → (w'.cell? ⟨g1, 0, none⟩ = some (.int .i64 y.n) ∧ w'.cell? ⟨g1, 1, none⟩ = some (.int .i64 y.s) ∧ w'.cell? ⟨g1, 2, none⟩ = some (.string y.p) ∧ w'.cell? ⟨g1, 3, none⟩ = some (.int .i64 y.k) ∧ w'.cell? ⟨g1, 4, none⟩ = some (.int .i64 y.m) ∧ w'.cell? ⟨g1, 5, none⟩ = some (.slice y.A y.l y.c) ∧ w'.cell? ⟨g1, 6, none⟩ = some (.slice y.B y.bl y.bc)) ∧ (w'.cell? ⟨g3, o3 + k * 7, none⟩ = some (.int .i64 x.n) ∧ w'.cell? ⟨g3, o3 + k * 7 + 1, none⟩ = some (.int .i64 x.s) ∧ w'.cell? ⟨g3, o3 + k * 7 + 2, none⟩ = some (.string x.p) ∧ w'.cell? ⟨g3, o3 + k * 7 + 3, none⟩ = some (.int .i64 x.k) ∧ w'.cell? ⟨g3, o3 + k * 7 + 4, none⟩ = some (.int .i64 x.m) ∧ w'.cell? ⟨g3, o3 + k * 7 + 5, none⟩ = some (.slice x.A x.l x.c) ∧ w'.cell? ⟨g3, o3 + k * 7 + 6, none⟩ = some (.slice x.B x.bl x.bc))) := Lib.hid (fun w' hc => by
        have b := hc.at_ (PC.out.at_ B1.out (by simp)) (by simp)
        exact ⟨⟨cell_of b 0, cell_of b 1, cell_of b 2, cell_of b 3, cell_of b 4, cell_of b 5, cell_of b 6⟩, evCells (HA.out.chg (PC.out.trans hc) (by simp)) EX.out⟩)
      have AHD : Hid (∀ w', Chg [] wr w' → Calls Tryz.prog 47 #[.agg #[.int .i64 y.n, .int .i64 y.s, .string y.p, .int .i64 y.k, .int .i64 y.m, .slice y.A y.l y.c, .slice y.B y.bl y.bc], .agg #[.int .i64 x.n, .int .i64 x.s, .string x.p, .int .i64 x.k, .int .i64 x.m, .slice x.A x.l x.c, .slice x.B x.bl x.bc]] w' fun r w2 => r = .returned (.bool (aheadP f e)) ∧ Chg [] w' w2) := Lib.hid (fun w' hc => veahead_any w' y x f e (HY.out.chg (C1.out.trans (PC.out.trans hc))) (RX1.out.chg (C1.out.trans (PC.out.trans hc))) HT.out ES1.out)
      by_cases hd : x.n = y.n ∧ x.s = y.s
      · have ST : Hid (putE es f = es) := Lib.hid (put_stay (stay_iff.2 ⟨e, List.mem_of_getElem? EE.out, .inl ⟨by rw [← XD.out.1, ← XD.out.2.2.1]; exact hd.1, by rw [← XD.out.2.1, ← XD.out.2.2.2]; exact hd.2⟩⟩))
        have dq : ((x.n == y.n) : Bool) = true := by simpa using hd.1
        have dr : ((x.s == y.s) : Bool) = true := by simpa using hd.2
        clear hd
        refine wp_region_held_drew (S := fun w' => Chg [] wr w') (by kernel_rfl) (Chg.refl [] wr).drew (fun hHeld => ?_)
        refine sy 0 15 rfl rfl ?_
        try simp only [Act.put, sA, s0, s1]
        refine sy 1 16 rfl rfl ?_
        try simp only [Act.put, sA, s0, s1]
        refine sy 2 17 rfl rfl ?_
        try simp only [Act.put, sA, s0, s1]
        refine sy 3 18 rfl rfl ?_
        try simp only [Act.put, sA, s0, s1]
        refine sy 4 19 rfl rfl ?_ (hy := by (intro w hSw; (try dsimp only at hSw); have hq := HB.out _ hSw; obtain ⟨⟨b0, b1, b2, b3, b4, b5, b6⟩, q0, q1, q2, q3, q4, q5, q6⟩ := hq; go_simp; try with_reducible rfl))
        try simp only [Act.put, sA, s0, s1]
        refine sy 5 20 rfl rfl ?_
        try simp only [Act.put, sA, s0, s1]
        refine sy 6 21 rfl rfl ?_ (hy := by (intro w hSw; (try dsimp only at hSw); have hq := HB.out _ hSw; obtain ⟨⟨b0, b1, b2, b3, b4, b5, b6⟩, q0, q1, q2, q3, q4, q5, q6⟩ := hq; go_simp; try with_reducible rfl))
        try simp only [Act.put, sA, s0, s1]
        refine sy 7 22 rfl rfl ?_
        try simp only [Act.put, sA, s0, s1]
        refine sy 8 23 rfl rfl ?_
        try simp only [Act.put, sA, s0, s1]
        refine sn 9 24 rfl rfl ?_
        try simp only [Act.put, sA, s0, s1]
        refine sn 10 25 rfl rfl ?_
        try simp only [Act.put, sA, s0, s1]
        refine sn 11 26 rfl rfl ?_
        try simp only [Act.put, sA, s0, s1]
        refine sn 12 27 rfl rfl ?_
        try simp only [Act.put, sA, s0, s1]
        refine sn 13 28 rfl rfl ?_
        try simp only [Act.put, sA, s0, s1]
        refine sn 14 29 rfl rfl ?_
        try simp only [Act.put, sA, s0, s1]
        refine sy 15 30 rfl rfl ?_
        try simp only [Act.put, sA, s0, s1]
        refine wpAnyH_done (by kernel_rfl) ?_ _
        have PE := Lib.hid (PC.out.trans hHeld)
        clear hHeld HB AHD
        go_wp2
        go_ret
        exact ⟨_, c, xs, rfl, Nat.le_succ _, by rw [ST.out]; exact HX.out, HA.out.chg PE.out (by simp), C1.out.trans PE.out⟩
      by_cases h1 : x.n = y.n
      · have dq : ((x.n == y.n) : Bool) = true := by simpa using h1
        have dr : ((x.s == y.s) : Bool) = false := by simpa using (fun q => hd ⟨h1, q⟩)
        replace hd := Lib.hid hd
        clear h1
        refine wp_region_held_drew (S := fun w' => Chg [] wr w') (by kernel_rfl) (Chg.refl [] wr).drew (fun hHeld => ?_)
        refine sy 0 15 rfl rfl ?_
        try simp only [Act.put, sA, s0, s1]
        refine sy 1 16 rfl rfl ?_
        try simp only [Act.put, sA, s0, s1]
        refine sy 2 17 rfl rfl ?_
        try simp only [Act.put, sA, s0, s1]
        refine sy 3 18 rfl rfl ?_
        try simp only [Act.put, sA, s0, s1]
        refine sy 4 19 rfl rfl ?_ (hy := by (intro w hSw; (try dsimp only at hSw); have hq := HB.out _ hSw; obtain ⟨⟨b0, b1, b2, b3, b4, b5, b6⟩, q0, q1, q2, q3, q4, q5, q6⟩ := hq; go_simp; try with_reducible rfl))
        try simp only [Act.put, sA, s0, s1]
        refine sy 5 20 rfl rfl ?_
        try simp only [Act.put, sA, s0, s1]
        refine sy 6 21 rfl rfl ?_ (hy := by (intro w hSw; (try dsimp only at hSw); have hq := HB.out _ hSw; obtain ⟨⟨b0, b1, b2, b3, b4, b5, b6⟩, q0, q1, q2, q3, q4, q5, q6⟩ := hq; go_simp; try with_reducible rfl))
        try simp only [Act.put, sA, s0, s1]
        refine sy 7 22 rfl rfl ?_
        try simp only [Act.put, sA, s0, s1]
        refine sy 8 23 rfl rfl ?_
        try simp only [Act.put, sA, s0, s1]
        refine sy 9 24 rfl rfl ?_ (hy := by (intro w hSw; (try dsimp only at hSw); have hq := HB.out _ hSw; obtain ⟨⟨b0, b1, b2, b3, b4, b5, b6⟩, q0, q1, q2, q3, q4, q5, q6⟩ := hq; go_simp; try with_reducible rfl))
        try simp only [Act.put, sA, s0, s1]
        refine sy 10 25 rfl rfl ?_
        try simp only [Act.put, sA, s0, s1]
        refine sy 11 26 rfl rfl ?_
        try simp only [Act.put, sA, s0, s1]
        refine sy 12 27 rfl rfl ?_
        try simp only [Act.put, sA, s0, s1]
        refine sy 13 28 rfl rfl ?_ (hy := by (intro w hSw; (try dsimp only at hSw); have hq := HB.out _ hSw; obtain ⟨⟨b0, b1, b2, b3, b4, b5, b6⟩, q0, q1, q2, q3, q4, q5, q6⟩ := hq; go_simp; try with_reducible rfl))
        try simp only [Act.put, sA, s0, s1]
        refine wpAnyH_ready (rs := [14]) (by kernel_rfl) (by simp) ?_
        refine AllReadyH.cons rfl (fun K hK => ?_) AllReadyH.nil
        replace hK := Lib.hid hK
        go_simp
        refine (AHD.out _ hHeld).mono ?_
        rintro r w9 ⟨rfl, hc⟩
        have C9 := Lib.hid (hHeld.trans hc)
        clear hc hHeld
        refine hK.out _ _ C9.out (fun hHeld => ?_)
        clear hK K
        try simp only [Act.put, sA, s0, s1]
        refine sy 15 30 rfl rfl ?_
        try simp only [Act.put, sA, s0, s1]
        refine wpAnyH_done (by kernel_rfl) ?_ _
        clear HB AHD
        have PE := Lib.hid (PC.out.trans C9.out)
        clear hHeld
        rcases ha : aheadP f e with _ | _
        · have NS1 : Hid (∀ x ∈ es.take (k + 1), ¬ (x.n = f.n ∧ x.s = f.s) ∧ aheadP f x = false) := Lib.hid (fun z hz => by
            rw [List.take_add_one, EE.out] at hz
            rcases List.mem_append.1 hz with q | q
            · exact NS.out z q
            · simp at q; subst q; exact ⟨fun q => hd.out ⟨by rw [XD.out.1, XD.out.2.2.1]; exact q.1, by rw [XD.out.2.1, XD.out.2.2.2]; exact q.2⟩, ha⟩)
          clear ha NS
          go_wp2
          go_round
          case rel => exact ⟨k + 1, by omega, by go_num, NS1, PE⟩
          case measure => simp [RowKit.intOf]; omega
        · have ST : Hid (putE es f = es) := Lib.hid (put_stay (stay_iff.2 ⟨e, List.mem_of_getElem? EE.out, .inr ha⟩))
          clear ha
          go_wp2
          go_ret
          exact ⟨_, c, xs, rfl, Nat.le_succ _, by rw [ST.out]; exact HX.out, HA.out.chg PE.out (by simp), C1.out.trans PE.out⟩
      have dq : ((x.n == y.n) : Bool) = false := by simpa using h1
      replace hd := Lib.hid hd
      clear h1
      refine wp_region_held_drew (S := fun w' => Chg [] wr w') (by kernel_rfl) (Chg.refl [] wr).drew (fun hHeld => ?_)
      refine sy 0 15 rfl rfl ?_
      try simp only [Act.put, sA, s0, s1]
      refine sy 1 16 rfl rfl ?_
      try simp only [Act.put, sA, s0, s1]
      refine sy 2 17 rfl rfl ?_
      try simp only [Act.put, sA, s0, s1]
      refine sy 3 18 rfl rfl ?_
      try simp only [Act.put, sA, s0, s1]
      refine sy 4 19 rfl rfl ?_ (hy := by (intro w hSw; (try dsimp only at hSw); have hq := HB.out _ hSw; obtain ⟨⟨b0, b1, b2, b3, b4, b5, b6⟩, q0, q1, q2, q3, q4, q5, q6⟩ := hq; go_simp; try with_reducible rfl))
      try simp only [Act.put, sA, s0, s1]
      refine sy 5 20 rfl rfl ?_
      try simp only [Act.put, sA, s0, s1]
      refine sy 6 21 rfl rfl ?_ (hy := by (intro w hSw; (try dsimp only at hSw); have hq := HB.out _ hSw; obtain ⟨⟨b0, b1, b2, b3, b4, b5, b6⟩, q0, q1, q2, q3, q4, q5, q6⟩ := hq; go_simp; try with_reducible rfl))
      try simp only [Act.put, sA, s0, s1]
      refine sy 7 22 rfl rfl ?_
      try simp only [Act.put, sA, s0, s1]
      refine sy 8 23 rfl rfl ?_
      try simp only [Act.put, sA, s0, s1]
      refine sy 9 24 rfl rfl ?_ (hy := by (intro w hSw; (try dsimp only at hSw); have hq := HB.out _ hSw; obtain ⟨⟨b0, b1, b2, b3, b4, b5, b6⟩, q0, q1, q2, q3, q4, q5, q6⟩ := hq; go_simp; try with_reducible rfl))
      try simp only [Act.put, sA, s0, s1]
      refine sy 10 25 rfl rfl ?_
      try simp only [Act.put, sA, s0, s1]
      refine sy 11 26 rfl rfl ?_
      try simp only [Act.put, sA, s0, s1]
      refine sy 12 27 rfl rfl ?_
      try simp only [Act.put, sA, s0, s1]
      refine sy 13 28 rfl rfl ?_ (hy := by (intro w hSw; (try dsimp only at hSw); have hq := HB.out _ hSw; obtain ⟨⟨b0, b1, b2, b3, b4, b5, b6⟩, q0, q1, q2, q3, q4, q5, q6⟩ := hq; go_simp; try with_reducible rfl))
      try simp only [Act.put, sA, s0, s1]
      refine wpAnyH_ready (rs := [14]) (by kernel_rfl) (by simp) ?_
      refine AllReadyH.cons rfl (fun K hK => ?_) AllReadyH.nil
      replace hK := Lib.hid hK
      go_simp
      refine (AHD.out _ hHeld).mono ?_
      rintro r w9 ⟨rfl, hc⟩
      have C9 := Lib.hid (hHeld.trans hc)
      clear hc hHeld
      refine hK.out _ _ C9.out (fun hHeld => ?_)
      clear hK K
      try simp only [Act.put, sA, s0, s1]
      refine sy 15 30 rfl rfl ?_
      try simp only [Act.put, sA, s0, s1]
      refine wpAnyH_done (by kernel_rfl) ?_ _
      clear HB AHD
      have PE := Lib.hid (PC.out.trans C9.out)
      clear hHeld
      rcases ha : aheadP f e with _ | _
      · have NS1 : Hid (∀ x ∈ es.take (k + 1), ¬ (x.n = f.n ∧ x.s = f.s) ∧ aheadP f x = false) := Lib.hid (fun z hz => by
          rw [List.take_add_one, EE.out] at hz
          rcases List.mem_append.1 hz with q | q
          · exact NS.out z q
          · simp at q; subst q; exact ⟨fun q => hd.out ⟨by rw [XD.out.1, XD.out.2.2.1]; exact q.1, by rw [XD.out.2.1, XD.out.2.2.2]; exact q.2⟩, ha⟩)
        clear ha NS
        go_wp2
        go_round
        case rel => exact ⟨k + 1, by omega, by go_num, NS1, PE⟩
        case measure => simp [RowKit.intOf]; omega
      · have ST : Hid (putE es f = es) := Lib.hid (put_stay (stay_iff.2 ⟨e, List.mem_of_getElem? EE.out, .inr ha⟩))
        clear ha
        go_wp2
        go_ret
        exact ⟨_, c, xs, rfl, Nat.le_succ _, by rw [ST.out]; exact HX.out, HA.out.chg PE.out (by simp), C1.out.trans PE.out⟩
    · obtain rfl : k = xs.length := by omega
      have j1 : ¬ (xs.length : Int) < (xs.length : Int) := by omega
      have NST : Hid (stayE es f = false) := Lib.hid (by
        rcases q : stayE es f with _ | _
        · rfl
        · obtain ⟨x, hx, hh⟩ := stay_iff.1 q
          have := NS.out x (by rw [HX.out.1, List.take_length]; exact hx)
          rcases hh with a | a
          · exact absurd a this.1
          · rw [this.2] at a; cases a)
      clear NS
      go_wp2
      go_loopw [6, 7, 8] (fun v6 v7 v8 wr => ∃ (k : Nat) (A1 : Option Addr) (d1 : Nat) (ys : List EvT) (fs : List EvP) (dn : Bool), k ≤ xs.length ∧ ys.length ≤ k + dn.toNat ∧ v6 = .slice A1 ys.length d1 ∧ v7 = .bool dn ∧ v8 = .int .i64 k ∧ Hid ((es.take k).foldl (stepD f) ([], false) = (fs, dn)) ∧ Hid (OwnK evTy wr A1 d1 ys) ∧ Hid (EvsR w ys fs) ∧ Hid (∀ a, A1 = some a → w1.heap.size ≤ a.block) ∧ Hid (Chg [] w1 wr)) (fun _ _ v8 _ => xs.length - (RowKit.intOf v8).toNat)
      case atStart => exact ⟨0, none, 0, [], [], false, Nat.zero_le _, Nat.zero_le _, rfl, rfl, rfl, Lib.hid rfl, OwnK.none_ _, Lib.hid (EvsR.nil _), Lib.hid (by simp), PC⟩
      case round =>
        obtain ⟨k, A1, d1, ys, fs, dn, hk, hyl, rfl, rfl, rfl, FD, RO, RE, RN, PC⟩ := hrel
        have j0 : (0 : Int) ≤ (k : Int) := by omega
        by_cases hlt : k < xs.length
        · have j1 : (k : Int) < (xs.length : Int) := by omega
          have j3 : IntKind.i64.wrap ((k : Int) + 1) = (k : Int) + 1 := IntWalk.i64_in _ (by have := HN.out; omega)
          obtain ⟨g3, o3, eA, _⟩ := HA.out.line (by omega)
          subst eA
          obtain ⟨x, e, ex, ee, rx⟩ := HX.out.at_ hlt
          have EX := Lib.hid ex
          have RX1 := Lib.hid rx
          have ES1 := Lib.hid (HS.out e (List.mem_of_getElem? ee))
          have LE : Hid (LtEv f e ↔ LtD y.n y.s x.n x.s) := Lib.hid (by unfold LtEv; rw [rx.n, rx.s, HY.out.n, HY.out.s])
          have FK : Hid ((es.take (k + 1)).foldl (stepD f) ([], false) = stepD f (fs, dn) e) := Lib.hid (by rw [List.take_add_one, ee, List.foldl_append, FD.out]; rfl)
          clear ex ee rx FD
          go_upto_region 11 with fail
          have HB : Hid (∀ w', Chg [] wr w' → (w'.cell? ⟨g1, 0, none⟩ = some (.int .i64 y.n) ∧ w'.cell? ⟨g1, 1, none⟩ = some (.int .i64 y.s) ∧ w'.cell? ⟨g1, 2, none⟩ = some (.string y.p) ∧ w'.cell? ⟨g1, 3, none⟩ = some (.int .i64 y.k) ∧ w'.cell? ⟨g1, 4, none⟩ = some (.int .i64 y.m) ∧ w'.cell? ⟨g1, 5, none⟩ = some (.slice y.A y.l y.c) ∧ w'.cell? ⟨g1, 6, none⟩ = some (.slice y.B y.bl y.bc)) ∧ (w'.cell? ⟨g3, o3 + k * 7, none⟩ = some (.int .i64 x.n) ∧ w'.cell? ⟨g3, o3 + k * 7 + 1, none⟩ = some (.int .i64 x.s) ∧ w'.cell? ⟨g3, o3 + k * 7 + 2, none⟩ = some (.string x.p) ∧ w'.cell? ⟨g3, o3 + k * 7 + 3, none⟩ = some (.int .i64 x.k) ∧ w'.cell? ⟨g3, o3 + k * 7 + 4, none⟩ = some (.int .i64 x.m) ∧ w'.cell? ⟨g3, o3 + k * 7 + 5, none⟩ = some (.slice x.A x.l x.c) ∧ w'.cell? ⟨g3, o3 + k * 7 + 6, none⟩ = some (.slice x.B x.bl x.bc))) := Lib.hid (fun w' hc => by
            have b := hc.at_ (PC.out.at_ B1.out (by simp)) (by simp)
            exact ⟨⟨cell_of b 0, cell_of b 1, cell_of b 2, cell_of b 3, cell_of b 4, cell_of b 5, cell_of b 6⟩, evCells (HA.out.chg (PC.out.trans hc) (by simp)) EX.out⟩)
          rcases dn with _ | _
          · have YL : Hid (ys.length ≤ k) := Lib.hid (by simpa using hyl)
            clear hyl
            by_cases hl : LtD y.n y.s x.n x.s
            · have dl := decide_eq_true hl
              have SE : Hid (stepD f (fs, false) e = if aheadP e f = true then (fs ++ [f], true) else (fs ++ [f] ++ [e], true)) := Lib.hid (by unfold stepD; simp [LE.out.2 hl])
              replace SE := SE.out
              clear hl LE
              refine wp_region_held_drew (S := fun w' => Chg [] wr w') (by kernel_rfl) (Chg.refl [] wr).drew (fun hHeld => ?_)
              refine sy 0 38 rfl rfl ?_
              try simp only [Act.put, sA, s0, s1]
              refine sy 1 39 rfl rfl ?_
              try simp only [Act.put, sA, s0, s1]
              refine sy 2 40 rfl rfl ?_
              try simp only [Act.put, sA, s0, s1]
              refine sy 3 41 rfl rfl ?_
              try simp only [Act.put, sA, s0, s1]
              refine sy 4 42 rfl rfl ?_ (hy := by (intro w hSw; (try dsimp only at hSw); have hq := HB.out _ hSw; obtain ⟨⟨b0, b1, b2, b3, b4, b5, b6⟩, q0, q1, q2, q3, q4, q5, q6⟩ := hq; go_simp; try with_reducible rfl))
              try simp only [Act.put, sA, s0, s1]
              refine sy 5 43 rfl rfl ?_
              try simp only [Act.put, sA, s0, s1]
              refine sy 6 44 rfl rfl ?_
              try simp only [Act.put, sA, s0, s1]
              refine sy 7 45 rfl rfl ?_
              try simp only [Act.put, sA, s0, s1]
              refine sy 8 46 rfl rfl ?_
              try simp only [Act.put, sA, s0, s1]
              refine sy 9 47 rfl rfl ?_ (hy := by (intro w hSw; (try dsimp only at hSw); have hq := HB.out _ hSw; obtain ⟨⟨b0, b1, b2, b3, b4, b5, b6⟩, q0, q1, q2, q3, q4, q5, q6⟩ := hq; go_simp; try with_reducible rfl))
              try simp only [Act.put, sA, s0, s1]
              refine wpAnyH_ready (rs := [10]) (by kernel_rfl) (by simp) ?_
              refine AllReadyH.cons rfl (fun K hK => ?_) AllReadyH.nil
              replace hK := Lib.hid hK
              go_simp
              refine (hless_any _ _ _ _ _).mono ?_
              rintro r w8 ⟨rfl, hc⟩
              rw [dl]
              have C8 := Lib.hid (hHeld.trans hc)
              clear hc hHeld
              refine hK.out _ _ C8.out (fun hHeld => ?_)
              clear hK K
              try simp only [Act.put, sA, s0, s1]
              refine sy 11 49 rfl rfl ?_
              try simp only [Act.put, sA, s0, s1]
              refine wpAnyH_done (by kernel_rfl) ?_ _
              replace RO := Lib.hid (RO.out.chg C8.out (by simp))
              replace PC := Lib.hid (PC.out.trans C8.out)
              clear hHeld HB
              have HB : Hid (∀ w', Chg [] w8 w' → (w'.cell? ⟨g1, 0, none⟩ = some (.int .i64 y.n) ∧ w'.cell? ⟨g1, 1, none⟩ = some (.int .i64 y.s) ∧ w'.cell? ⟨g1, 2, none⟩ = some (.string y.p) ∧ w'.cell? ⟨g1, 3, none⟩ = some (.int .i64 y.k) ∧ w'.cell? ⟨g1, 4, none⟩ = some (.int .i64 y.m) ∧ w'.cell? ⟨g1, 5, none⟩ = some (.slice y.A y.l y.c) ∧ w'.cell? ⟨g1, 6, none⟩ = some (.slice y.B y.bl y.bc)) ∧ (w'.cell? ⟨g3, o3 + k * 7, none⟩ = some (.int .i64 x.n) ∧ w'.cell? ⟨g3, o3 + k * 7 + 1, none⟩ = some (.int .i64 x.s) ∧ w'.cell? ⟨g3, o3 + k * 7 + 2, none⟩ = some (.string x.p) ∧ w'.cell? ⟨g3, o3 + k * 7 + 3, none⟩ = some (.int .i64 x.k) ∧ w'.cell? ⟨g3, o3 + k * 7 + 4, none⟩ = some (.int .i64 x.m) ∧ w'.cell? ⟨g3, o3 + k * 7 + 5, none⟩ = some (.slice x.A x.l x.c) ∧ w'.cell? ⟨g3, o3 + k * 7 + 6, none⟩ = some (.slice x.B x.bl x.bc))) := Lib.hid (fun w' hc => by
                have b := hc.at_ (PC.out.at_ B1.out (by simp)) (by simp)
                exact ⟨⟨cell_of b 0, cell_of b 1, cell_of b 2, cell_of b 3, cell_of b 4, cell_of b 5, cell_of b 6⟩, evCells (HA.out.chg (PC.out.trans hc) (by simp)) EX.out⟩)
              obtain ⟨w3, hw3, c3, b3⟩ := news1 w8 (.cells #[.int .i64 y.n, .int .i64 y.s, .string y.p, .int .i64 y.k, .int .i64 y.m, .slice y.A y.l y.c, .slice y.B y.bl y.bc] 30)
              have W3 := Lib.hid hw3
              have R3 := Lib.hid (rd_oneEc (X := y) b3)
              have RO3 := Lib.hid (RO.out.chg c3 (by simp))
              have PC3 := Lib.hid (PC.out.trans c3)
              have N4 : Hid ((ys.length + 1) * 400 ≤ 140737488355327) := Lib.hid (by have := YL.out; have := HN.out; simp at *; omega)
              clear hw3 c3 b3
              obtain ⟨⟨b0, b1, b2, b3, b4, b5, b6⟩, q0, q1, q2, q3, q4, q5, q6⟩ := HB.out w8 (Chg.refl [] _)
              go_upto_region 14 with (at_builtin; rw [← W3.out]; refine wpList_appK (R := evTy) rfl (.tmp 50) (.tmp 52) rfl rfl (A := A1) (n := ys.length) (m := 1) (c := d1) (d := 1) (xs := ys) (ys := [y]) RO3.out rfl rfl R3.out N4.out ?_; intro A7 c7 w7 o7 g7 e7; have O7 := Lib.hid o7; have F7 := Lib.hid (fresh_appE RN.out PC3.out g7 e7); clear o7 g7 e7)
              clear q0 q1 q2 q3 q4 q5 q6 b0 b1 b2 b3 b4 b5 b6 W3 R3 RO3 PC3 N4
              clear HB
              replace RO := O7
              replace PC := Lib.hid F7.out.2
              replace RN := Lib.hid F7.out.1
              replace RE := Lib.hid (RE.out.snoc HY.out)
              replace YL : Hid ((ys ++ [y]).length ≤ k + 1) := Lib.hid (by have := YL.out; simp; omega)
              clear O7 F7
              have HB : Hid (∀ w', Chg [] w7 w' → (w'.cell? ⟨g1, 0, none⟩ = some (.int .i64 y.n) ∧ w'.cell? ⟨g1, 1, none⟩ = some (.int .i64 y.s) ∧ w'.cell? ⟨g1, 2, none⟩ = some (.string y.p) ∧ w'.cell? ⟨g1, 3, none⟩ = some (.int .i64 y.k) ∧ w'.cell? ⟨g1, 4, none⟩ = some (.int .i64 y.m) ∧ w'.cell? ⟨g1, 5, none⟩ = some (.slice y.A y.l y.c) ∧ w'.cell? ⟨g1, 6, none⟩ = some (.slice y.B y.bl y.bc)) ∧ (w'.cell? ⟨g3, o3 + k * 7, none⟩ = some (.int .i64 x.n) ∧ w'.cell? ⟨g3, o3 + k * 7 + 1, none⟩ = some (.int .i64 x.s) ∧ w'.cell? ⟨g3, o3 + k * 7 + 2, none⟩ = some (.string x.p) ∧ w'.cell? ⟨g3, o3 + k * 7 + 3, none⟩ = some (.int .i64 x.k) ∧ w'.cell? ⟨g3, o3 + k * 7 + 4, none⟩ = some (.int .i64 x.m) ∧ w'.cell? ⟨g3, o3 + k * 7 + 5, none⟩ = some (.slice x.A x.l x.c) ∧ w'.cell? ⟨g3, o3 + k * 7 + 6, none⟩ = some (.slice x.B x.bl x.bc))) := Lib.hid (fun w' hc => by
                have b := hc.at_ (PC.out.at_ B1.out (by simp)) (by simp)
                exact ⟨⟨cell_of b 0, cell_of b 1, cell_of b 2, cell_of b 3, cell_of b 4, cell_of b 5, cell_of b 6⟩, evCells (HA.out.chg (PC.out.trans hc) (by simp)) EX.out⟩)
              have AHD : Hid (∀ w', Chg [] w7 w' → Calls Tryz.prog 47 #[.agg #[.int .i64 x.n, .int .i64 x.s, .string x.p, .int .i64 x.k, .int .i64 x.m, .slice x.A x.l x.c, .slice x.B x.bl x.bc], .agg #[.int .i64 y.n, .int .i64 y.s, .string y.p, .int .i64 y.k, .int .i64 y.m, .slice y.A y.l y.c, .slice y.B y.bl y.bc]] w' fun r w2 => r = .returned (.bool (aheadP e f)) ∧ Chg [] w' w2) := Lib.hid (fun w' hc => veahead_any w' x y e f (RX1.out.chg (C1.out.trans (PC.out.trans hc))) (HY.out.chg (C1.out.trans (PC.out.trans hc))) ES1.out HT.out)
              refine wp_region_held_drew (S := fun w' => Chg [] w7 w') (by kernel_rfl) (Chg.refl [] w7).drew (fun hHeld => ?_)
              refine sy 0 54 rfl rfl ?_
              try simp only [Act.put, sA, s0, s1]
              refine sy 1 55 rfl rfl ?_
              try simp only [Act.put, sA, s0, s1]
              refine sy 2 56 rfl rfl ?_
              try simp only [Act.put, sA, s0, s1]
              refine sy 3 57 rfl rfl ?_ (hy := by (intro w hSw; (try dsimp only at hSw); have hq := HB.out _ hSw; obtain ⟨⟨b0, b1, b2, b3, b4, b5, b6⟩, q0, q1, q2, q3, q4, q5, q6⟩ := hq; go_simp; try with_reducible rfl))
              try simp only [Act.put, sA, s0, s1]
              refine sy 4 58 rfl rfl ?_ (hy := by (intro w hSw; (try dsimp only at hSw); have hq := HB.out _ hSw; obtain ⟨⟨b0, b1, b2, b3, b4, b5, b6⟩, q0, q1, q2, q3, q4, q5, q6⟩ := hq; go_simp; try with_reducible rfl))
              try simp only [Act.put, sA, s0, s1]
              refine wpAnyH_ready (rs := [5]) (by kernel_rfl) (by simp) ?_
              refine AllReadyH.cons rfl (fun K hK => ?_) AllReadyH.nil
              replace hK := Lib.hid hK
              go_simp
              refine (AHD.out _ hHeld).mono ?_
              rintro r w9 ⟨rfl, hc⟩
              have C9 := Lib.hid (hHeld.trans hc)
              clear hc hHeld
              refine hK.out _ _ C9.out (fun hHeld => ?_)
              clear hK K
              try simp only [Act.put, sA, s0, s1]
              refine sy 6 60 rfl rfl ?_
              try simp only [Act.put, sA, s0, s1]
              refine wpAnyH_done (by kernel_rfl) ?_ _
              replace RO := Lib.hid (RO.out.chg C9.out (by simp))
              replace PC := Lib.hid (PC.out.trans C9.out)
              clear hHeld HB AHD
              have HB : Hid (∀ w', Chg [] w9 w' → (w'.cell? ⟨g1, 0, none⟩ = some (.int .i64 y.n) ∧ w'.cell? ⟨g1, 1, none⟩ = some (.int .i64 y.s) ∧ w'.cell? ⟨g1, 2, none⟩ = some (.string y.p) ∧ w'.cell? ⟨g1, 3, none⟩ = some (.int .i64 y.k) ∧ w'.cell? ⟨g1, 4, none⟩ = some (.int .i64 y.m) ∧ w'.cell? ⟨g1, 5, none⟩ = some (.slice y.A y.l y.c) ∧ w'.cell? ⟨g1, 6, none⟩ = some (.slice y.B y.bl y.bc)) ∧ (w'.cell? ⟨g3, o3 + k * 7, none⟩ = some (.int .i64 x.n) ∧ w'.cell? ⟨g3, o3 + k * 7 + 1, none⟩ = some (.int .i64 x.s) ∧ w'.cell? ⟨g3, o3 + k * 7 + 2, none⟩ = some (.string x.p) ∧ w'.cell? ⟨g3, o3 + k * 7 + 3, none⟩ = some (.int .i64 x.k) ∧ w'.cell? ⟨g3, o3 + k * 7 + 4, none⟩ = some (.int .i64 x.m) ∧ w'.cell? ⟨g3, o3 + k * 7 + 5, none⟩ = some (.slice x.A x.l x.c) ∧ w'.cell? ⟨g3, o3 + k * 7 + 6, none⟩ = some (.slice x.B x.bl x.bc))) := Lib.hid (fun w' hc => by
                have b := hc.at_ (PC.out.at_ B1.out (by simp)) (by simp)
                exact ⟨⟨cell_of b 0, cell_of b 1, cell_of b 2, cell_of b 3, cell_of b 4, cell_of b 5, cell_of b 6⟩, evCells (HA.out.chg (PC.out.trans hc) (by simp)) EX.out⟩)
              rcases ha : aheadP e f with _ | _
              · rw [ha] at SE
                clear ha
                obtain ⟨w3, hw3, c3, b3⟩ := news1 w9 (.cells #[.int .i64 x.n, .int .i64 x.s, .string x.p, .int .i64 x.k, .int .i64 x.m, .slice x.A x.l x.c, .slice x.B x.bl x.bc] 30)
                have W3 := Lib.hid hw3
                have R3 := Lib.hid (rd_oneEc (X := x) b3)
                have RO3 := Lib.hid (RO.out.chg c3 (by simp))
                have PC3 := Lib.hid (PC.out.trans c3)
                have N4 : Hid (((ys.length + 1) + 1) * 400 ≤ 140737488355327) := Lib.hid (by have := YL.out; have := HN.out; simp at *; omega)
                clear hw3 c3 b3
                obtain ⟨⟨b0, b1, b2, b3, b4, b5, b6⟩, q0, q1, q2, q3, q4, q5, q6⟩ := HB.out w9 (Chg.refl [] _)
                go_upto_region 10 with (at_builtin; rw [← W3.out]; refine wpList_appK (R := evTy) rfl (.tmp 61) (.tmp 66) rfl rfl (A := A7) (n := (ys.length + 1)) (m := 1) (c := c7) (d := 1) (xs := (ys ++ [y])) (ys := [x]) RO3.out (by simp) rfl R3.out N4.out ?_; intro A6 c6 w6 o7 g7 e7; have O6 := Lib.hid o7; have F6 := Lib.hid (fresh_appE RN.out PC3.out g7 e7); clear o7 g7 e7)
                clear q0 q1 q2 q3 q4 q5 q6 b0 b1 b2 b3 b4 b5 b6 W3 R3 RO3 PC3 N4
                clear HB
                go_wp2
                go_round
                case rel => exact ⟨k + 1, A6, c6, (ys ++ [y]) ++ [x], (fs ++ [f]) ++ [e], true, by omega, by have := YL.out; simp at *; omega, by simp, rfl, by go_num, Lib.hid (by rw [FK.out, SE]; rfl), O6, Lib.hid (RE.out.snoc RX1.out), Lib.hid F6.out.1, F6.out.2⟩
                case measure => simp [RowKit.intOf]; omega
              · rw [ha] at SE
                clear ha HB
                go_wp2
                go_round
                case rel => exact ⟨k + 1, A7, c7, (ys ++ [y]), (fs ++ [f]), true, by omega, by have := YL.out; simp at *; omega, by simp, rfl, by go_num, Lib.hid (by rw [FK.out, SE]; rfl), RO, RE, RN, PC⟩
                case measure => simp [RowKit.intOf]; omega
            · have dl := decide_eq_false hl
              have SE : Hid (stepD f (fs, false) e = if aheadP e f = true then (fs, false) else (fs ++ [e], false)) := Lib.hid (by unfold stepD; simp [mt LE.out.1 hl])
              replace SE := SE.out
              clear hl LE
              refine wp_region_held_drew (S := fun w' => Chg [] wr w') (by kernel_rfl) (Chg.refl [] wr).drew (fun hHeld => ?_)
              refine sy 0 38 rfl rfl ?_
              try simp only [Act.put, sA, s0, s1]
              refine sy 1 39 rfl rfl ?_
              try simp only [Act.put, sA, s0, s1]
              refine sy 2 40 rfl rfl ?_
              try simp only [Act.put, sA, s0, s1]
              refine sy 3 41 rfl rfl ?_
              try simp only [Act.put, sA, s0, s1]
              refine sy 4 42 rfl rfl ?_ (hy := by (intro w hSw; (try dsimp only at hSw); have hq := HB.out _ hSw; obtain ⟨⟨b0, b1, b2, b3, b4, b5, b6⟩, q0, q1, q2, q3, q4, q5, q6⟩ := hq; go_simp; try with_reducible rfl))
              try simp only [Act.put, sA, s0, s1]
              refine sy 5 43 rfl rfl ?_
              try simp only [Act.put, sA, s0, s1]
              refine sy 6 44 rfl rfl ?_
              try simp only [Act.put, sA, s0, s1]
              refine sy 7 45 rfl rfl ?_
              try simp only [Act.put, sA, s0, s1]
              refine sy 8 46 rfl rfl ?_
              try simp only [Act.put, sA, s0, s1]
              refine sy 9 47 rfl rfl ?_ (hy := by (intro w hSw; (try dsimp only at hSw); have hq := HB.out _ hSw; obtain ⟨⟨b0, b1, b2, b3, b4, b5, b6⟩, q0, q1, q2, q3, q4, q5, q6⟩ := hq; go_simp; try with_reducible rfl))
              try simp only [Act.put, sA, s0, s1]
              refine wpAnyH_ready (rs := [10]) (by kernel_rfl) (by simp) ?_
              refine AllReadyH.cons rfl (fun K hK => ?_) AllReadyH.nil
              replace hK := Lib.hid hK
              go_simp
              refine (hless_any _ _ _ _ _).mono ?_
              rintro r w8 ⟨rfl, hc⟩
              rw [dl]
              have C8 := Lib.hid (hHeld.trans hc)
              clear hc hHeld
              refine hK.out _ _ C8.out (fun hHeld => ?_)
              clear hK K
              try simp only [Act.put, sA, s0, s1]
              refine sy 11 49 rfl rfl ?_
              try simp only [Act.put, sA, s0, s1]
              refine wpAnyH_done (by kernel_rfl) ?_ _
              replace RO := Lib.hid (RO.out.chg C8.out (by simp))
              replace PC := Lib.hid (PC.out.trans C8.out)
              clear hHeld HB
              have HB : Hid (∀ w', Chg [] w8 w' → (w'.cell? ⟨g1, 0, none⟩ = some (.int .i64 y.n) ∧ w'.cell? ⟨g1, 1, none⟩ = some (.int .i64 y.s) ∧ w'.cell? ⟨g1, 2, none⟩ = some (.string y.p) ∧ w'.cell? ⟨g1, 3, none⟩ = some (.int .i64 y.k) ∧ w'.cell? ⟨g1, 4, none⟩ = some (.int .i64 y.m) ∧ w'.cell? ⟨g1, 5, none⟩ = some (.slice y.A y.l y.c) ∧ w'.cell? ⟨g1, 6, none⟩ = some (.slice y.B y.bl y.bc)) ∧ (w'.cell? ⟨g3, o3 + k * 7, none⟩ = some (.int .i64 x.n) ∧ w'.cell? ⟨g3, o3 + k * 7 + 1, none⟩ = some (.int .i64 x.s) ∧ w'.cell? ⟨g3, o3 + k * 7 + 2, none⟩ = some (.string x.p) ∧ w'.cell? ⟨g3, o3 + k * 7 + 3, none⟩ = some (.int .i64 x.k) ∧ w'.cell? ⟨g3, o3 + k * 7 + 4, none⟩ = some (.int .i64 x.m) ∧ w'.cell? ⟨g3, o3 + k * 7 + 5, none⟩ = some (.slice x.A x.l x.c) ∧ w'.cell? ⟨g3, o3 + k * 7 + 6, none⟩ = some (.slice x.B x.bl x.bc))) := Lib.hid (fun w' hc => by
                have b := hc.at_ (PC.out.at_ B1.out (by simp)) (by simp)
                exact ⟨⟨cell_of b 0, cell_of b 1, cell_of b 2, cell_of b 3, cell_of b 4, cell_of b 5, cell_of b 6⟩, evCells (HA.out.chg (PC.out.trans hc) (by simp)) EX.out⟩)
              go_upto_region 14 with fail
              have AHD : Hid (∀ w', Chg [] w8 w' → Calls Tryz.prog 47 #[.agg #[.int .i64 x.n, .int .i64 x.s, .string x.p, .int .i64 x.k, .int .i64 x.m, .slice x.A x.l x.c, .slice x.B x.bl x.bc], .agg #[.int .i64 y.n, .int .i64 y.s, .string y.p, .int .i64 y.k, .int .i64 y.m, .slice y.A y.l y.c, .slice y.B y.bl y.bc]] w' fun r w2 => r = .returned (.bool (aheadP e f)) ∧ Chg [] w' w2) := Lib.hid (fun w' hc => veahead_any w' x y e f (RX1.out.chg (C1.out.trans (PC.out.trans hc))) (HY.out.chg (C1.out.trans (PC.out.trans hc))) ES1.out HT.out)
              refine wp_region_held_drew (S := fun w' => Chg [] w8 w') (by kernel_rfl) (Chg.refl [] w8).drew (fun hHeld => ?_)
              refine sy 0 54 rfl rfl ?_
              try simp only [Act.put, sA, s0, s1]
              refine sy 1 55 rfl rfl ?_
              try simp only [Act.put, sA, s0, s1]
              refine sy 2 56 rfl rfl ?_
              try simp only [Act.put, sA, s0, s1]
              refine sy 3 57 rfl rfl ?_ (hy := by (intro w hSw; (try dsimp only at hSw); have hq := HB.out _ hSw; obtain ⟨⟨b0, b1, b2, b3, b4, b5, b6⟩, q0, q1, q2, q3, q4, q5, q6⟩ := hq; go_simp; try with_reducible rfl))
              try simp only [Act.put, sA, s0, s1]
              refine sy 4 58 rfl rfl ?_ (hy := by (intro w hSw; (try dsimp only at hSw); have hq := HB.out _ hSw; obtain ⟨⟨b0, b1, b2, b3, b4, b5, b6⟩, q0, q1, q2, q3, q4, q5, q6⟩ := hq; go_simp; try with_reducible rfl))
              try simp only [Act.put, sA, s0, s1]
              refine wpAnyH_ready (rs := [5]) (by kernel_rfl) (by simp) ?_
              refine AllReadyH.cons rfl (fun K hK => ?_) AllReadyH.nil
              replace hK := Lib.hid hK
              go_simp
              refine (AHD.out _ hHeld).mono ?_
              rintro r w9 ⟨rfl, hc⟩
              have C9 := Lib.hid (hHeld.trans hc)
              clear hc hHeld
              refine hK.out _ _ C9.out (fun hHeld => ?_)
              clear hK K
              try simp only [Act.put, sA, s0, s1]
              refine sy 6 60 rfl rfl ?_
              try simp only [Act.put, sA, s0, s1]
              refine wpAnyH_done (by kernel_rfl) ?_ _
              replace RO := Lib.hid (RO.out.chg C9.out (by simp))
              replace PC := Lib.hid (PC.out.trans C9.out)
              clear hHeld HB AHD
              have HB : Hid (∀ w', Chg [] w9 w' → (w'.cell? ⟨g1, 0, none⟩ = some (.int .i64 y.n) ∧ w'.cell? ⟨g1, 1, none⟩ = some (.int .i64 y.s) ∧ w'.cell? ⟨g1, 2, none⟩ = some (.string y.p) ∧ w'.cell? ⟨g1, 3, none⟩ = some (.int .i64 y.k) ∧ w'.cell? ⟨g1, 4, none⟩ = some (.int .i64 y.m) ∧ w'.cell? ⟨g1, 5, none⟩ = some (.slice y.A y.l y.c) ∧ w'.cell? ⟨g1, 6, none⟩ = some (.slice y.B y.bl y.bc)) ∧ (w'.cell? ⟨g3, o3 + k * 7, none⟩ = some (.int .i64 x.n) ∧ w'.cell? ⟨g3, o3 + k * 7 + 1, none⟩ = some (.int .i64 x.s) ∧ w'.cell? ⟨g3, o3 + k * 7 + 2, none⟩ = some (.string x.p) ∧ w'.cell? ⟨g3, o3 + k * 7 + 3, none⟩ = some (.int .i64 x.k) ∧ w'.cell? ⟨g3, o3 + k * 7 + 4, none⟩ = some (.int .i64 x.m) ∧ w'.cell? ⟨g3, o3 + k * 7 + 5, none⟩ = some (.slice x.A x.l x.c) ∧ w'.cell? ⟨g3, o3 + k * 7 + 6, none⟩ = some (.slice x.B x.bl x.bc))) := Lib.hid (fun w' hc => by
                have b := hc.at_ (PC.out.at_ B1.out (by simp)) (by simp)
                exact ⟨⟨cell_of b 0, cell_of b 1, cell_of b 2, cell_of b 3, cell_of b 4, cell_of b 5, cell_of b 6⟩, evCells (HA.out.chg (PC.out.trans hc) (by simp)) EX.out⟩)
              rcases ha : aheadP e f with _ | _
              · rw [ha] at SE
                clear ha
                obtain ⟨w3, hw3, c3, b3⟩ := news1 w9 (.cells #[.int .i64 x.n, .int .i64 x.s, .string x.p, .int .i64 x.k, .int .i64 x.m, .slice x.A x.l x.c, .slice x.B x.bl x.bc] 30)
                have W3 := Lib.hid hw3
                have R3 := Lib.hid (rd_oneEc (X := x) b3)
                have RO3 := Lib.hid (RO.out.chg c3 (by simp))
                have PC3 := Lib.hid (PC.out.trans c3)
                have N4 : Hid ((ys.length + 1) * 400 ≤ 140737488355327) := Lib.hid (by have := YL.out; have := HN.out; simp at *; omega)
                clear hw3 c3 b3
                obtain ⟨⟨b0, b1, b2, b3, b4, b5, b6⟩, q0, q1, q2, q3, q4, q5, q6⟩ := HB.out w9 (Chg.refl [] _)
                go_upto_region 10 with (at_builtin; rw [← W3.out]; refine wpList_appK (R := evTy) rfl (.tmp 61) (.tmp 66) rfl rfl (A := A1) (n := ys.length) (m := 1) (c := d1) (d := 1) (xs := ys) (ys := [x]) RO3.out rfl rfl R3.out N4.out ?_; intro A6 c6 w6 o7 g7 e7; have O6 := Lib.hid o7; have F6 := Lib.hid (fresh_appE RN.out PC3.out g7 e7); clear o7 g7 e7)
                clear q0 q1 q2 q3 q4 q5 q6 b0 b1 b2 b3 b4 b5 b6 W3 R3 RO3 PC3 N4
                clear HB
                go_wp2
                go_round
                case rel => exact ⟨k + 1, A6, c6, ys ++ [x], fs ++ [e], false, by omega, by have := YL.out; simp at *; omega, by simp, rfl, by go_num, Lib.hid (by rw [FK.out, SE]; rfl), O6, Lib.hid (RE.out.snoc RX1.out), Lib.hid F6.out.1, F6.out.2⟩
                case measure => simp [RowKit.intOf]; omega
              · rw [ha] at SE
                clear ha HB
                go_wp2
                go_round
                case rel => exact ⟨k + 1, A1, d1, ys, fs, false, by omega, by have := YL.out; simp at *; omega, by simp, rfl, by go_num, Lib.hid (by rw [FK.out, SE]; rfl), RO, RE, RN, PC⟩
                case measure => simp [RowKit.intOf]; omega
          · have YL : Hid (ys.length ≤ k + 1) := Lib.hid (by simpa using hyl)
            clear hyl
            have SE : Hid (stepD f (fs, true) e = if aheadP e f = true then (fs, true) else (fs ++ [e], true)) := Lib.hid (by unfold stepD; simp)
            replace SE := SE.out
            clear LE
            refine wp_region_held_drew (S := fun w' => Chg [] wr w') (by kernel_rfl) (Chg.refl [] wr).drew (fun hHeld => ?_)
            refine sy 0 38 rfl rfl ?_
            try simp only [Act.put, sA, s0, s1]
            refine sy 1 39 rfl rfl ?_
            try simp only [Act.put, sA, s0, s1]
            refine sy 2 40 rfl rfl ?_
            try simp only [Act.put, sA, s0, s1]
            refine sn 3 41 rfl rfl ?_
            try simp only [Act.put, sA, s0, s1]
            refine sn 4 42 rfl rfl ?_
            try simp only [Act.put, sA, s0, s1]
            refine sn 5 43 rfl rfl ?_
            try simp only [Act.put, sA, s0, s1]
            refine sn 6 44 rfl rfl ?_
            try simp only [Act.put, sA, s0, s1]
            refine sn 7 45 rfl rfl ?_
            try simp only [Act.put, sA, s0, s1]
            refine sn 8 46 rfl rfl ?_
            try simp only [Act.put, sA, s0, s1]
            refine sn 9 47 rfl rfl ?_
            try simp only [Act.put, sA, s0, s1]
            refine sn 10 48 rfl rfl ?_
            try simp only [Act.put, sA, s0, s1]
            refine sy 11 49 rfl rfl ?_
            try simp only [Act.put, sA, s0, s1]
            refine wpAnyH_done (by kernel_rfl) ?_ _
            have C8 := Lib.hid hHeld
            clear hHeld
            clear HB
            obtain ⟨w8, hw8⟩ : ∃ w8, wr.drew = w8 := ⟨_, rfl⟩
            rw [hw8] at C8 ⊢
            replace RO := Lib.hid (RO.out.chg C8.out (by simp))
            replace PC := Lib.hid (PC.out.trans C8.out)
            have HB : Hid (∀ w', Chg [] w8 w' → (w'.cell? ⟨g1, 0, none⟩ = some (.int .i64 y.n) ∧ w'.cell? ⟨g1, 1, none⟩ = some (.int .i64 y.s) ∧ w'.cell? ⟨g1, 2, none⟩ = some (.string y.p) ∧ w'.cell? ⟨g1, 3, none⟩ = some (.int .i64 y.k) ∧ w'.cell? ⟨g1, 4, none⟩ = some (.int .i64 y.m) ∧ w'.cell? ⟨g1, 5, none⟩ = some (.slice y.A y.l y.c) ∧ w'.cell? ⟨g1, 6, none⟩ = some (.slice y.B y.bl y.bc)) ∧ (w'.cell? ⟨g3, o3 + k * 7, none⟩ = some (.int .i64 x.n) ∧ w'.cell? ⟨g3, o3 + k * 7 + 1, none⟩ = some (.int .i64 x.s) ∧ w'.cell? ⟨g3, o3 + k * 7 + 2, none⟩ = some (.string x.p) ∧ w'.cell? ⟨g3, o3 + k * 7 + 3, none⟩ = some (.int .i64 x.k) ∧ w'.cell? ⟨g3, o3 + k * 7 + 4, none⟩ = some (.int .i64 x.m) ∧ w'.cell? ⟨g3, o3 + k * 7 + 5, none⟩ = some (.slice x.A x.l x.c) ∧ w'.cell? ⟨g3, o3 + k * 7 + 6, none⟩ = some (.slice x.B x.bl x.bc))) := Lib.hid (fun w' hc => by
              have b := hc.at_ (PC.out.at_ B1.out (by simp)) (by simp)
              exact ⟨⟨cell_of b 0, cell_of b 1, cell_of b 2, cell_of b 3, cell_of b 4, cell_of b 5, cell_of b 6⟩, evCells (HA.out.chg (PC.out.trans hc) (by simp)) EX.out⟩)
            go_upto_region 14 with fail
            have AHD : Hid (∀ w', Chg [] w8 w' → Calls Tryz.prog 47 #[.agg #[.int .i64 x.n, .int .i64 x.s, .string x.p, .int .i64 x.k, .int .i64 x.m, .slice x.A x.l x.c, .slice x.B x.bl x.bc], .agg #[.int .i64 y.n, .int .i64 y.s, .string y.p, .int .i64 y.k, .int .i64 y.m, .slice y.A y.l y.c, .slice y.B y.bl y.bc]] w' fun r w2 => r = .returned (.bool (aheadP e f)) ∧ Chg [] w' w2) := Lib.hid (fun w' hc => veahead_any w' x y e f (RX1.out.chg (C1.out.trans (PC.out.trans hc))) (HY.out.chg (C1.out.trans (PC.out.trans hc))) ES1.out HT.out)
            refine wp_region_held_drew (S := fun w' => Chg [] w8 w') (by kernel_rfl) (Chg.refl [] w8).drew (fun hHeld => ?_)
            refine sy 0 54 rfl rfl ?_
            try simp only [Act.put, sA, s0, s1]
            refine sy 1 55 rfl rfl ?_
            try simp only [Act.put, sA, s0, s1]
            refine sy 2 56 rfl rfl ?_
            try simp only [Act.put, sA, s0, s1]
            refine sy 3 57 rfl rfl ?_ (hy := by (intro w hSw; (try dsimp only at hSw); have hq := HB.out _ hSw; obtain ⟨⟨b0, b1, b2, b3, b4, b5, b6⟩, q0, q1, q2, q3, q4, q5, q6⟩ := hq; go_simp; try with_reducible rfl))
            try simp only [Act.put, sA, s0, s1]
            refine sy 4 58 rfl rfl ?_ (hy := by (intro w hSw; (try dsimp only at hSw); have hq := HB.out _ hSw; obtain ⟨⟨b0, b1, b2, b3, b4, b5, b6⟩, q0, q1, q2, q3, q4, q5, q6⟩ := hq; go_simp; try with_reducible rfl))
            try simp only [Act.put, sA, s0, s1]
            refine wpAnyH_ready (rs := [5]) (by kernel_rfl) (by simp) ?_
            refine AllReadyH.cons rfl (fun K hK => ?_) AllReadyH.nil
            replace hK := Lib.hid hK
            go_simp
            refine (AHD.out _ hHeld).mono ?_
            rintro r w9 ⟨rfl, hc⟩
            have C9 := Lib.hid (hHeld.trans hc)
            clear hc hHeld
            refine hK.out _ _ C9.out (fun hHeld => ?_)
            clear hK K
            try simp only [Act.put, sA, s0, s1]
            refine sy 6 60 rfl rfl ?_
            try simp only [Act.put, sA, s0, s1]
            refine wpAnyH_done (by kernel_rfl) ?_ _
            replace RO := Lib.hid (RO.out.chg C9.out (by simp))
            replace PC := Lib.hid (PC.out.trans C9.out)
            clear hHeld HB AHD
            have HB : Hid (∀ w', Chg [] w9 w' → (w'.cell? ⟨g1, 0, none⟩ = some (.int .i64 y.n) ∧ w'.cell? ⟨g1, 1, none⟩ = some (.int .i64 y.s) ∧ w'.cell? ⟨g1, 2, none⟩ = some (.string y.p) ∧ w'.cell? ⟨g1, 3, none⟩ = some (.int .i64 y.k) ∧ w'.cell? ⟨g1, 4, none⟩ = some (.int .i64 y.m) ∧ w'.cell? ⟨g1, 5, none⟩ = some (.slice y.A y.l y.c) ∧ w'.cell? ⟨g1, 6, none⟩ = some (.slice y.B y.bl y.bc)) ∧ (w'.cell? ⟨g3, o3 + k * 7, none⟩ = some (.int .i64 x.n) ∧ w'.cell? ⟨g3, o3 + k * 7 + 1, none⟩ = some (.int .i64 x.s) ∧ w'.cell? ⟨g3, o3 + k * 7 + 2, none⟩ = some (.string x.p) ∧ w'.cell? ⟨g3, o3 + k * 7 + 3, none⟩ = some (.int .i64 x.k) ∧ w'.cell? ⟨g3, o3 + k * 7 + 4, none⟩ = some (.int .i64 x.m) ∧ w'.cell? ⟨g3, o3 + k * 7 + 5, none⟩ = some (.slice x.A x.l x.c) ∧ w'.cell? ⟨g3, o3 + k * 7 + 6, none⟩ = some (.slice x.B x.bl x.bc))) := Lib.hid (fun w' hc => by
              have b := hc.at_ (PC.out.at_ B1.out (by simp)) (by simp)
              exact ⟨⟨cell_of b 0, cell_of b 1, cell_of b 2, cell_of b 3, cell_of b 4, cell_of b 5, cell_of b 6⟩, evCells (HA.out.chg (PC.out.trans hc) (by simp)) EX.out⟩)
            rcases ha : aheadP e f with _ | _
            · rw [ha] at SE
              clear ha
              obtain ⟨w3, hw3, c3, b3⟩ := news1 w9 (.cells #[.int .i64 x.n, .int .i64 x.s, .string x.p, .int .i64 x.k, .int .i64 x.m, .slice x.A x.l x.c, .slice x.B x.bl x.bc] 30)
              have W3 := Lib.hid hw3
              have R3 := Lib.hid (rd_oneEc (X := x) b3)
              have RO3 := Lib.hid (RO.out.chg c3 (by simp))
              have PC3 := Lib.hid (PC.out.trans c3)
              have N4 : Hid ((ys.length + 1) * 400 ≤ 140737488355327) := Lib.hid (by have := YL.out; have := HN.out; simp at *; omega)
              clear hw3 c3 b3
              obtain ⟨⟨b0, b1, b2, b3, b4, b5, b6⟩, q0, q1, q2, q3, q4, q5, q6⟩ := HB.out w9 (Chg.refl [] _)
              go_upto_region 10 with (at_builtin; rw [← W3.out]; refine wpList_appK (R := evTy) rfl (.tmp 61) (.tmp 66) rfl rfl (A := A1) (n := ys.length) (m := 1) (c := d1) (d := 1) (xs := ys) (ys := [x]) RO3.out rfl rfl R3.out N4.out ?_; intro A6 c6 w6 o7 g7 e7; have O6 := Lib.hid o7; have F6 := Lib.hid (fresh_appE RN.out PC3.out g7 e7); clear o7 g7 e7)
              clear q0 q1 q2 q3 q4 q5 q6 b0 b1 b2 b3 b4 b5 b6 W3 R3 RO3 PC3 N4
              clear HB
              go_wp2
              go_round
              case rel => exact ⟨k + 1, A6, c6, ys ++ [x], fs ++ [e], true, by omega, by have := YL.out; simp at *; omega, by simp, rfl, by go_num, Lib.hid (by rw [FK.out, SE]; rfl), O6, Lib.hid (RE.out.snoc RX1.out), Lib.hid F6.out.1, F6.out.2⟩
              case measure => simp [RowKit.intOf]; omega
            · rw [ha] at SE
              clear ha HB
              go_wp2
              go_round
              case rel => exact ⟨k + 1, A1, d1, ys, fs, true, by omega, by have := YL.out; simp at *; omega, by simp, rfl, by go_num, Lib.hid (by rw [FK.out, SE]; rfl), RO, RE, RN, PC⟩
              case measure => simp [RowKit.intOf]; omega
        · obtain rfl : k = xs.length := by omega
          have j1 : ¬ (xs.length : Int) < (xs.length : Int) := by omega
          have ET : es.take xs.length = es := by rw [HX.out.1]; exact List.take_length
          rw [ET] at FD
          clear ET
          have PD : Hid (endD f (fs, dn) = putE es f) := Lib.hid (by rw [← FD.out]; exact putD_is HU.out NST.out)
          clear FD
          rcases dn with _ | _
          · obtain ⟨w3, hw3, c3, b3⟩ := news1 wr (.cells #[.int .i64 y.n, .int .i64 y.s, .string y.p, .int .i64 y.k, .int .i64 y.m, .slice y.A y.l y.c, .slice y.B y.bl y.bc] 30)
            have W3 := Lib.hid hw3
            have R3 := Lib.hid (rd_oneEc (X := y) b3)
            have RO3 := Lib.hid (RO.out.chg c3 (by simp))
            have PC3 := Lib.hid (PC.out.trans c3)
            have YL : Hid (ys.length ≤ xs.length) := Lib.hid (by simpa using hyl)
            have N4 : Hid ((ys.length + 1) * 400 ≤ 140737488355327) := Lib.hid (by have := YL.out; have := HN.out; omega)
            have b := PC.out.at_ B1.out (by simp)
            have b0 := cell_of b 0
            have b1 := cell_of b 1
            have b2 := cell_of b 2
            have b3' := cell_of b 3
            have b4 := cell_of b 4
            have b5 := cell_of b 5
            have b6 := cell_of b 6
            simp only [List.getElem?_toArray, List.getElem?_cons_succ, List.getElem?_cons_zero] at b0 b1 b2 b3' b4 b5 b6
            clear hw3 c3 b3 b hyl
            go_upto_region 18 with (at_builtin; rw [← W3.out]; refine wpList_appK (R := evTy) rfl (.tmp 70) (.tmp 72) rfl rfl (A := A1) (n := ys.length) (m := 1) (c := d1) (d := 1) (xs := ys) (ys := [y]) RO3.out rfl rfl R3.out N4.out ?_; intro A6 c6 w6 o7 g7 e7; have O6 := Lib.hid o7; have F6 := Lib.hid (fresh_appE RN.out PC3.out g7 e7); clear o7 g7 e7)
            clear b0 b1 b2 b3' b4 b5 b6 W3 R3 RO3 PC3 N4
            go_wp2
            go_ret
            exact ⟨A6, c6, ys ++ [y], by simp, by have := YL.out; simp; omega, by rw [← PD.out]; exact RE.out.snoc HY.out, O6.out.reads, C1.out.trans F6.out.2⟩
          · have YL : Hid (ys.length ≤ xs.length + 1) := Lib.hid (by simpa using hyl)
            clear hyl
            go_wp2
            go_ret
            exact ⟨A1, d1, ys, rfl, YL.out, by rw [← PD.out]; exact RE.out, RO.out.reads, C1.out.trans PC.out⟩
end
section
open Go.RowKit Go.Lib
set_option linter.unusedSimpArgs false
set_option linter.unusedVariables false


theorem app_ownk {w w6 w7 : World} {B A2 : Option Addr} (hB : ∀ a, B = some a → w.heap.size ≤ a.block) (hC : Chg [] w w6) (d2 : w6.grownBy w7 (B.map (·.block))) (e2 : A2 = B ∨ A2 = some ⟨w6.heap.size, 0, none⟩) : (∀ a, A2 = some a → w.heap.size ≤ a.block) ∧ Chg [] w w7 := by
  refine ⟨?_, hC.grown d2 (fun i hi => ?_)⟩
  · rcases e2 with rfl | rfl
    · exact hB
    · rintro a ⟨⟩; exact hC.size
  · cases B with
    | none => simp at hi
    | some a => simp at hi; subst hi; exact .inr (hB a rfl)
theorem set7_5 {w w0 : World} {z : Nat} {s0 s1 : Nat} {a0 a1 a2 a3 a4 a5 a6 : Value} {T : TypeId} {o : Obj} (v5 : Value) (q0 : w.heap[s0]? = some (.cells #[a0, a1, a2, a3, a4, a5, a6] T (0, 0))) (q1 : w.heap[s1]? = some o) (h : s0 ≠ s1) (hz : z ≤ s0) (C : Chg [] w0 w) (hw0 : w0.heap.size = z) :
    (w.setCell ⟨s0, 5, none⟩ v5).heap[s0]? = some (.cells #[a0, a1, a2, a3, a4, v5, a6] T (0, 0)) ∧ (w.setCell ⟨s0, 5, none⟩ v5).heap[s1]? = some o ∧ Chg [] w0 (w.setCell ⟨s0, 5, none⟩ v5) := by
  have p0 := heap_setCell_same _ s0 5 _ _ v5 q0
  refine ⟨p0, ?_, ?_⟩
  · rw [Below.heap_setCell _ _ _ _ (by simp; exact fun e => h e.symm)]
    exact q1
  · exact (C.put (by omega) 5 v5)

set_option maxRecDepth 100000 in
set_option maxHeartbeats 8000000 in
/-- A copy of an event, in memory of its own. -/
theorem ksown_any (w : World) (x : EvT) (e : EvP) (h : EvR w x e) (hs : e.b.length ≤ 140737488351232 ∧ e.q.length ≤ 100000) :
    Calls Tryz.prog 43 #[.agg #[.int .i64 x.n, .int .i64 x.s, .string x.p, .int .i64 x.k, .int .i64 x.m, .slice x.A x.l x.c, .slice x.B x.bl x.bc]] w fun r w' => ∃ A' c' B' d', r = .returned (.agg #[.int .i64 x.n, .int .i64 x.s, .string x.p, .int .i64 x.k, .int .i64 x.m, .slice A' x.l c', .slice B' x.bl d']) ∧ EvR w' ⟨x.n, x.s, x.p, x.k, x.m, A', x.l, c', B', x.bl, d'⟩ e ∧ OwnB w' A' c' e.b ∧ OwnK spanTy w' B' d' e.q ∧ (∀ a, A' = some a → w.heap.size ≤ a.block) ∧ (∀ a, B' = some a → w.heap.size ≤ a.block) ∧ (∀ a b, A' = some a → B' = some b → a.block ≠ b.block) ∧ Chg [] w w' := by
  obtain ⟨w2, hw, hc, b0, b1⟩ := news2 w (.cells #[.int .i64 x.n, .int .i64 x.s, .string x.p, .int .i64 x.k, .int .i64 x.m, .slice x.A x.l x.c, .slice x.B x.bl x.bc] 30) (.cells #[.int .i64 0, .int .i64 0, .string ⟨#[]⟩, .int .i64 0, .int .i64 0, .slice none 0 0, .slice none 0 0] 30)
  have W2 := Lib.hid hw
  have HR := Lib.hid (h.chg hc)
  have HR0 := Lib.hid h
  have C := Lib.hid hc
  have HS := Lib.hid hs
  obtain ⟨g0, hg0⟩ : ∃ g, w.heap.size = g := ⟨_, rfl⟩
  obtain ⟨g1, hg1⟩ : ∃ g, w.heap.size + 1 = g := ⟨_, rfl⟩
  have SZ := Lib.hid hg0
  have S1 := Lib.hid hg1
  rw [hg0] at b0
  rw [hg1] at b1
  have B0 := Lib.hid b0
  have B1 := Lib.hid b1
  have L0 := Lib.hid (lt_of_heap b0)
  have L1 := Lib.hid (lt_of_heap b1)
  have NEg0 : Hid (g0 ≠ g1) := Lib.hid (by omega)
  have NEg1 : Hid (g1 ≠ g0) := Lib.hid (by omega)
  have LZg0 : Hid (g0 ≤ g0) := Lib.hid (Nat.le_refl _)
  have LZg1 : Hid (g0 ≤ g1) := Lib.hid (by omega)
  clear hw hc b0 b1 h hs hg0 hg1
  go_enter Tryz.func43, Tryz.ntmps43
  go_upto_region 1 with fail
  rw [← W2.out, S1.out, SZ.out]
  have z0 := cell_of B0.out 0
  have fz0 := free_of B0.out 0
  have z1 := cell_of B0.out 1
  have fz1 := free_of B0.out 1
  have z2 := cell_of B0.out 2
  have fz2 := free_of B0.out 2
  have z3 := cell_of B0.out 3
  have fz3 := free_of B0.out 3
  have z4 := cell_of B0.out 4
  have fz4 := free_of B0.out 4
  have z5 := cell_of B0.out 5
  have fz5 := free_of B0.out 5
  have z6 := cell_of B0.out 6
  have fz6 := free_of B0.out 6
  simp only [List.getElem?_toArray, List.getElem?_cons_succ, List.getElem?_cons_zero] at z0 z1 z2 z3 z4 z5 z6
  obtain ⟨wb, hwb, cb, bb⟩ := news1 w2 (.cells #[] 5)
  have WB := Lib.hid hwb
  have OB := Lib.hid (show OwnB wb (some ⟨w2.heap.size, 0, none⟩) 0 [] from .of (full := []) bb (Nat.zero_le _) (Nat.zero_le _) rfl rfl)
  have RB := Lib.hid (HR.out.A.chg cb (by simp))
  have CB := Lib.hid cb
  have BD : Hid (0 + x.l ≤ 140737488355327) := Lib.hid (by have := HS.out.1; rw [HR.out.l]; omega)
  have zb := cell_of (cb.at_ B0.out (by simp)) 5
  simp only [List.getElem?_toArray, List.getElem?_cons_succ, List.getElem?_cons_zero] at zb
  clear hwb cb bb
  go_upto_region 2 with (first | (at_builtin; refine wpList_app rfl (.tmp 3) (.tmp 6) rfl rfl OB.out rfl rfl RB.out BD.out ?_; intro A3 c3 w3 o3 g3 e3; have h3 : OwnB w3 A3 c3 e.b ∧ (∀ a, A3 = some a → w2.heap.size ≤ a.block) ∧ Chg [] w2 w3 := ⟨by simpa using o3, app_ownk (fun a ha => by cases ha; exact Nat.le_refl _) CB.out g3 e3⟩; have b3 := h3.2.2.at_ B0.out (by simp); have zz := cell_of b3 5; have ff := free_of b3 5; simp only [List.getElem?_toArray, List.getElem?_cons_succ, List.getElem?_cons_zero] at zz; clear b3; clear o3 g3 e3 WB OB RB CB BD zb; rw [Nat.zero_add]) | rw [← WB.out])
  clear z0 z1 z2 z3 z4 z5 z6 fz0 fz1 fz2 fz3 fz4 fz5 fz6
  replace B0 := Lib.hid (h3.2.2.at_ B0.out (by simp))
  replace B1 := Lib.hid (h3.2.2.at_ B1.out (by simp))
  have O3 := Lib.hid h3.1
  have N3 := Lib.hid h3.2.1
  have S2 := Lib.hid C.out.size
  have LB : Hid (w2.heap.size ≤ w3.heap.size) := Lib.hid h3.2.2.size
  replace C := Lib.hid (C.out.trans h3.2.2)
  have LT3 : Hid (∀ a, A3 = some a → a.block ≠ g0 ∧ a.block ≠ g1) := Lib.hid (fun a ha => by
    have q := N3.out a ha
    have r0 := L0.out
    have r1 := L1.out
    omega)
  have LX3 : Hid (∀ a, A3 = some a → a.block < w3.heap.size) := Lib.hid (fun a ha => by
    obtain ⟨g, hg⟩ : ∃ g, a.block = g := ⟨_, rfl⟩
    rcases O3.out with ⟨q, _⟩ | ⟨g, full, q, hh, _⟩
    · rw [q] at ha; cases ha
    · rw [q] at ha; cases ha; exact lt_of_heap hh)
  clear h3
  have z0 := cell_of B0.out 0
  have fz0 := free_of B0.out 0
  have z1 := cell_of B0.out 1
  have fz1 := free_of B0.out 1
  have z2 := cell_of B0.out 2
  have fz2 := free_of B0.out 2
  have z3 := cell_of B0.out 3
  have fz3 := free_of B0.out 3
  have z4 := cell_of B0.out 4
  have fz4 := free_of B0.out 4
  have z5 := cell_of B0.out 5
  have fz5 := free_of B0.out 5
  have z6 := cell_of B0.out 6
  have fz6 := free_of B0.out 6
  simp only [List.getElem?_toArray, List.getElem?_cons_succ, List.getElem?_cons_zero] at z0 z1 z2 z3 z4 z5 z6
  clear zz ff
  clear z0 z1 z2 z3 z4 z5 z6 fz0 fz1 fz2 fz3 fz4 fz5 fz6
  obtain ⟨p0, p1, p2⟩ := set7_5 (.slice A3 x.l c3) B0.out B1.out NEg0.out LZg0.out C.out SZ.out
  generalize hW : (w3.setCell ⟨g0, 5, none⟩ (.slice A3 x.l c3)) = w4 at *
  have O4 := Lib.hid (O3.out.chg (S := [g0]) (hW ▸ (Chg.refl [g0] w3).put' 5 _) (fun a ha => by simp; exact (LT3.out a ha).1))
  replace B0 := Lib.hid p0
  replace B1 := Lib.hid p1
  have LW : Hid (w3.heap.size ≤ w4.heap.size) := Lib.hid (by rw [← hW]; simp [World.setCell])
  replace C := Lib.hid p2
  have RBp := Lib.hid (HR0.out.B.chg C.out (by simp))
  clear p0 p1 p2 hW O3
  have z0 := cell_of B0.out 0
  have fz0 := free_of B0.out 0
  have z1 := cell_of B0.out 1
  have fz1 := free_of B0.out 1
  have z2 := cell_of B0.out 2
  have fz2 := free_of B0.out 2
  have z3 := cell_of B0.out 3
  have fz3 := free_of B0.out 3
  have z4 := cell_of B0.out 4
  have fz4 := free_of B0.out 4
  have z5 := cell_of B0.out 5
  have fz5 := free_of B0.out 5
  have z6 := cell_of B0.out 6
  have fz6 := free_of B0.out 6
  simp only [List.getElem?_toArray, List.getElem?_cons_succ, List.getElem?_cons_zero] at z0 z1 z2 z3 z4 z5 z6
  obtain ⟨wb, hwb, cb, bb⟩ := news1 w4 (.cells #[] 77)
  have WB := Lib.hid hwb
  have OB := Lib.hid (show OwnK spanTy wb (some ⟨w4.heap.size, 0, none⟩) 0 [] from OwnK.of (full := []) bb (Nat.zero_le _) (Nat.zero_le _) rfl rfl)
  have RB := Lib.hid (RBp.out.chg cb (by simp))
  have CB := Lib.hid cb
  have BD : Hid ((0 + x.bl) * 400 ≤ 140737488355327) := Lib.hid (by have := HS.out.2; rw [HR.out.bl]; omega)
  have zb := cell_of (cb.at_ B0.out (by simp)) 6
  simp only [List.getElem?_toArray, List.getElem?_cons_succ, List.getElem?_cons_zero] at zb
  clear hwb cb bb
  go_upto_region 3 with (first | (at_builtin; refine wpList_appK (R := spanTy) rfl (.tmp 10) (.tmp 12) rfl rfl (A := some ⟨w4.heap.size, 0, none⟩) (n := 0) (m := x.bl) (c := 0) (d := x.bc) (xs := []) (ys := e.q) OB.out rfl rfl RB.out BD.out ?_; intro A5 c5 w5 o5 g5 e5; have h5 : OwnK spanTy w5 A5 c5 e.q := o5; obtain ⟨hN5, hc5⟩ := app_ownk (w := w4) (fun a ha => by cases ha; exact Nat.le_refl _) CB.out g5 e5; have b5 := hc5.at_ B0.out (by simp); have zz := cell_of b5 6; have ff := free_of b5 6; simp only [List.getElem?_toArray, List.getElem?_cons_succ, List.getElem?_cons_zero] at zz; clear b5; clear o5 g5 e5 WB OB RB CB BD zb; rw [Nat.zero_add]) | rw [← WB.out])
  clear z0 z1 z2 z3 z4 z5 z6 fz0 fz1 fz2 fz3 fz4 fz5 fz6
  replace B0 := Lib.hid (hc5.at_ B0.out (by simp))
  replace B1 := Lib.hid (hc5.at_ B1.out (by simp))
  replace O4 := Lib.hid (O4.out.chg hc5 (by simp))
  have P5 := Lib.hid h5
  have N5 : Hid (∀ a, A5 = some a → w3.heap.size ≤ a.block) := Lib.hid (fun a ha => Nat.le_trans LW.out (hN5 a ha))
  replace C := Lib.hid (C.out.trans hc5)
  have LT5 : Hid (∀ a, A5 = some a → a.block ≠ g0 ∧ a.block ≠ g1) := Lib.hid (fun a ha => by
    have q := N5.out a ha
    have r0 := L0.out
    have r1 := L1.out
    have r2 := LB.out
    omega)
  clear h5 hN5 hc5 RBp
  have z0 := cell_of B0.out 0
  have fz0 := free_of B0.out 0
  have z1 := cell_of B0.out 1
  have fz1 := free_of B0.out 1
  have z2 := cell_of B0.out 2
  have fz2 := free_of B0.out 2
  have z3 := cell_of B0.out 3
  have fz3 := free_of B0.out 3
  have z4 := cell_of B0.out 4
  have fz4 := free_of B0.out 4
  have z5 := cell_of B0.out 5
  have fz5 := free_of B0.out 5
  have z6 := cell_of B0.out 6
  have fz6 := free_of B0.out 6
  simp only [List.getElem?_toArray, List.getElem?_cons_succ, List.getElem?_cons_zero] at z0 z1 z2 z3 z4 z5 z6
  clear zz ff
  clear z0 z1 z2 z3 z4 z5 z6 fz0 fz1 fz2 fz3 fz4 fz5 fz6
  obtain ⟨p0, p1, p2⟩ := set7_1 (.slice A5 x.bl c5) B0.out B1.out NEg0.out LZg0.out C.out SZ.out
  generalize hW : (w5.setCell ⟨g0, 6, none⟩ (.slice A5 x.bl c5)) = w6 at *
  have O6 := Lib.hid (O4.out.chg (S := [g0]) (hW ▸ (Chg.refl [g0] w5).put' 6 _) (fun a ha => by simp; exact (LT3.out a ha).1))
  have P6 := Lib.hid (P5.out.chg (S := [g0]) (hW ▸ (Chg.refl [g0] w5).put' 6 _) (fun a ha => by simp; exact (LT5.out a ha).1))
  replace B0 := Lib.hid p0
  replace B1 := Lib.hid p1
  replace C := Lib.hid p2
  clear p0 p1 p2 hW O4 P5
  have z0 := cell_of B0.out 0
  have fz0 := free_of B0.out 0
  have z1 := cell_of B0.out 1
  have fz1 := free_of B0.out 1
  have z2 := cell_of B0.out 2
  have fz2 := free_of B0.out 2
  have z3 := cell_of B0.out 3
  have fz3 := free_of B0.out 3
  have z4 := cell_of B0.out 4
  have fz4 := free_of B0.out 4
  have z5 := cell_of B0.out 5
  have fz5 := free_of B0.out 5
  have z6 := cell_of B0.out 6
  have fz6 := free_of B0.out 6
  simp only [List.getElem?_toArray, List.getElem?_cons_succ, List.getElem?_cons_zero] at z0 z1 z2 z3 z4 z5 z6
  have y0 := cell_of B1.out 0
  have fy0 := free_of B1.out 0
  have y1 := cell_of B1.out 1
  have fy1 := free_of B1.out 1
  have y2 := cell_of B1.out 2
  have fy2 := free_of B1.out 2
  have y3 := cell_of B1.out 3
  have fy3 := free_of B1.out 3
  have y4 := cell_of B1.out 4
  have fy4 := free_of B1.out 4
  have y5 := cell_of B1.out 5
  have fy5 := free_of B1.out 5
  have y6 := cell_of B1.out 6
  have fy6 := free_of B1.out 6
  simp only [List.getElem?_toArray, List.getElem?_cons_succ, List.getElem?_cons_zero] at y0 y1 y2 y3 y4 y5 y6
  go_wp2
  clear z0 z1 z2 z3 z4 z5 z6 fz0 fz1 fz2 fz3 fz4 fz5 fz6
  clear y0 y1 y2 y3 y4 y5 y6 fy0 fy1 fy2 fy3 fy4 fy5 fy6
  obtain ⟨p0, p1, p2⟩ := set7_all (.int .i64 x.n) (.int .i64 x.s) (.string x.p) (.int .i64 x.k) (.int .i64 x.m) (.slice A3 x.l c3) (.slice A5 x.bl c5) B1.out B0.out NEg1.out LZg1.out C.out SZ.out
  generalize hW : (((((((w6.setCell ⟨g1, 0, none⟩ (.int .i64 x.n)).setCell ⟨g1, 1, none⟩ (.int .i64 x.s)).setCell ⟨g1, 2, none⟩ (.string x.p)).setCell ⟨g1, 3, none⟩ (.int .i64 x.k)).setCell ⟨g1, 4, none⟩ (.int .i64 x.m)).setCell ⟨g1, 5, none⟩ (.slice A3 x.l c3)).setCell ⟨g1, 6, none⟩ (.slice A5 x.bl c5)) = w7 at *
  have O7 := Lib.hid (O6.out.chg (S := [g1]) (hW ▸ (((((((Chg.refl [g1] w6).put' 0 _).put' 1 _).put' 2 _).put' 3 _).put' 4 _).put' 5 _).put' 6 _) (fun a ha => by simp; exact (LT3.out a ha).2))
  have P7 := Lib.hid (P6.out.chg (S := [g1]) (hW ▸ (((((((Chg.refl [g1] w6).put' 0 _).put' 1 _).put' 2 _).put' 3 _).put' 4 _).put' 5 _).put' 6 _) (fun a ha => by simp; exact (LT5.out a ha).2))
  replace B1 := Lib.hid p0
  replace C := Lib.hid p2
  clear p0 p1 p2 hW O6 P6
  have y0 := cell_of B1.out 0
  have y1 := cell_of B1.out 1
  have y2 := cell_of B1.out 2
  have y3 := cell_of B1.out 3
  have y4 := cell_of B1.out 4
  have y5 := cell_of B1.out 5
  have y6 := cell_of B1.out 6
  simp only [List.getElem?_toArray, List.getElem?_cons_succ, List.getElem?_cons_zero] at y0 y1 y2 y3 y4 y5 y6
  refine bodyPost_ret (v := .agg #[.int .i64 x.n, .int .i64 x.s, .string x.p, .int .i64 x.k, .int .i64 x.m, .slice A3 x.l c3, .slice A5 x.bl c5]) (by simp [results, Tryz.results43, go_sem, y0, y1, y2, y3, y4, y5, y6]) rfl ?_
  refine ⟨A3, c3, A5, c5, rfl, ⟨HR.out.n, HR.out.s, HR.out.p, HR.out.k, HR.out.m, HR.out.l, HR.out.bl, ?_, ?_⟩, O7.out, P7.out, fun a ha => Nat.le_trans S2.out (N3.out a ha), fun a ha => Nat.le_trans S2.out (Nat.le_trans LB.out (N5.out a ha)), fun a b ha hb => by have := LX3.out a ha; have := N5.out b hb; omega, C.out⟩
  · have := O7.out.reads
    rw [← HR.out.l] at this
    exact this
  · have := P7.out.reads
    rw [← HR.out.bl] at this
    exact this
end
end Go.Proofs.YtdfapiffalmjcaaGreatDoor
