/- The kit's SameTwos. copy into a row of structs. No function of the program is named here. slices.Insert of one entry. An entry laid in the midst of others. slices.Clone of entries. A new row of zeros. fresh.list of entries. table.Under. table.Put. -/
import Derived.Test.YtimdfpejgaidhaaGreatDoorZtwl
import Derived.Deep.Cut
import Derived.Deep.RegionHeld3
import Derived.Test.YtimdfpejgaidhaaGreatDoorZtwa
import Derived.Lib.Overlaps
import Derived.Lib.AppendZerosOnto
import Derived.Test.YtimdfpejgaidhaaGreatDoorZtwk
import Derived.BigQuiet
import Derived.Test.YtimdfpejgaidhaaGreatDoorZtwd
import Derived.Test.YtimdfpejgaidhaaGreatDoorZtwc
import Derived.Test.YtimdfpejgaidhaaGreatDoorZtwj
import Derived.Test.YtimdfpejgaidhaaGreatDoorZtwi
import Derived.Test.YtimdfpejgaidhaaGreatDoorZtwn
import Derived.Test.YtimdfpejgaidhaaGreatDoorZtwo
namespace Go.Proofs.YtimdfpejgaidhaaGreatDoor
section
open Go.RowKit Go.Lib
set_option linter.unusedSimpArgs false
set_option linter.unusedVariables false

theorem sameeff_l (w : World) (x y : PrT) (e : PrP) (h : PrR w x e) (h' : PrR w y e) :
    Calls Tryz.prog 17 #[.agg #[.int .i64 x.k, .int .i64 x.m, .slice x.A x.l x.c], .agg #[.int .i64 y.k, .int .i64 y.m, .slice y.A y.l y.c]] w fun r w' => r = .returned (.bool true) ∧ Chg [] w w' := by
  have hv : sameX x.k x.m e.ab y.k y.m e.ab = true := by rw [h.k, h.m, h'.k, h'.m]; simp [sameX]
  have q := sameeff_any w x.k x.m y.k y.m x.A y.A x.l x.c y.l y.c e.ab e.ab h.A h'.A
  rwa [hv] at q
theorem sameeff_r (w : World) (x y : PrT) (e : PrP) (h : PrR w x e) (h' : PrR w y e) :
    Calls Tryz.prog 17 #[.agg #[.int .i64 x.k2, .int .i64 x.m2, .slice x.B x.bl x.bc], .agg #[.int .i64 y.k2, .int .i64 y.m2, .slice y.B y.bl y.bc]] w fun r w' => r = .returned (.bool true) ∧ Chg [] w w' := by
  have hv : sameX x.k2 x.m2 e.bb y.k2 y.m2 e.bb = true := by rw [h.k2, h.m2, h'.k2, h'.m2]; simp [sameX]
  have q := sameeff_any w x.k2 x.m2 y.k2 y.m2 x.B y.B x.bl x.bc y.bl y.bc e.bb e.bb h.B h'.B
  rwa [hv] at q
set_option maxRecDepth 100000 in
set_option maxHeartbeats 16000000 in
theorem sametwos_yes (w : World) (A B : Option Addr) (c d : Nat) (xs ys : List PrT) (es : List PrP) (h : RdK prTy w A xs.length xs) (h' : RdK prTy w B ys.length ys) (hx : PrsR w xs es) (hy : PrsR w ys es) (hn : xs.length ≤ 100000) :
    Calls Tryz.prog 28 #[.slice A xs.length c, .slice B ys.length d] w fun r w' => r = .returned (.bool true) ∧ Chg [] w w' := by
  have HA := Lib.hid h
  have HB := Lib.hid h'
  have HX := Lib.hid hx
  have HY := Lib.hid hy
  have HN := Lib.hid hn
  have NE_ : Hid (xs.length = ys.length) := Lib.hid (by rw [hx.1, hy.1])
  have hb : ((xs.length : Int) == (ys.length : Int)) = true := by rw [NE_.out]; exact beq_self_eq_true _
  have hb2 : ((xs.length : Int) != (ys.length : Int)) = false := by unfold bne; rw [hb]; rfl
  clear h h' hx hy hn
  go_enter Tryz.func28, Tryz.ntmps28
  go_wp2
  clear hb hb2
  go_loopw [5] (fun i wr => ∃ k : Nat, k ≤ xs.length ∧ i = .int .i64 k ∧ Hid (Chg [] w wr)) (fun i _ => xs.length - (RowKit.intOf i).toNat)
  case atStart => exact ⟨0, Nat.zero_le _, rfl, Chg.refl _ _⟩
  case round =>
    obtain ⟨k, hk, rfl, RC⟩ := hrel
    have i0 : (0 : Int) ≤ (k : Int) := by omega
    by_cases hlt : k < xs.length
    · skip
      have hlt2 : k < ys.length := by have := NE_.out; omega
      obtain ⟨g, o, eA, _⟩ := HA.out.line (by omega)
      obtain ⟨g2, o2, eB, _⟩ := HB.out.line (by omega)
      subst eA eB
      obtain ⟨x, e, ex, ee, rx⟩ := HX.out.at_ hlt
      obtain ⟨y, f, ey, ef, ry⟩ := HY.out.at_ hlt2
      obtain rfl : e = f := by rw [ee] at ef; exact Option.some.inj ef
      have DX : Hid (∀ w', Chg [] w w' → (w'.cell? ⟨g, o + k * 7, none⟩ = some (.string x.p) ∧ w'.cell? ⟨g, o + k * 7 + 1, none⟩ = some (.int .i64 x.k) ∧ w'.cell? ⟨g, o + k * 7 + 2, none⟩ = some (.int .i64 x.m) ∧ w'.cell? ⟨g, o + k * 7 + 3, none⟩ = some (.slice x.A x.l x.c) ∧ w'.cell? ⟨g, o + k * 7 + 4, none⟩ = some (.int .i64 x.k2) ∧ w'.cell? ⟨g, o + k * 7 + 5, none⟩ = some (.int .i64 x.m2) ∧ w'.cell? ⟨g, o + k * 7 + 6, none⟩ = some (.slice x.B x.bl x.bc)) ∧ w'.cell? ⟨g2, o2 + k * 7, none⟩ = some (.string y.p) ∧ w'.cell? ⟨g2, o2 + k * 7 + 1, none⟩ = some (.int .i64 y.k) ∧ w'.cell? ⟨g2, o2 + k * 7 + 2, none⟩ = some (.int .i64 y.m) ∧ w'.cell? ⟨g2, o2 + k * 7 + 3, none⟩ = some (.slice y.A y.l y.c) ∧ w'.cell? ⟨g2, o2 + k * 7 + 4, none⟩ = some (.int .i64 y.k2) ∧ w'.cell? ⟨g2, o2 + k * 7 + 5, none⟩ = some (.int .i64 y.m2) ∧ w'.cell? ⟨g2, o2 + k * 7 + 6, none⟩ = some (.slice y.B y.bl y.bc)) := Lib.hid (fun w' hc => ⟨prCells (HA.out.chg hc (by simp)) ex, prCells (HB.out.chg hc (by simp)) ey⟩)
      have i1 : (k : Int) < (xs.length : Int) := by omega
      have i2 : (k : Int) < (ys.length : Int) := by omega
      have i3 : IntKind.i64.wrap ((k : Int) + 1) = (k : Int) + 1 := IntWalk.i64_in _ (by have := HN.out; omega)
      have RX := Lib.hid rx
      have RY := Lib.hid ry
      have e1 : ((x.p.toList == y.p.toList) : Bool) = true := by rw [rx.p, ry.p]; exact beq_self_eq_true _
      clear ex ey ee ef rx ry
      go_upto_region 6 with fail
      refine wp_region_held_drew (S := fun w' => Chg [] w w') (by kernel_rfl) (RC.out.trans (Chg.refl [] wr).drew) (fun hHeld => ?_)
      have C2 : Hid (Chg [] w wr.drew) := Lib.hid (RC.out.trans (Chg.refl [] wr).drew)
      clear hHeld RC
      generalize wr.drew = wc at *
      refine sy 0 17 rfl rfl ?_ (hS := C2.out)
      try simp only [Act.put, sA, s0, s1]
      refine sy 1 18 rfl rfl ?_ (hS := C2.out)
      try simp only [Act.put, sA, s0, s1]
      refine sy 2 19 rfl rfl ?_ (hS := C2.out)
      try simp only [Act.put, sA, s0, s1]
      refine sy 3 20 rfl rfl ?_ (hS := C2.out)
      try simp only [Act.put, sA, s0, s1]
      refine sy 4 21 rfl rfl ?_ (hS := C2.out) (hy := by (intro w hSw; (try dsimp only at hSw); have hq := DX.out _ hSw; obtain ⟨⟨q0, q1, q2, q3, q4, q5, q6⟩, p0, p1, p2, p3, p4, p5, p6⟩ := hq; go_simp; try with_reducible rfl))
      try simp only [Act.put, sA, s0, s1]
      refine sy 5 22 rfl rfl ?_ (hS := C2.out)
      try simp only [Act.put, sA, s0, s1]
      refine sy 6 23 rfl rfl ?_ (hS := C2.out)
      try simp only [Act.put, sA, s0, s1]
      refine sy 7 24 rfl rfl ?_ (hS := C2.out)
      try simp only [Act.put, sA, s0, s1]
      refine sy 8 25 rfl rfl ?_ (hS := C2.out)
      try simp only [Act.put, sA, s0, s1]
      refine sy 9 26 rfl rfl ?_ (hS := C2.out) (hy := by (intro w hSw; (try dsimp only at hSw); have hq := DX.out _ hSw; obtain ⟨⟨q0, q1, q2, q3, q4, q5, q6⟩, p0, p1, p2, p3, p4, p5, p6⟩ := hq; go_simp; try with_reducible rfl))
      try simp only [Act.put, sA, s0, s1]
      refine wpAnyH_ready (rs := [10]) (by kernel_rfl) (by simp) ?_
      refine AllReadyH.cons rfl (fun K hK => ?_) AllReadyH.nil
      replace hK := Lib.hid hK
      go_simp
      try simp only [Bool.not_true, Bool.not_false]
      refine hK.out _ _ C2.out (fun hHeld => ?_)
      clear hK K
      try simp only [Act.put, sA, s0, s1]
      refine sy 11 28 rfl rfl ?_ (hS := C2.out)
      try simp only [Act.put, sA, s0, s1]
      refine sy 12 29 rfl rfl ?_ (hS := C2.out)
      try simp only [Act.put, sA, s0, s1]
      refine sy 13 30 rfl rfl ?_ (hS := C2.out)
      try simp only [Act.put, sA, s0, s1]
      refine sy 14 31 rfl rfl ?_ (hS := C2.out)
      try simp only [Act.put, sA, s0, s1]
      refine sy 15 32 rfl rfl ?_ (hS := C2.out)
      try simp only [Act.put, sA, s0, s1]
      refine sy 16 33 rfl rfl ?_ (hS := C2.out) (hy := by (intro w hSw; (try dsimp only at hSw); have hq := DX.out _ hSw; obtain ⟨⟨q0, q1, q2, q3, q4, q5, q6⟩, p0, p1, p2, p3, p4, p5, p6⟩ := hq; go_simp; try with_reducible rfl))
      try simp only [Act.put, sA, s0, s1]
      refine sy 17 34 rfl rfl ?_ (hS := C2.out)
      try simp only [Act.put, sA, s0, s1]
      refine sy 18 35 rfl rfl ?_ (hS := C2.out)
      try simp only [Act.put, sA, s0, s1]
      refine sy 19 36 rfl rfl ?_ (hS := C2.out)
      try simp only [Act.put, sA, s0, s1]
      refine sy 20 37 rfl rfl ?_ (hS := C2.out)
      try simp only [Act.put, sA, s0, s1]
      refine sy 21 38 rfl rfl ?_ (hS := C2.out) (hy := by (intro w hSw; (try dsimp only at hSw); have hq := DX.out _ hSw; obtain ⟨⟨q0, q1, q2, q3, q4, q5, q6⟩, p0, p1, p2, p3, p4, p5, p6⟩ := hq; go_simp; try with_reducible rfl))
      try simp only [Act.put, sA, s0, s1]
      refine wpAnyH_ready (rs := [22]) (by kernel_rfl) (by simp) ?_
      refine AllReadyH.cons rfl (fun K hK => ?_) AllReadyH.nil
      replace hK := Lib.hid hK
      go_simp
      refine (sameeff_l wc x y e (RX.out.chg C2.out) (RY.out.chg C2.out)).mono ?_
      rintro r wn ⟨rfl, hc⟩
      replace C2 := Lib.hid (C2.out.trans hc)
      clear hc
      generalize wn = wc at *
      refine hK.out _ _ C2.out (fun hHeld => ?_)
      clear hK K
      try simp only [Act.put, sA, s0, s1]
      refine sy 23 40 rfl rfl ?_ (hS := C2.out)
      try simp only [Act.put, sA, s0, s1]
      refine sy 24 41 rfl rfl ?_ (hS := C2.out)
      try simp only [Act.put, sA, s0, s1]
      refine sy 25 42 rfl rfl ?_ (hS := C2.out)
      try simp only [Act.put, sA, s0, s1]
      refine sy 26 43 rfl rfl ?_ (hS := C2.out)
      try simp only [Act.put, sA, s0, s1]
      refine sy 27 44 rfl rfl ?_ (hS := C2.out)
      try simp only [Act.put, sA, s0, s1]
      refine sy 28 45 rfl rfl ?_ (hS := C2.out)
      try simp only [Act.put, sA, s0, s1]
      refine sy 29 46 rfl rfl ?_ (hS := C2.out)
      try simp only [Act.put, sA, s0, s1]
      refine sy 30 47 rfl rfl ?_ (hS := C2.out) (hy := by (intro w hSw; (try dsimp only at hSw); have hq := DX.out _ hSw; obtain ⟨⟨q0, q1, q2, q3, q4, q5, q6⟩, p0, p1, p2, p3, p4, p5, p6⟩ := hq; go_simp; try with_reducible rfl))
      try simp only [Act.put, sA, s0, s1]
      refine sy 31 48 rfl rfl ?_ (hS := C2.out)
      try simp only [Act.put, sA, s0, s1]
      refine sy 32 49 rfl rfl ?_ (hS := C2.out)
      try simp only [Act.put, sA, s0, s1]
      refine sy 33 50 rfl rfl ?_ (hS := C2.out)
      try simp only [Act.put, sA, s0, s1]
      refine sy 34 51 rfl rfl ?_ (hS := C2.out)
      try simp only [Act.put, sA, s0, s1]
      refine sy 35 52 rfl rfl ?_ (hS := C2.out) (hy := by (intro w hSw; (try dsimp only at hSw); have hq := DX.out _ hSw; obtain ⟨⟨q0, q1, q2, q3, q4, q5, q6⟩, p0, p1, p2, p3, p4, p5, p6⟩ := hq; go_simp; try with_reducible rfl))
      try simp only [Act.put, sA, s0, s1]
      refine wpAnyH_ready (rs := [36]) (by kernel_rfl) (by simp) ?_
      refine AllReadyH.cons rfl (fun K hK => ?_) AllReadyH.nil
      replace hK := Lib.hid hK
      go_simp
      refine (sameeff_r wc x y e (RX.out.chg C2.out) (RY.out.chg C2.out)).mono ?_
      rintro r wn ⟨rfl, hc⟩
      replace C2 := Lib.hid (C2.out.trans hc)
      clear hc
      generalize wn = wc at *
      refine hK.out _ _ C2.out (fun hHeld => ?_)
      clear hK K
      try simp only [Act.put, sA, s0, s1]
      refine sy 37 54 rfl rfl ?_ (hS := C2.out)
      try simp only [Act.put, sA, s0, s1]
      refine sy 38 55 rfl rfl ?_ (hS := C2.out)
      try simp only [Act.put, sA, s0, s1]
      refine wpAnyH_done (by kernel_rfl) ?_ _
      clear hHeld e1
      go_wp2
      go_round
      case rel => exact ⟨k + 1, by omega, by go_num, C2⟩
      case measure => simp [RowKit.intOf]; omega
    · skip
      have i1 : ¬ (k : Int) < (xs.length : Int) := by omega
      go_wp2
      go_ret
      exact ⟨rfl, RC.out⟩
end
section
open Go.RowKit Go.Lib
set_option linter.unusedSimpArgs false
set_option linter.unusedVariables false

section
variable {α : Type} {R : RowTy α}
theorem run_copyK (w : World) (ty : TypeId) {g off dLen dCap sLen sCap : Nat} {B : Option Addr} {ys full : List α} (hg : w.heap[g]? = some (.cells (R.flat full).toArray R.T (0, 0))) (hr : RdK R w B ys.length ys) (hn : ys.length = Nat.min sLen dLen) (hfit : off + ys.length ≤ full.length) :
    (Builtin.copy_ #[R.TS, R.TS] ty #[.slice (some ⟨g, off * R.k, none⟩) dLen dCap, .slice B sLen sCap]).run Tryz.prog w = .ok (goInt ys.length) (w.setRow g (R.flat (full.take off ++ ys ++ full.drop (off + ys.length))).toArray) := by
  obtain ⟨i0, hi, hz0, hz1, hz2⟩ := info_parts R.info
  have hm : Nat.min sLen dLen = ys.length := hn.symm
  have hst := run_storeCells_at (P := Tryz.prog) g (off * R.k) R.T (R.flat ys) 0 _ w hg (by rw [R.flat_len, List.size_toArray, R.flat_len, Nat.add_zero, ← Nat.add_mul]; exact Nat.mul_le_mul_right _ hfit) (R.flat_one ys)
  have hfin : ((R.flat full).toArray.toList.take (off * R.k + 0) ++ R.flat ys ++ (R.flat full).toArray.toList.drop (off * R.k + 0 + (R.flat ys).length)) = R.flat (full.take off ++ ys ++ full.drop (off + ys.length)) := by
    rw [R.flat_app, R.flat_app, R.flat_take, R.flat_drop, R.flat_len, Nat.add_zero, ← Nat.add_mul]
  rw [hfin] at hst
  have hfc : ∀ l c, (Builtin.firstCells i0.size ys.length (.slice B l c)).run Tryz.prog w = .ok (R.flat ys).toArray w := fun l c => by
    rcases B with _ | b
    · have hy : ys = [] := by
        cases ys with
        | nil => rfl
        | cons y ys =>
          have : 0 < (R.flat (y :: ys)).length := by rw [R.flat_len, List.length_cons]; exact Nat.mul_pos (by omega) R.kpos
          obtain ⟨a, h, _⟩ := hr.cells 0 _ (List.getElem?_eq_getElem this); cases h
      subst hy
      simp [Builtin.firstCells, RowTy.flat]
    · exact run_firstCells_some (P := Tryz.prog) w i0.size ys.length b l c (R.flat ys) (by rw [hz1, R.flat_len]) (fun j v hj => by
        obtain ⟨a, e, hc⟩ := hr.cells j v hj
        cases e
        exact hc)
  simp [Builtin.copy_, run_underlying R.under, sizeOf, typeInfo, hi, Builtin.lenOf, hm, hfc, hst]
end
theorem wp_copyR (w : World) {o : Oper} {a : Act} {K : Act → World → Prop} {Q : Exit → Act → World → Prop} (d s : Operand) (t t' : TypeId)
    (ho : o.op = .call { callee := .builtin .copy, args := #[d, s], argTypes := #[t, t'] }) (v u : Value) (hd : a.eval d = v) (hs : a.eval s = u) {v' : Value} {w' : World}
    (hr : (Builtin.copy_ #[t, t'] o.type #[v, u]).run Tryz.prog w = .ok v' w') (h : K (a.put o.dst v') w') : o.wp Tryz.prog a w K Q := by
  unfold Oper.wp execOp
  simp only [ho, resolve, invoke, builtin, Sem.run_bind, Sem.run_pure, Result.andThen_ok, List.map_toArray, List.map_cons, List.map_nil, hd, hs, hr]
  exact h
theorem wpList_copyR (w : World) {ops : Array Oper} {rest : List Oper} {o : Oper} {a : Act} {Q : Exit → Act → World → Prop} (hgd : o.guard = none) (d s : Operand) (t t' : TypeId)
    (ho : o.op = .call { callee := .builtin .copy, args := #[d, s], argTypes := #[t, t'] }) (v u : Value) (hd : a.eval d = v) (hs : a.eval s = u) {v' : Value} {w' : World}
    (hr : (Builtin.copy_ #[t, t'] o.type #[v, u]).run Tryz.prog w = .ok v' w') (h : wpList Tryz.prog ops Q rest (a.put o.dst v') w') : wpList Tryz.prog ops Q (o :: rest) a w :=
  wpList_plain hgd fun _ hK => wp_copyR w d s t t' ho v u hd hs hr (hK _ _ h)
theorem step_copyR {ops : Array Oper} {o : Oper} {a : Act} {w : World} {K : Act → World → Prop} {Q : Exit → Act → World → Prop} {E : Prop}
    (hg : o.guard = none) (d x : Operand) (dT sT : TypeId) (hop : o.op = Op.call { callee := Callee.builtin Builtin.copy, args := #[d, x], argTypes := #[dT, sT] })
    (v u : Value) (hd : a.eval d = v) (hx : a.eval x = u) {v' : Value} {w' : World} (hr : (Builtin.copy_ #[dT, sT] o.type #[v, u]).run Tryz.prog w = .ok v' w') (hK : K (a.put o.dst v') w') :
    if Region.wanted o (yielded ops a.tmps) = true then Oper.wp Tryz.prog o a w K Q else E := by
  have hw : Region.wanted o (yielded ops a.tmps) = true := by simp [Region.wanted, hg]
  rw [if_pos hw]
  exact wp_copyR w d x dT sT hop v u hd hx hr hK
section
variable {α : Type} {R : RowTy α}
end
end
section
open Go.RowKit Go.Lib
set_option linter.unusedSimpArgs false
set_option linter.unusedVariables false

theorem ins_rowN1 {α : Type} {full xs : List α} {y : α} {i : Nat} (ht : full.take xs.length = xs) (hi : i < xs.length) : ((full.take (i + 1) ++ xs.drop i ++ full.drop (i + 1 + (xs.drop i).length)).take i ++ [y] ++ (full.take (i + 1) ++ xs.drop i ++ full.drop (i + 1 + (xs.drop i).length)).drop (i + [y].length)).take (xs.take i ++ y :: xs.drop i).length = xs.take i ++ y :: xs.drop i := by
  have hc : xs.length ≤ full.length := by have := congrArg List.length ht; rw [List.length_take] at this; omega
  have hl : (full.take (i + 1)).length = i + 1 := by rw [List.length_take]; omega
  have e1 : (full.take (i + 1) ++ xs.drop i ++ full.drop (i + 1 + (xs.drop i).length)).take i = xs.take i := by
    rw [List.append_assoc, List.take_append_of_le_length (by omega), List.take_take, Nat.min_eq_left (by omega), ← ht, List.take_take, Nat.min_eq_left (by omega)]
  have e2 : (full.take (i + 1) ++ xs.drop i ++ full.drop (i + 1 + (xs.drop i).length)).drop (i + [y].length) = xs.drop i ++ full.drop (i + 1 + (xs.drop i).length) := by
    rw [List.append_assoc, List.drop_append_of_le_length (by rw [List.length_singleton]; omega), List.drop_of_length_le (by rw [List.length_singleton]; omega), List.nil_append]
  rw [e1, e2]
  have e3 : xs.take i ++ [y] ++ (xs.drop i ++ full.drop (i + 1 + (xs.drop i).length)) = (xs.take i ++ y :: xs.drop i) ++ full.drop (i + 1 + (xs.drop i).length) := by simp
  rw [e3, List.take_left]
theorem ins_rowN2 {α : Type} {xs R : List α} {y : α} {i : Nat} (hi : i < xs.length) (hR : xs.length + 1 - i ≤ R.length) : (((xs.take i ++ R).take i ++ [y] ++ (xs.take i ++ R).drop (i + [y].length)).take (i + 1) ++ xs.drop i ++ ((xs.take i ++ R).take i ++ [y] ++ (xs.take i ++ R).drop (i + [y].length)).drop (i + 1 + (xs.drop i).length)).take (xs.take i ++ y :: xs.drop i).length = xs.take i ++ y :: xs.drop i := by
  have hl : (xs.take i).length = i := by rw [List.length_take]; omega
  have e1 : (xs.take i ++ R).take i = xs.take i := by rw [List.take_append_of_le_length (by omega), List.take_take, Nat.min_self]
  rw [e1]
  have e2 : (xs.take i ++ [y] ++ (xs.take i ++ R).drop (i + [y].length)).take (i + 1) = xs.take i ++ [y] := by
    rw [List.take_append_of_le_length (by simp; omega), List.take_of_length_le (by simp; omega)]
  rw [e2]
  have e3 : ∀ T : List α, xs.take i ++ [y] ++ xs.drop i ++ T = (xs.take i ++ y :: xs.drop i) ++ T := fun T => by simp
  rw [e3, List.take_left]
set_option maxRecDepth 100000 in
set_option maxHeartbeats 8000000 in
/-- slices.Insert of one event into a row that is owned. -/
theorem insen_any (w : World) (A : Option Addr) (c : Nat) (xs : List EnT) (i vb : Nat) (y : EnT) (h : OwnK enTy w A c xs) (hi : i ≤ xs.length) (hn : xs.length ≤ 100000) (hv : w.heap[vb]? = some (.cells #[.string y.p, .int .i64 y.k, .int .i64 y.m, .slice y.A y.l y.c] 55 (0, 0))) (hne : ∀ a, A = some a → a.block ≠ vb) :
    Calls Tryz.prog 79 #[.slice A xs.length c, .int .i64 (i : Int), .slice (some ⟨vb, 0, none⟩) 1 1] w fun r w' => ∃ (A' : Option Addr) (c' : Nat), r = .returned (.slice A' (xs.length + 1) c') ∧ OwnK enTy w' A' c' (xs.take i ++ y :: xs.drop i) ∧ (∀ a, A' = some a → A = some a ∨ w.heap.size ≤ a.block) ∧ Chg (blkOf A) w w' := by

  have XR : Hid (RdK enTy w (some ⟨vb, 0, none⟩) 1 [y]) := Lib.hid (rd_oneEn hv)
  have HN : Hid ((xs.length + 1) * 400 ≤ 140737488355327) := Lib.hid (by omega)
  have O := Lib.hid h
  have n1 : ¬ ((1 : Int) = 0) := by decide
  by_cases hil : i = xs.length
  · subst hil
    have NL : Hid ((xs.take xs.length ++ y :: xs.drop xs.length) = xs ++ [y]) := Lib.hid (by simp)
    have e1 : (((xs.length : Int) == (xs.length : Int)) : Bool) = true := by simp
    clear h hi hn hv hne
    go_enter Tryz.func79, Tryz.ntmps79
    go_wp2_with (at_builtin; refine wpList_appK (R := enTy) rfl (.tmp 23) (.tmp 24) rfl rfl (A := A) (n := xs.length) (m := 1) (c := c) (d := 1) (xs := xs) (ys := [y]) O.out rfl rfl XR.out HN.out ?_; intro A9 c9 w9 o9 g9 e9)
    all_goals (
      have O9 := Lib.hid o9
      have E9 := Lib.hid e9
      have G9 := Lib.hid ((Chg.refl (blkOf A) w).grown g9 (fun i hi => by rcases A with _ | a; (· simp at hi); (· simp at hi; subst hi; exact .inl (mem_blkOf rfl))))
      clear o9 g9 e9
      go_wp2
      go_ret
      refine ⟨A9, c9, rfl, (by first | exact O9.out | (rw [NL.out]; exact O9.out)), (fun a ha => E9.out.elim (fun q => .inl (q ▸ ha)) (fun q => .inr (by rw [q] at ha; cases ha; exact Nat.le_refl _))), G9.out⟩)
  · obtain ⟨g, full, rfl, hg, hfl, hcm, hnc, hft⟩ : ∃ (g : Nat) (full : List EnT), A = some ⟨g, 0, none⟩ ∧ w.heap[g]? = some (.cells (enTy.flat full).toArray 55 (0, 0)) ∧ full.length = c ∧ c ≤ maxLen ∧ xs.length ≤ c ∧ full.take xs.length = xs := by
      rcases h with ⟨_, q, _⟩ | q
      · subst q
        have : i = 0 := by simpa using hi
        exact absurd this hil
      · exact q
    have k7 : enTy.k = 4 := rfl
    have gv : g ≠ vb := hne _ rfl
    have lg := lt_of_heap hg
    have lv := lt_of_heap hv
    have i0 : (0 : Int) ≤ (i : Int) := by omega
    have i1 : (i : Int) ≤ (xs.length : Int) := by omega
    have i2 : i ≤ xs.length := hi
    have e1 : (((i : Int) == (xs.length : Int)) : Bool) = false := by simp; omega
    have e2 : ¬ (i : Int) = (xs.length : Int) := by omega
    have w1 : IntKind.i64.wrap ((xs.length : Int) + 1) = ((xs.length + 1 : Nat) : Int) := by rw [IntWalk.i64_in _ (by omega)]; omega
    have w2 : IntKind.i64.wrap ((i : Int) + 1) = ((i + 1 : Nat) : Int) := by rw [IntWalk.i64_in _ (by omega)]; omega
    have DR : Hid (RdK enTy w (some ⟨g, i * 4, none⟩) (xs.length - i) (xs.drop i)) := Lib.hid (by
      have q := (h.reads).part i (xs.length - i) (by omega)
      rw [List.take_of_length_le (by rw [List.length_drop]; omega), Nat.zero_add] at q
      exact q)
    by_cases hr : xs.length + 1 ≤ c
    · have HOV : ∀ lb cb, (callFunc 108 #[.slice (some ⟨vb, 0, none⟩) 1 1, .slice (some ⟨g, (i + 1) * 4, none⟩) lb cb]).run Tryz.prog w = .ok (.value (.bool false)) w := fun lb cb => by
        have ho := run_overlaps_apart (P := Tryz.prog) w 22 4 55 Tryz.underlying22 4 (fun w => by first | rfl | kernel_rfl) ⟨vb, 0, none⟩ ⟨g, (i + 1) * 4, none⟩ 1 1 lb cb (fun e => gv e.symm) 55 55 4 (c * 4) (by simp [World.shape?, hv]) (by simp [World.shape?, hg, enTy.flat_len, hfl, k7]) (by omega) (by simp [World.frozen?, hv]) (by simp [World.frozen?, hv])
        rw [run_callFunc_extern (e := Extern.SlicesOverlaps.overlaps #[22, 22] #[4]) Tryz.func108 (by kernel_rfl) (by kernel_rfl) (by kernel_rfl) (by kernel_rfl), ho]
        rfl
      have b1 : (0 : Int) ≤ ((xs.length + 1 : Nat) : Int) := by omega
      have b2 : ((xs.length + 1 : Nat) : Int) ≤ (c : Int) := by omega
      have b3 : xs.length + 1 ≤ c := by omega
      have b4 : ((i + 1 : Nat) : Int) ≤ ((xs.length + 1 : Nat) : Int) := by omega
      have b5 : i + 1 ≤ xs.length + 1 := by omega
      have b6 : ¬ c = i + 1 := by omega
      have b7 : ¬ c = i := by omega
      have b8 : (0 : Int) ≤ ((i + 1 : Nat) : Int) := by omega
      have b9 : ¬ (c : Int) < ((xs.length + 1 : Nat) : Int) := by omega
      have b10 : (i : Int) ≤ ((xs.length + 1 : Nat) : Int) := by omega
      have b11 : i ≤ xs.length + 1 := by omega
      have b12 : (0 : Int) ≤ (i : Int) + 1 := by omega
      have b13 : (i : Int) + 1 ≤ (xs.length : Int) + 1 := by omega
      have b14 : (i : Int) ≤ (xs.length : Int) + 1 := by omega
      have FG := Lib.hid hg
      have FL := Lib.hid hfl
      have FC := Lib.hid hcm
      have FN := Lib.hid hnc
      have FT := Lib.hid hft
      have VB := Lib.hid hv
      have GV := Lib.hid gv
      clear h hi hn hv hne hg hfl hcm hnc hft gv lg lv O
      go_enter Tryz.func79, Tryz.ntmps79
      go_upto_region 14 with fail
      go_wp2_with (simp only [HOV])
      clear HOV
      obtain ⟨F1, hF1⟩ : ∃ F1, F1 = full.take (i + 1) ++ xs.drop i ++ full.drop (i + 1 + (xs.drop i).length) := ⟨_, rfl⟩
      have HCP : ∀ W, Chg [] w W → ∀ ty dc sc, (Builtin.copy_ #[22, 22] ty #[.slice (some ⟨g, (i + 1) * 4, none⟩) (xs.length - i) dc, .slice (some ⟨g, i * 4, none⟩) (xs.length + 1 - i) sc]).run Tryz.prog W = .ok (goInt (xs.drop i).length) (W.setRow g (enTy.flat F1).toArray) := fun W hW ty dc sc => by
        have q := run_copyK (R := enTy) W ty (g := g) (off := i + 1) (dLen := xs.length - i) (dCap := dc) (sLen := xs.length + 1 - i) (sCap := sc) (B := some ⟨g, i * 4, none⟩) (ys := xs.drop i) (full := full) (hW.at_ FG.out (by simp)) (by have := DR.out.chg hW (by simp); rw [List.length_drop]; exact this) (by rw [List.length_drop]; simp only [Nat.min_def]; split <;> omega) (by rw [List.length_drop, FL.out]; omega)
        rw [← hF1] at q
        exact q
      have L1 : Hid (F1.length = c) := Lib.hid (by rw [hF1]; have := FL.out; simp; omega)
      have HC2 : ∀ W, W.heap[g]? = some (.cells (enTy.flat F1).toArray 55 (0, 0)) → RdK enTy W (some ⟨vb, 0, none⟩) 1 [y] → ∀ ty dc, (Builtin.copy_ #[22, 22] ty #[.slice (some ⟨g, i * 4, none⟩) (xs.length + 1 - i) dc, .slice (some ⟨vb, 0, none⟩) 1 1]).run Tryz.prog W = .ok (goInt ([y] : List EnT).length) (W.setRow g (enTy.flat (F1.take i ++ [y] ++ F1.drop (i + [y].length))).toArray) := fun W hg hv ty dc =>
        run_copyK (R := enTy) W ty (g := g) (off := i) (dLen := xs.length + 1 - i) (dCap := dc) (sLen := 1) (sCap := 1) (B := some ⟨vb, 0, none⟩) (ys := [y]) (full := F1) hg hv (by simp only [Nat.min_def, List.length_singleton]; split <;> omega) (by rw [L1.out]; simp; omega)
      have FIN : Hid ((F1.take i ++ [y] ++ F1.drop (i + [y].length)).take (xs.take i ++ y :: xs.drop i).length = xs.take i ++ y :: xs.drop i) := Lib.hid (by rw [hF1]; exact ins_rowN1 FT.out (by omega))
      have LNI : Hid ((xs.take i ++ y :: xs.drop i).length = xs.length + 1) := Lib.hid (by simp; omega)
      obtain ⟨F2, hF2⟩ : ∃ F2, F2 = F1.take i ++ [y] ++ F1.drop (i + [y].length) := ⟨_, rfl⟩
      have L2 : Hid (F2.length = c) := Lib.hid (by rw [hF2]; have := L1.out; simp; omega)
      rw [← hF2] at FIN
      simp only [← hF2] at HC2
      clear hF1 hF2

      refine wp_region_held_drew (S := fun w' => True) (by kernel_rfl) trivial (fun hHeld => ?_)
      have hHeld := trivial
      refine sy 0 69 rfl rfl ?_ (hS := trivial)
      try simp only [Act.put, sA, s0, s1]
      refine sy 1 70 rfl rfl ?_ (hS := trivial)
      try simp only [Act.put, sA, s0, s1]
      refine sy 2 71 rfl rfl ?_ (hS := trivial)
      try simp only [Act.put, sA, s0, s1]
      refine sy 3 72 rfl rfl ?_ (hS := trivial)
      try simp only [Act.put, sA, s0, s1]
      refine sy 4 73 rfl rfl ?_ (hS := trivial)
      try simp only [Act.put, sA, s0, s1]
      refine sy 5 74 rfl rfl ?_ (hS := trivial)
      try simp only [Act.put, sA, s0, s1]
      refine sy 6 75 rfl rfl ?_ (hS := trivial)
      try simp only [Act.put, sA, s0, s1]
      refine sy 7 76 rfl rfl ?_ (hS := trivial)
      try simp only [Act.put, sA, s0, s1]
      refine wpAnyH_ready (rs := [8]) (by kernel_rfl) (by simp) ?_
      refine AllReadyH.cons rfl (fun K hK => ?_) AllReadyH.nil
      replace hK := Lib.hid hK
      refine step_copyR rfl (.tmp 73) (.tmp 76) 22 22 rfl (.slice (some ⟨g, (i + 1) * 4, none⟩) (xs.length - i) (c - (i + 1))) (.slice (some ⟨g, i * 4, none⟩) (xs.length + 1 - i) (c - i)) rfl rfl (HCP _ ((Chg.refl [] w).drew) _ _ _) ?_
      go_simp
      have K1 := setRow_heap w.drew g _ (enTy.flat F1).toArray _ _ (((Chg.refl [] w).drew).at_ FG.out (by simp))
      have C1 : Chg [g] w (w.drew.setRow g (enTy.flat F1).toArray) := ((Chg.refl [] w).drew.mono (by simp)).trans ⟨rfl, rfl, rfl, by simp, fun j hj hn => setRow_other w.drew g j _ (by simpa using hn)⟩
      generalize w.drew.setRow g (enTy.flat F1).toArray = w2 at *
      refine hK.out _ _ trivial (fun hHeld => ?_)
      clear hK K
      try simp only [Act.put, sA, s0, s1]
      refine wpAnyH_done (by kernel_rfl) ?_ _
      clear hHeld HCP
      have V2 : RdK enTy w2 (some ⟨vb, 0, none⟩) 1 [y] := XR.out.chg C1 (fun a ha => by cases ha; simpa using fun e => GV.out e.symm)
      have HC3 := HC2 w2 K1 V2
      have K2 := Lib.hid (setRow_heap w2 g _ (enTy.flat F2).toArray _ _ K1)
      have C2 : Hid (Chg [g] w (w2.setRow g (enTy.flat F2).toArray)) := Lib.hid (C1.trans ⟨rfl, rfl, rfl, by simp, fun j hj hn => setRow_other w2 g j _ (by simpa using hn)⟩)
      have C1H := Lib.hid C1
      clear HC2 K1 V2 C1
      go_wp2_with (first | (at_builtin; refine wpList_copyR _ rfl (.tmp 80) (.tmp 81) 22 22 rfl (.slice (some ⟨g, i * 4, none⟩) (xs.length + 1 - i) (c - i)) (.slice (some ⟨vb, 0, none⟩) 1 1) rfl rfl (HC3 _ _) ?_) | (with_reducible refine wpList_copyR _ rfl (.tmp 80) (.tmp 81) 22 22 rfl (.slice (some ⟨g, i * 4, none⟩) (xs.length + 1 - i) (c - i)) (.slice (some ⟨vb, 0, none⟩) 1 1) rfl rfl (HC3 _ _) ?_))
      go_ret
      refine ⟨some ⟨g, 0, none⟩, c, rfl, OwnK.of K2.out (by rw [LNI.out]; exact b3) FC.out L2.out FIN.out, fun a ha => .inl ha, C2.out.mono (by simp [blkOf])⟩
    · obtain ⟨i0', hi0, hz0, hz1, hz2⟩ := info_parts enTy.info
      have HRZ0 := run_append_grow_zeros (P := Tryz.prog) w 22 3 0 55 i0' enTy.zv .i64 .i64 enTy.under (by first | rfl | kernel_rfl) hi0 hz0 (some ⟨g, 0, none⟩) i c (enTy.flat (xs.take i)) (run_firstCells_some (P := Tryz.prog) w.drew i0'.size i ⟨g, 0, none⟩ i c (enTy.flat (xs.take i)) (by rw [hz1, enTy.flat_len, List.length_take, Nat.min_eq_left (by omega)]) (fun j v hj => by
        have q := ((h.take i).chg (Chg.refl [] w).drew (by simp)).reads.cells j v hj
        obtain ⟨a, e, q⟩ := q
        cases e
        exact q)) (xs.length + 1 - i) (by omega) (by rw [hz1, k7]; omega) (by omega) (by omega) (by rw [hz2]; have : enTy.bytes ≤ 200 := enTy.bpos; have := Nat.mul_le_mul_left (xs.length + 1 - i) this; omega) (growslice_fits (by omega) (by rw [hz2]; have : enTy.bytes ≤ 200 := enTy.bpos; have := Nat.mul_le_mul_left (i + (xs.length + 1 - i)) this; omega))
      rw [show i + (xs.length + 1 - i) = xs.length + 1 by omega] at HRZ0
      obtain ⟨G, hG⟩ : ∃ G, G = grownCap w (xs.length + 1) c 55 := ⟨_, rfl⟩
      have GE : xs.length + 1 ≤ G := by rw [hG]; exact grownCap_ge w _ _ _
      have GM : G ≤ maxLen := by rw [hG]; exact grownCap_le_maxLen w _ _ _ (by unfold maxLen; omega)
      obtain ⟨R, hR⟩ : ∃ R, R = List.replicate (xs.length + 1 - i) enTy.z ++ List.replicate (G - (xs.length + 1)) enTy.z := ⟨_, rfl⟩
      have LR : xs.length + 1 - i ≤ R.length := by rw [hR]; simp
      have hrow : (enTy.flat (xs.take i)).toArray ++ Builtin.zeroCells enTy.zv.cells (xs.length + 1 - i) ++ Builtin.zeroCells enTy.zv.cells (G - (xs.length + 1)) = (enTy.flat (xs.take i ++ R)).toArray := by
        rw [hR, enTy.zeros, enTy.zeros, enTy.flat_app, enTy.flat_app]
        simp
      rw [← hG, hrow] at HRZ0
      have L0 : (xs.take i ++ R).length = G := by rw [hR]; simp; omega
      have hwr : IntKind.i64.wrap ((((xs.length + 1 : Nat) : Int)) - (i : Int)) = ((xs.length + 1 - i : Nat) : Int) := by rw [IntWalk.i64_in _ (by omega)]; omega
      have hwr2 : IntKind.i64.wrap ((xs.length : Int) + 1 - (i : Int)) = ((xs.length + 1 - i : Nat) : Int) := by rw [IntWalk.i64_in _ (by omega)]; omega
      have HRZ : ∀ ty, (Builtin.append_ #[22, 3] ty #[.slice (some ⟨g, 0, none⟩) i c, .int .i64 ((xs.length + 1 - i : Nat) : Int)]).run Tryz.prog w = .ok (.slice (some ⟨w.heap.size, 0, none⟩) (xs.length + 1) G) (w.drew.alloc (.cells (enTy.flat (xs.take i ++ R)).toArray 55)) := fun ty => HRZ0
      clear HRZ0 hrow hG hR hi0 hz0 hz1 hz2
      obtain ⟨w1, hw1, c1, q1⟩ : ∃ w1, w.drew.alloc (.cells (enTy.flat (xs.take i ++ R)).toArray 55) = w1 ∧ Chg [] w w1 ∧ w1.heap[w.heap.size]? = some (.cells (enTy.flat (xs.take i ++ R)).toArray 55 (0, 0)) := ⟨_, rfl, (Chg.refl [] w).drew.alloc _, heap_alloc_new w.drew _⟩
      simp only [hw1] at HRZ
      obtain ⟨g2, hg2⟩ : ∃ g2, w.heap.size = g2 := ⟨_, rfl⟩
      rw [hg2] at q1
      simp only [hg2] at HRZ
      have G2 : g2 ≠ g := by omega
      have G3 : g2 ≠ vb := by omega
      obtain ⟨F1, hF1⟩ : ∃ F1, F1 = (xs.take i ++ R).take i ++ [y] ++ (xs.take i ++ R).drop (i + [y].length) := ⟨_, rfl⟩
      obtain ⟨F2, hF2⟩ : ∃ F2, F2 = F1.take (i + 1) ++ xs.drop i ++ F1.drop (i + 1 + (xs.drop i).length) := ⟨_, rfl⟩
      have L1 : F1.length = G := by rw [hF1]; simp at L0 ⊢; omega
      have L2 : F2.length = G := by rw [hF2]; simp; omega
      have HC1 : ∀ ty dc, (Builtin.copy_ #[22, 22] ty #[.slice (some ⟨g2, i * 4, none⟩) (xs.length + 1 - i) dc, .slice (some ⟨vb, 0, none⟩) 1 1]).run Tryz.prog w1 = .ok (goInt ([y] : List EnT).length) (w1.setRow g2 (enTy.flat F1).toArray) := fun ty dc => by
        have q := run_copyK (R := enTy) w1 ty (g := g2) (off := i) (dLen := xs.length + 1 - i) (dCap := dc) (sLen := 1) (sCap := 1) (B := some ⟨vb, 0, none⟩) (ys := [y]) (full := xs.take i ++ R) q1 (XR.out.chg c1 (by simp)) (by simp only [Nat.min_def, List.length_singleton]; split <;> omega) (by rw [L0]; simp; omega)
        rw [← hF1] at q
        exact q
      have k1 := setRow_heap w1 g2 _ (enTy.flat F1).toArray _ _ q1
      have C1 : Chg [g2] w1 (w1.setRow g2 (enTy.flat F1).toArray) := ⟨rfl, rfl, rfl, by simp, fun j hj hn => setRow_other w1 g2 j _ (by simpa using hn)⟩
      generalize w1.setRow g2 (enTy.flat F1).toArray = w2 at *
      have HC2 : ∀ W, Chg [] w2 W → ∀ ty dc sc, (Builtin.copy_ #[22, 22] ty #[.slice (some ⟨g2, (i + 1) * 4, none⟩) (xs.length - i) dc, .slice (some ⟨g, i * 4, none⟩) (xs.length - i) sc]).run Tryz.prog W = .ok (goInt (xs.drop i).length) (W.setRow g2 (enTy.flat F2).toArray) := fun W hW ty dc sc => by
        have q := run_copyK (R := enTy) W ty (g := g2) (off := i + 1) (dLen := xs.length - i) (dCap := dc) (sLen := xs.length - i) (sCap := sc) (B := some ⟨g, i * 4, none⟩) (ys := xs.drop i) (full := F1) (hW.at_ k1 (by simp)) (by have := ((DR.out.chg c1 (by simp)).chg C1 (fun a ha => by cases ha; simpa using fun e => G2 e.symm)).chg hW (by simp); rw [List.length_drop]; exact this) (by rw [List.length_drop]; simp only [Nat.min_def]; split <;> omega) (by rw [List.length_drop, L1]; omega)
        rw [← hF2] at q
        exact q
      have FIN : Hid (F2.take (xs.take i ++ y :: xs.drop i).length = xs.take i ++ y :: xs.drop i) := Lib.hid (by rw [hF2, hF1]; exact ins_rowN2 (by omega) LR)
      have LNI : Hid ((xs.take i ++ y :: xs.drop i).length = xs.length + 1) := Lib.hid (by simp; omega)
      have K1 := Lib.hid k1
      have L2H := Lib.hid L2
      have C12 : Hid (Chg [g2] w w2) := Lib.hid ((c1.mono (by simp)).trans C1)
      have HG2 := Lib.hid hg2
      have GMH := Lib.hid GM
      have b1 : (0 : Int) ≤ (i : Int) + 1 := by omega
      have b2 : (i : Int) + 1 ≤ (xs.length : Int) + 1 := by omega
      have b3 : (i : Int) ≤ (xs.length : Int) + 1 := by omega
      have b4 : (c : Int) < ((xs.length + 1 : Nat) : Int) := by omega
      have b5 : (c : Int) < (xs.length : Int) + 1 := by omega
      have b6 : ¬ c = i := by omega
      have b7 : ¬ G = i := by omega
      have b8 : ¬ G = i + 1 := by omega
      have b9 : i ≤ c := by omega
      have b10 : (i : Int) ≤ (c : Int) := by omega
      clear hF1 hF2 k1 C1 c1 q1 hw1 hg2 GM L0 L1 L2 LR h hi hn hv hne hg hfl hcm hft gv lg lv O G2 G3 hwr
      go_enter Tryz.func79, Tryz.ntmps79
      go_wp2_with (first | (at_builtin; refine wpList_append_run _ rfl (.tmp 34) (.tmp 39) 22 3 rfl _ _ rfl rfl _ _ (HRZ _) ?_) | (at_builtin; refine wpList_copyR _ rfl (.tmp 43) (.tmp 44) 22 22 rfl (.slice (some ⟨g2, i * 4, none⟩) (xs.length + 1 - i) (G - i)) (.slice (some ⟨vb, 0, none⟩) 1 1) rfl rfl (HC1 _ _) ?_))
      clear HRZ HC1
      refine wp_region_held_drew (S := fun w' => True) (by kernel_rfl) trivial (fun hHeld => ?_)
      have hHeld := trivial
      refine sy 0 46 rfl rfl ?_ (hS := trivial)
      try simp only [Act.put, sA, s0, s1]
      refine sy 1 47 rfl rfl ?_ (hS := trivial)
      try simp only [Act.put, sA, s0, s1]
      refine sy 2 48 rfl rfl ?_ (hS := trivial)
      try simp only [Act.put, sA, s0, s1]
      refine sy 3 49 rfl rfl ?_ (hS := trivial)
      try simp only [Act.put, sA, s0, s1]
      refine sy 4 50 rfl rfl ?_ (hS := trivial)
      try simp only [Act.put, sA, s0, s1]
      refine sy 5 51 rfl rfl ?_ (hS := trivial)
      try simp only [Act.put, sA, s0, s1]
      refine sy 6 52 rfl rfl ?_ (hS := trivial)
      try simp only [Act.put, sA, s0, s1]
      refine sy 7 53 rfl rfl ?_ (hS := trivial)
      try simp only [Act.put, sA, s0, s1]
      refine wpAnyH_ready (rs := [8]) (by kernel_rfl) (by simp) ?_
      refine AllReadyH.cons rfl (fun K hK => ?_) AllReadyH.nil
      replace hK := Lib.hid hK
      refine step_copyR rfl (.tmp 50) (.tmp 53) 22 22 rfl (.slice (some ⟨g2, (i + 1) * 4, none⟩) (xs.length - i) (G - (i + 1))) (.slice (some ⟨g, i * 4, none⟩) (xs.length - i) (c - i)) rfl rfl (HC2 _ ((Chg.refl [] w2).drew) _ _ _) ?_
      go_simp
      have K2 := setRow_heap w2.drew g2 _ (enTy.flat F2).toArray _ _ (((Chg.refl [] w2).drew).at_ K1.out (by simp))
      have C2 : Chg [g2] w (w2.drew.setRow g2 (enTy.flat F2).toArray) := (C12.out.trans ((Chg.refl [] w2).drew.mono (by simp))).trans ⟨rfl, rfl, rfl, by simp, fun j hj hn => setRow_other w2.drew g2 j _ (by simpa using hn)⟩
      generalize w2.drew.setRow g2 (enTy.flat F2).toArray = w3 at *
      refine hK.out _ _ trivial (fun hHeld => ?_)
      clear hK K
      try simp only [Act.put, sA, s0, s1]
      refine wpAnyH_done (by kernel_rfl) ?_ _
      clear hHeld HC2
      have K3 := Lib.hid K2
      have C3 := Lib.hid C2
      have GEH := Lib.hid GE
      clear K2 C2 C12 K1
      go_wp2
      go_ret
      refine ⟨some ⟨g2, 0, none⟩, G, rfl, OwnK.of K3.out (by rw [LNI.out]; exact GEH.out) GMH.out L2H.out FIN.out, fun a ha => .inr (by cases ha; rw [HG2.out]; exact Nat.le_refl _), ((Chg.refl [] w).trans' C3.out (fun j hj => by simp at hj; subst hj; exact .inr (by rw [← HG2.out]; exact Nat.le_refl _))).mono (by simp)⟩
end
section
open Go.RowKit Go.Lib
set_option linter.unusedSimpArgs false
set_option linter.unusedVariables false

theorem mid_at {α : Type} {l : List α} {a b : Nat} {x : α} (ha : a ≤ l.length) (i : Nat) : (l.take a ++ x :: l.drop b)[i]? = if i < a then l[i]? else if i = a then some x else l[i - a - 1 + b]? := by
  have hl : (l.take a).length = a := by rw [List.length_take]; omega
  by_cases h : i < a
  · rw [if_pos h, List.getElem?_append_left (by omega), List.getElem?_take, if_pos h]
  · rw [if_neg h, List.getElem?_append_right (by omega), hl]
    by_cases h2 : i = a
    · rw [if_pos h2, h2, Nat.sub_self]; rfl
    · rw [if_neg h2]
      obtain ⟨j, hj⟩ : ∃ j, i - a = j + 1 := ⟨i - a - 1, by omega⟩
      rw [hj, List.getElem?_cons_succ, List.getElem?_drop, show j + 1 - 1 + b = b + j by omega]
theorem both_mid {α β : Type} {P : α → β → Prop} {ys : List α} {es : List β} (hl : ys.length = es.length) (h : ∀ (i : Nat) (y : α) (e : β), ys[i]? = some y → es[i]? = some e → P y e) {a b : Nat} {x : α} {f : β} (ha : a ≤ ys.length) (hx : P x f) : ∀ (i : Nat) (y : α) (e : β), (ys.take a ++ x :: ys.drop b)[i]? = some y → (es.take a ++ f :: es.drop b)[i]? = some e → P y e := by
  intro i y e hy he
  rw [mid_at ha] at hy
  rw [mid_at (by omega)] at he
  by_cases h1 : i < a
  · rw [if_pos h1] at hy he; exact h i y e hy he
  · rw [if_neg h1] at hy he
    by_cases h2 : i = a
    · rw [if_pos h2] at hy he; cases hy; cases he; exact hx
    · rw [if_neg h2] at hy he; exact h _ y e hy he
theorem EnsR.mid {w : World} {ys : List EnT} {es : List EnP} {X : EnT} {f : EnP} {a b : Nat} (h : EnsR w ys es) (ha : a ≤ ys.length) (r : EnR w X f) : EnsR w (ys.take a ++ X :: ys.drop b) (es.take a ++ f :: es.drop b) :=
  ⟨by have := h.1; simp; omega, both_mid h.1 h.2 ha r⟩
theorem take_drop_sub {α : Type} (l : List α) {a b : Nat} (h : a ≤ b) : (l.take a ++ l.drop b).Sublist l := by
  conv => rhs; rw [← List.take_append_drop b l]
  refine List.Sublist.append ?_ (List.Sublist.refl _)
  have : l.take a = (l.take b).take a := by rw [List.take_take, Nat.min_eq_left h]
  rw [this]
  exact List.take_sublist _ _
theorem OwnNs.mid {w : World} {lo hi hi' : Nat} {G : Option Addr} {ys : List EnT} {es : List EnP} {X : EnT} {f : EnP} {a b : Nat} (h : OwnNs w lo hi G ys es) (ha : a ≤ ys.length) (hab : a ≤ b) (hh : lo ≤ hi ∧ hi ≤ hi') (r : EnR w X f) (hA : OwnB w X.A X.c f.b) (hX : ∀ q, X.A = some q → hi ≤ q.block ∧ q.block < hi' ∧ ∀ g, G = some g → q.block ≠ g.block) : OwnNs w lo hi' G (ys.take a ++ X :: ys.drop b) (es.take a ++ f :: es.drop b) := by
  have inn : ∀ y, y ∈ ys.take a ++ X :: ys.drop b → y = X ∨ y ∈ ys := fun y hy => by
    rcases List.mem_append.1 hy with q | q
    · exact .inr (List.mem_of_mem_take q)
    · rcases List.mem_cons.1 q with q | q
      · exact .inl q
      · exact .inr (List.mem_of_mem_drop q)
  refine ⟨h.ev.mid ha r, both_mid (P := fun y e => OwnB w y.A y.c e.b) h.ev.1 h.own ha hA, fun y hy q hq => ?_, ?_⟩
  · rcases inn y hy with rfl | hy
    · have := hX q hq
      exact ⟨by omega, this.2⟩
    · have := h.at_ y hy q hq
      exact ⟨this.1, by omega, this.2.2⟩
  · have s := h.apart.sublist (take_drop_sub ys hab)
    rw [List.pairwise_append] at s ⊢
    refine ⟨s.1, List.pairwise_cons.2 ⟨fun z hz p q hp hq => ?_, s.2.1⟩, fun y hy z hz p q hp hq => ?_⟩
    · have := (hX p hp).1
      have := (h.at_ z (List.mem_of_mem_drop hz) q hq).2.1
      omega
    · rcases List.mem_cons.1 hz with rfl | hz
      · have := (hX q hq).1
        have := (h.at_ y (List.mem_of_mem_take hy) p hp).2.1
        omega
      · exact s.2.2 y hy z hz p q hp hq
theorem OwnNs.row {w : World} {lo hi : Nat} {G G' : Option Addr} {ys : List EnT} {es : List EnP} (h : OwnNs w lo hi G ys es) (hG : ∀ a, G' = some a → G = some a ∨ hi ≤ a.block) : OwnNs w lo hi G' ys es :=
  ⟨h.ev, h.own, fun y hy a ha => ⟨(h.at_ y hy a ha).1, (h.at_ y hy a ha).2.1, fun b hb => by
    rcases hG b hb with q | q
    · exact (h.at_ y hy a ha).2.2 b q
    · have := (h.at_ y hy a ha).2.1; omega⟩, h.apart⟩
theorem NsF.low {w : World} {lo lo' hi : Nat} {A : Option Addr} {c : Nat} {ys : List EnT} {es : List EnP} (h : NsF w lo hi A c ys es) (hh : lo' ≤ lo) : NsF w lo' hi A c ys es :=
  ⟨h.row, fun a ha => ⟨Nat.le_trans hh (h.rowAt a ha).1, (h.rowAt a ha).2⟩, h.all.low hh⟩
theorem NsF.mono {w : World} {lo hi hi' : Nat} {A : Option Addr} {c : Nat} {ys : List EnT} {es : List EnP} (h : NsF w lo hi A c ys es) (hh : hi ≤ hi') : NsF w lo hi' A c ys es :=
  ⟨h.row, fun a ha => ⟨(h.rowAt a ha).1, Nat.lt_of_lt_of_le (h.rowAt a ha).2 hh⟩, h.all.mono hh⟩
theorem set_mid {α : Type} {l : List α} {i : Nat} {x : α} (h : i < l.length) : l.set i x = l.take i ++ x :: l.drop (i + 1) := by
  rw [List.set_eq_take_append_cons_drop, if_pos h]
/-- Some of a list's entries. -/
theorem OwnNs.sub {w : World} {lo hi : Nat} {G : Option Addr} {ys zs : List EnT} {es fs : List EnP} (h : OwnNs w lo hi G ys es) (hr : EnsR w zs fs) (hs : (zs.zip fs).Sublist (ys.zip es)) : OwnNs w lo hi G zs fs := by
  have pr : ∀ (i : Nat) (z : EnT) (e : EnP), zs[i]? = some z → fs[i]? = some e → ∃ k, ys[k]? = some z ∧ es[k]? = some e := fun i z e hz he => by
    have m := hs.subset (List.mem_of_getElem? ((List.getElem?_zip_eq_some (z := (z, e))).2 ⟨hz, he⟩))
    obtain ⟨k, hk⟩ := List.getElem?_of_mem m
    exact ⟨k, (List.getElem?_zip_eq_some (z := (z, e))).1 hk⟩
  have z1 : (zs.zip fs).map Prod.fst = zs := List.map_fst_zip (by rw [hr.1]; exact Nat.le_refl _)
  have y1 : (ys.zip es).map Prod.fst = ys := List.map_fst_zip (by rw [h.ev.1]; exact Nat.le_refl _)
  have sb : zs.Sublist ys := by
    have := hs.map Prod.fst
    rwa [z1, y1] at this
  refine ⟨hr, fun i z e hz he => ?_, fun z hz => h.at_ z (sb.subset hz), h.apart.sublist sb⟩
  obtain ⟨k, a, b⟩ := pr i z e hz he
  exact h.own k z e a b
end
section
open Go.RowKit Go.Lib
set_option linter.unusedSimpArgs false
set_option linter.unusedVariables false

/-- A new row of zeros. -/
theorem RowTy.run_mk {α : Type} (R : RowTy α) (n : Nat) (h : n ≤ 1000000) (w : World) : (Instr.makeSlice R.TS (.int .i64 (n : Int)) (.int .i64 (n : Int))).run Tryz.prog w = .ok (.slice (some ⟨w.heap.size, 0, none⟩) n n) (w.alloc (.cells (R.flat (List.replicate n R.z)).toArray R.T)) := by
  have hinf := R.info
  obtain ⟨i0, hi, hm⟩ := Option.map_eq_some_iff.1 hinf
  have hz : i0.zero = some R.zv := congrArg Prod.fst hm
  have hs : i0.size = R.k := congrArg (fun p => p.2.1) hm
  have hb : i0.bytes = R.bytes := congrArg (fun p => p.2.2) hm
  have hr := run_make (P := Tryz.prog) w R.TS R.T i0 R.zv R.under hi hz .i64 .i64 n n (by omega) (by omega) (by rw [hb]; have := R.bpos; have : (R.bytes : Int) * (n : Int) ≤ 200 * (n : Int) := Int.mul_le_mul_of_nonneg_right (by omega) (by omega); omega) (by omega)
  rw [hr, hs, Int.toNat_natCast]
  have hk : R.zv.cells.size = R.k := by rw [← Array.length_toList, R.zc, R.klen]
  have e : madeCells R.zv.cells (n * R.k) = (R.flat (List.replicate n R.z)).toArray := by
    rw [← R.zeros]
    unfold madeCells Builtin.zeroCells
    simp [hk]
  rw [e]
end
section
open Go.RowKit Go.Lib
set_option linter.unusedSimpArgs false
set_option linter.unusedVariables false

set_option maxRecDepth 100000 in
set_option maxHeartbeats 8000000 in
theorem frlistn_any (w : World) (A : Option Addr) (c : Nat) (xs : List EnT) (es : List EnP) (h : RdK enTy w A xs.length xs) (hx : EnsR w xs es) (hn : xs.length ≤ 100000) (hq : ∀ e ∈ es, e.b.length ≤ 140737488351232 ) :
    Calls Tryz.prog 89 #[.slice A xs.length c, .func (.func 78) #[] #[]] w fun r w' => ∃ (A' : Option Addr) (c' : Nat) (ys : List EnT), r = .returned (.slice A' ys.length c') ∧ ys.length = xs.length ∧ NsF w' w.heap.size w'.heap.size A' c' ys es ∧ Chg [] w w' := by
  have HA := Lib.hid h
  have HX := Lib.hid hx
  have HN := Lib.hid hn
  have HQ := Lib.hid hq
  by_cases h0 : xs.length = 0
  · have hx0 : xs = [] := List.length_eq_zero_iff.1 h0
    subst hx0
    have he : es = [] := List.length_eq_zero_iff.1 (by have := hx.1; simpa using this.symm)
    subst he
    clear HA HX HN HQ h hx hn hq h0
    go_enter Tryz.func89, Tryz.ntmps89
    go_wp2
    go_ret
    exact ⟨none, 0, [], rfl, rfl, NsF.nil _ _ _, Chg.refl _ _⟩
  · have hn0 : ¬ (xs.length : Int) = 0 := by omega
    have HP := Lib.hid h0
    have hmk : ∀ w : World, (Instr.makeSlice 22 (.int .i64 (xs.length : Int)) (.int .i64 (xs.length : Int))).run Tryz.prog w = .ok (.slice (some ⟨w.heap.size, 0, none⟩) xs.length xs.length) (w.alloc (.cells (enTy.flat (List.replicate xs.length enTy.z)).toArray 55)) := enTy.run_mk xs.length (by omega)
    obtain ⟨w1, hw1, c1, b1⟩ := news1 w (.cells (enTy.flat (List.replicate xs.length enTy.z)).toArray 55)
    have W1 := Lib.hid hw1
    have C1 := Lib.hid c1
    have O1 : Hid (OwnK enTy w1 (some ⟨w.heap.size, 0, none⟩) xs.length (List.replicate xs.length enTy.z)) := Lib.hid (OwnK.of (full := List.replicate xs.length enTy.z) b1 (by simp) (by unfold maxLen; omega) (by simp) (by simp))
    have SZ1 : Hid (w.heap.size + 1 ≤ w1.heap.size) := Lib.hid (lt_of_heap b1)
    clear h hx hn hq hw1 c1 b1 h0
    go_enter Tryz.func89, Tryz.ntmps89
    go_upto_region 4 with fail
    rw [← W1.out]
    obtain ⟨g, hg⟩ : ∃ g, w.heap.size = g := ⟨_, rfl⟩
    have HG := Lib.hid hg
    rw [hg] at O1 SZ1 ⊢
    clear W1 hmk hg
    go_wp2
    have h0b : (((xs.length : Int) == 0) : Bool) = false := by simpa using hn0
    rw [h0b]
    clear h0b
    go_loopw [16] (fun v16 wr => ∃ (k : Nat) (ys : List EnT), k ≤ xs.length ∧ ys.length = k ∧ v16 = .int .i64 k ∧ Hid (OwnK enTy wr (some ⟨g, 0, none⟩) xs.length (ys ++ List.replicate (xs.length - k) enTy.z)) ∧ Hid (OwnNs wr g wr.heap.size (some ⟨g, 0, none⟩) ys (es.take k)) ∧ Hid (g + 1 ≤ wr.heap.size) ∧ Hid (Chg [] w wr)) (fun v16 _ => xs.length - (RowKit.intOf v16).toNat)
    case atStart => exact ⟨0, [], Nat.zero_le _, rfl, rfl, Lib.hid (by simpa using O1.out), Lib.hid (by simpa using OwnNs.nil _ _ _ _), SZ1, C1⟩
    case round =>
      obtain ⟨k, ys, hk, hyl, rfl, RO, RE, RS, RC⟩ := hrel
      have i0 : (0 : Int) ≤ (k : Int) := by omega
      by_cases hlt : k < xs.length
      · have i1 : (k : Int) < (xs.length : Int) := by omega
        have i3 : IntKind.i64.wrap ((k : Int) + 1) = (k : Int) + 1 := IntWalk.i64_in _ (by have := HN.out; omega)
        obtain ⟨g2, o2, eA, _⟩ := HA.out.line (by omega)
        subst eA
        obtain ⟨x, e, ex, ee, rx⟩ := HX.out.at_ hlt
        obtain ⟨z0, z1, z2, z3⟩ := enCells (HA.out.chg RC.out (by simp)) ex
        have RX := Lib.hid rx
        have ET : Hid (es.take (k + 1) = es.take k ++ [e]) := Lib.hid (by rw [List.take_add_one, ee]; rfl)
        have EQ := Lib.hid (HQ.out e (List.mem_of_getElem? ee))
        have YL := Lib.hid hyl
        clear ex ee rx hyl
        go_upto_region 7 with fail
        clear z0 z1 z2 z3
        obtain ⟨w2, hw2, c2, b2⟩ := news1 wr (.cells #[.string x.p, .int .i64 x.k, .int .i64 x.m, .slice x.A x.l x.c] 55)
        have W2 := Lib.hid hw2
        have RO2 := Lib.hid (RO.out.chg c2 (by simp))
        have RE2 := Lib.hid ((RE.out.chg c2 (by simp)).mono c2.size)
        have RS2 : Hid (g + 1 ≤ w2.heap.size) := Lib.hid (Nat.le_trans RS.out c2.size)
        have RC2 := Lib.hid (RC.out.trans c2)
        have y0 := cell_of b2 0
        have y1 := cell_of b2 1
        have y2 := cell_of b2 2
        have y3 := cell_of b2 3
        simp only [List.getElem?_toArray, List.getElem?_cons_succ, List.getElem?_cons_zero] at y0 y1 y2 y3
        clear hw2 c2 b2 RO RE RS RC
        rw [← W2.out]
        generalize wr.heap.size = s2 at *
        clear W2
        go_wp2_with fail
        clear y0 y1 y2 y3
        refine (fren_any w2 x e (RX.out.chg RC2.out) EQ.out).mono ?_
        rintro r w3 ⟨X, rfl, hR, hA, hnA, hc⟩
        have hsz := hc.size
        have RE3 : Hid (OwnNs w3 g w3.heap.size (some ⟨g, 0, none⟩) (ys ++ [X]) (es.take (k + 1))) := Lib.hid (by
          rw [ET.out]
          refine (RE2.out.chg hc (by simp)).snoc ⟨by have := RS2.out; omega, hsz⟩ hR hA (fun a ha => ?_)
          have lo : w2.heap.size ≤ a.block ∧ a.block < w3.heap.size := ⟨hnA a ha, hA.lt a ha⟩
          refine ⟨lo.1, lo.2, fun b hb e => ?_⟩
          cases hb
          have e : a.block = g := e
          have := RS2.out
          have := lo.1
          omega)
        have RO3 := Lib.hid (RO2.out.chg hc (by simp))
        have RS3 : Hid (g + 1 ≤ w3.heap.size) := Lib.hid (Nat.le_trans RS2.out hsz)
        have RC3 := Lib.hid (RC2.out.trans hc)
        clear hR hA hnA hc hsz RO2 RE2 RS2 RC2 EQ RX ET
        have kz : (ys ++ List.replicate (xs.length - k) enTy.z)[k]? = some enTy.z := by
          rw [List.getElem?_append_right (by rw [YL.out]; exact Nat.le_refl _), YL.out, Nat.sub_self, List.getElem?_replicate]
          simp
          omega
        obtain ⟨z0, z1, z2, z3⟩ := enCells RO3.out.reads kz
        rw [Nat.zero_add] at z0 z1 z2 z3
        have F3 : ∀ j, w3.frozen? ⟨g, j, none⟩ = false := fun j => by
          rcases RO3.out with ⟨h, _⟩ | ⟨g', full, e, hg, _⟩
          · cases h
          · cases e; exact free_of hg j
        have f0 := F3 (k * 4)
        have f1 := F3 (k * 4 + 1)
        have f2 := F3 (k * 4 + 2)
        have f3 := F3 (k * 4 + 3)
        have KZ := Lib.hid kz
        clear kz F3
        have RO4 := Lib.hid (RO3.out.setn4 k _ X KZ.out)
        have C4 := Lib.hid ((Chg.refl [g] w3).setn4 (g := g) (.inl (by simp)) (k * 4) (.string X.p) (.int .i64 X.k) (.int .i64 X.m) (.slice X.A X.l X.c))
        have RC4 := Lib.hid (RC3.out.setn4 (g := g) (.inr (by rw [HG.out]; exact Nat.le_refl _)) (k * 4) (.string X.p) (.int .i64 X.k) (.int .i64 X.m) (.slice X.A X.l X.c))
        go_upto_region 8 with fail
        clear z0 z1 z2 z3 f0 f1 f2 f3
        generalize ((((w3.setCell ⟨g, k * 4, none⟩ (.string X.p)).setCell ⟨g, k * 4 + 1, none⟩ (.int .i64 X.k)).setCell ⟨g, k * 4 + 2, none⟩ (.int .i64 X.m)).setCell ⟨g, k * 4 + 3, none⟩ (.slice X.A X.l X.c)) = w4 at *
        have SZ4 := C4.out.size
        have RE4 : Hid (OwnNs w4 g w4.heap.size (some ⟨g, 0, none⟩) (ys ++ [X]) (es.take (k + 1))) := Lib.hid ((RE3.out.chg C4.out (fun i hi _ => ⟨⟨g, 0, none⟩, rfl, by simp at hi; exact hi.symm⟩)).mono SZ4)
        have RS4 : Hid (g + 1 ≤ w4.heap.size) := Lib.hid (Nat.le_trans RS3.out SZ4)
        have SET : Hid ((ys ++ List.replicate (xs.length - k) enTy.z).set k X = (ys ++ [X]) ++ List.replicate (xs.length - (k + 1)) enTy.z) := Lib.hid (by
          have hr : xs.length - k = (xs.length - (k + 1)) + 1 := by omega
          rw [hr, List.replicate_succ, List.set_append_right _ _ (by rw [YL.out]; exact Nat.le_refl _), YL.out, Nat.sub_self]
          simp)
        rw [SET.out] at RO4
        clear SZ4 C4 RC3 RE3 RO3 RS3 KZ SET
        go_wp2
        go_round
        case rel => exact ⟨k + 1, ys ++ [X], by omega, by simp [YL.out], by go_num, RO4, RE4, RS4, RC4⟩
        case measure => simp [RowKit.intOf]; omega
      · obtain rfl : k = xs.length := by omega
        have i1 : ¬ (xs.length : Int) < (xs.length : Int) := by omega
        have ET : es.take xs.length = es := by rw [HX.out.1]; exact List.take_length
        rw [ET, HG.out.symm] at RE
        rw [Nat.sub_self, List.replicate_zero, List.append_nil] at RO
        have YL := Lib.hid hyl
        clear hyl ET
        go_wp2
        go_ret
        refine ⟨some ⟨g, 0, none⟩, xs.length, ys, by rw [YL.out]; rfl, YL.out, ⟨RO.out, fun a ha => ?_, ?_⟩, RC.out⟩
        · cases ha
          exact ⟨by rw [HG.out]; exact Nat.le_refl _, RS.out⟩
        · have := RE.out
          rw [HG.out] at this ⊢
          exact this
set_option maxRecDepth 100000 in
set_option maxHeartbeats 4000000 in
theorem frentries_any (w : World) (A : Option Addr) (c : Nat) (xs : List EnT) (es : List EnP) (h : RdK enTy w A xs.length xs) (hx : EnsR w xs es) (hn : xs.length ≤ 100000) (hq : ∀ e ∈ es, e.b.length ≤ 140737488351232 ) :
    Calls Tryz.prog 52 #[.slice A xs.length c] w fun r w' => ∃ (A' : Option Addr) (c' : Nat) (ys : List EnT), r = .returned (.slice A' ys.length c') ∧ ys.length = xs.length ∧ NsF w' w.heap.size w'.heap.size A' c' ys es ∧ Chg [] w w' := by
  have CC := Lib.hid (frlistn_any w A c xs es h hx hn hq)
  clear h hx hn hq
  go_enter Tryz.func52, Tryz.ntmps52
  go_wp2_with fail
  refine CC.out.mono ?_
  rintro r w2 ⟨A', c', ys, rfl, hl, he, hc⟩
  have P := Lib.hid (And.intro hl (And.intro he hc))
  clear CC hl he hc
  go_wp2
  go_ret
  exact ⟨A', c', ys, rfl, P.out.1, P.out.2.1, P.out.2.2⟩
end
section
open Go.RowKit Go.Lib
set_option linter.unusedSimpArgs false
set_option linter.unusedVariables false

set_option maxRecDepth 100000 in
set_option maxHeartbeats 16000000 in
/-- table.Put. -/
theorem tbput_any (w : World) (A : Option Addr) (c : Nat) (xs : List EnT) (es : List EnP) (y : EnT) (f : EnP) (h : RdK enTy w A xs.length xs) (hx : EnsR w xs es) (hn : xs.length ≤ 190) (hs : ∀ e ∈ es, EnSm e) (hy : EnR w y f) (ht : EnSm f) :
    Calls Tryz.prog 34 #[.slice A xs.length c, .string (strOf f.p), .agg #[.int .i64 y.k, .int .i64 y.m, .slice y.A y.l y.c]] w fun r w' => ∃ (A' : Option Addr) (c' : Nat) (ys : List EnT), r = .returned (.tuple #[.slice A' ys.length c', .int .i64 (putT es f).1]) ∧ NsF w' w.heap.size w'.heap.size A' c' ys (putT es f).2 ∧ Chg [] w w' := by
  obtain ⟨R, hR⟩ : ∃ R, putT es f = R := ⟨_, rfl⟩
  rw [hR]
  have HRR := Lib.hid hR
  obtain ⟨w1, hw, hc, b0, b1⟩ := news2 w (.cells #[.int .i64 y.k, .int .i64 y.m, .slice y.A y.l y.c] 25) (.cells #[.string (strOf f.p), .int .i64 y.k, .int .i64 y.m, .slice y.A y.l y.c] 55)
  have W1 := Lib.hid hw
  obtain ⟨g0, hg0⟩ : ∃ g, w.heap.size = g := ⟨_, rfl⟩
  obtain ⟨g1, hg1⟩ : ∃ g, w.heap.size + 1 = g := ⟨_, rfl⟩
  have G1 := Lib.hid hg1
  have G0 := Lib.hid hg0
  rw [hg0] at b0
  rw [hg1] at b1
  have BX : Hid (∀ w', Chg [] w1 w' → (w'.cell? ⟨g0, 0, none⟩ = some (.int .i64 y.k) ∧ w'.cell? ⟨g0, 1, none⟩ = some (.int .i64 y.m) ∧ w'.cell? ⟨g0, 2, none⟩ = some (.slice y.A y.l y.c)) ∧ (w'.cell? ⟨g1, 0, none⟩ = some (.string (strOf f.p)) ∧ w'.cell? ⟨g1, 1, none⟩ = some (.int .i64 y.k) ∧ w'.cell? ⟨g1, 2, none⟩ = some (.int .i64 y.m) ∧ w'.cell? ⟨g1, 3, none⟩ = some (.slice y.A y.l y.c))) := Lib.hid (fun w' hc => by
    have q := hc.at_ b0 (by simp)
    have r := hc.at_ b1 (by simp)
    exact ⟨⟨cell_of q 0, cell_of q 1, cell_of q 2⟩, cell_of r 0, cell_of r 1, cell_of r 2, cell_of r 3⟩)
  have HA := Lib.hid (h.chg hc (by simp))
  have HX := Lib.hid (hx.chg hc)
  have HY := Lib.hid (hy.chg hc)
  have C0 := Lib.hid hc
  have HN := Lib.hid hn
  have HS := Lib.hid hs
  have HT := Lib.hid ht
  have XL : Hid (xs.length = es.length) := Lib.hid hx.1
  have FC : Hid (∀ w', Chg [] w1 w' → Calls Tryz.prog 42 #[.agg #[.string (strOf f.p), .int .i64 y.k, .int .i64 y.m, .slice y.A y.l y.c]] w' fun r w2 => r = .returned (.bool (decide (Stands f))) ∧ Chg [] w' w2) := Lib.hid (fun w' hc2 => by
    have q := tbstands_any w' y f (hy.chg (hc.trans hc2)) ht
    rwa [hy.p] at q)
  have FE : Hid (∀ w', Chg [] w1 w' → Calls Tryz.prog 78 #[.agg #[.string (strOf f.p), .int .i64 y.k, .int .i64 y.m, .slice y.A y.l y.c]] w' fun r w2 => ∃ X : EnT, r = .returned (.agg #[.string X.p, .int .i64 X.k, .int .i64 X.m, .slice X.A X.l X.c]) ∧ EnR w2 X f ∧ OwnB w2 X.A X.c f.b ∧ (∀ a, X.A = some a → w'.heap.size ≤ a.block) ∧ Chg [] w' w2) := Lib.hid (fun w' hc2 => by
    have q := fren_any w' y f (hy.chg (hc.trans hc2)) ht.2
    rwa [hy.p] at q)
  clear hw hc b0 b1 hg0 hg1 h hx hn hs hy ht hR
  go_enter Tryz.func34, Tryz.ntmps34
  go_upto_region 2 with fail
  rw [← W1.out, G1.out, G0.out]
  clear W1
  have CK := Lib.hid (tbcheck_any w1 A c xs es HA.out HX.out (by have := HN.out; omega) HS.out)
  go_wp2_with fail
  refine CK.out.mono ?_
  rintro r w2 ⟨rfl, hc⟩
  have C := Lib.hid hc
  clear hc CK
  rcases tabE_two es with e1 | e1
  rotate_left
  · have ER : Hid (R = (2, [])) := Lib.hid (by rw [← HRR.out]; unfold putT; rw [if_pos (fun q => by rw [tabE_zero.2 q.1] at e1; cases e1)])
    rw [e1]
    clear e1
    go_wp2
    go_ret2
    rw [ER.out]
    exact ⟨none, 0, [], rfl, NsF.nil _ _ _, C0.out.trans C.out⟩
  have OK : Hid (TabOk es) := Lib.hid (tabE_zero.1 e1)
  rw [e1]
  clear e1
  obtain ⟨_, z0, z1, z2, z3⟩ := BX.out _ C.out
  go_wp2_with fail
  clear z0 z1 z2 z3
  refine (FC.out _ C.out).mono ?_
  rintro r w3 ⟨rfl, hc⟩
  replace C := Lib.hid (C.out.trans hc)
  clear hc FC
  by_cases hst : Stands f
  rotate_left
  · have ER : Hid (R = (2, [])) := Lib.hid (by rw [← HRR.out]; unfold putT; rw [if_pos (fun q => hst q.2)])
    rw [decide_eq_false hst]
    clear hst
    go_wp2
    go_ret2
    rw [ER.out]
    exact ⟨none, 0, [], rfl, NsF.nil _ _ _, C0.out.trans C.out⟩
  have ST := Lib.hid hst
  rw [decide_eq_true hst]
  clear hst
  have PX := Lib.hid (tbparent_any w3 A c xs es f.p HT.out.1 (HA.out.chg C.out (by simp)) (HX.out.chg C.out) (by have := HN.out; omega))
  go_wp2_with fail
  refine PX.out.mono ?_
  rintro r w4 ⟨rfl, hc⟩
  replace C := Lib.hid (C.out.trans hc)
  clear hc PX
  by_cases hpp : parT es f.p = 0
  rotate_left
  · have ER : Hid (R = (parT es f.p, [])) := Lib.hid (by rw [← HRR.out]; unfold putT; rw [if_neg (fun q => q ⟨OK.out, ST.out⟩), if_pos hpp])
    generalize parT es f.p = pv at *
    have h1 : ((pv == 0) : Bool) = false := by simpa using hpp
    have h2 : ((pv != 0) : Bool) = true := by unfold bne; rw [h1]; rfl
    clear hpp
    go_wp2
    go_ret2
    rw [ER.out]
    exact ⟨none, 0, [], rfl, NsF.nil _ _ _, C0.out.trans C.out⟩
  have PP := Lib.hid hpp
  rw [hpp]
  clear hpp
  obtain ⟨⟨y0, y1, y2⟩, _⟩ := BX.out _ C.out
  have LAY : Hid (R = (0, layT es f) → R = (0, layT es f)) := Lib.hid id
  have LEN200 : ((xs.length : Int) == 200) = false := by simp; have := HN.out; omega
  have LEN200b : ¬ (xs.length : Int) = 200 := by have := HN.out; omega
  by_cases hk2 : y.k = 2
  · skip
    have h1 : ((y.k == 2) : Bool) = true := by simpa using hk2
    have h3 : ((y.k != 2) : Bool) = false := by unfold bne; rw [h1]; rfl
    have NK : Hid (¬ (f.k ≠ 2 ∧ anyT es f.p = true)) := Lib.hid (fun q => q.1 (by rw [← HY.out.k]; exact hk2))
    clear hk2
    obtain ⟨wk, hwk⟩ : ∃ wk, w4 = wk := ⟨_, rfl⟩
    rw [hwk] at C y0 y1 y2 ⊢
    clear hwk
    have BIN := Lib.hid (binen_any wk A c xs es f.p (HA.out.chg C.out (by simp)) (HX.out.chg C.out) OK.out.2.1 (by have := HN.out; omega) HT.out.1 (fun e he => (HS.out e he).1))
    go_wp2_with fail
    refine BIN.out.mono ?_
    rintro r w5 ⟨i, hi, lo, hi2, rfl, hc⟩
    replace C := Lib.hid (C.out.trans hc)
    have LO := Lib.hid lo
    have HII := Lib.hid hi2
    have IL := Lib.hid hi
    clear lo hi2 hi hc BIN
    have FRS := Lib.hid (frentries_any w5 A c xs es (HA.out.chg C.out (by simp)) (HX.out.chg C.out) (by have := HN.out; omega) (fun e he => (HS.out e he).2))
    rcases hg : getT es f.p with _ | ge
    · skip
      have NEWL := Lib.hid (lay_new LO.out HII.out hg)
      clear hg
      go_wp2_with fail
      clear LEN200 LEN200b
      refine FRS.out.mono ?_
      rintro r w6 ⟨A6, c6, ys, rfl, hyl, hf, hc⟩
      have F6 := Lib.hid hf
      have YL := Lib.hid hyl
      have C56 := Lib.hid hc
      have C6 := Lib.hid (C.out.trans hc)
      clear hyl hf hc FRS
      obtain ⟨_, z0, z1, z2, z3⟩ := BX.out _ C6.out
      go_wp2_with fail
      clear z0 z1 z2 z3
      refine (FE.out _ C6.out).mono ?_
      rintro r w7 ⟨X, rfl, hR, hB, hL, hc⟩
      have XR := Lib.hid hR
      have XB := Lib.hid hB
      have XL7 := Lib.hid hL
      have C67 := Lib.hid hc
      clear hR hB hL hc FE
      obtain ⟨w8, hw, hc, b8⟩ := news1 w7 (.cells #[.string X.p, .int .i64 X.k, .int .i64 X.m, .slice X.A X.l X.c] 55)
      have W8 := Lib.hid hw
      have R8 := Lib.hid (rd_oneEn b8)
      have C78 := Lib.hid hc
      have NB : Hid (∀ a, A6 = some a → a.block ≠ w7.heap.size) := Lib.hid (fun a ha q => by have := (F6.out.rowAt a ha).2; have := C67.out.size; omega)
      have IN := Lib.hid (insen_any w8 A6 c6 ys i w7.heap.size X ((F6.out.row.chg C67.out (by simp)).chg hc (by simp)) (by rw [YL.out]; exact IL.out) (by rw [YL.out]; have := HN.out; omega) (by simpa using b8) NB.out)
      clear hw hc b8
      go_wp2_with fail
      rw [← W8.out]
      clear W8
      refine IN.out.mono ?_
      rintro r w9 ⟨A9, c9, rfl, hO, hA, hc⟩
      have O9 := Lib.hid hO
      have A9L := Lib.hid hA
      have C89 := Lib.hid hc
      clear hO hA hc IN R8 NB
      have ER : Hid (R = (0, layT es f)) := Lib.hid (by rw [← HRR.out]; unfold putT; rw [if_neg (fun q => q ⟨OK.out, ST.out⟩), if_neg (fun q => q PP.out), if_neg NK.out])
      have SZ : Hid (w5.heap.size ≤ w6.heap.size ∧ w6.heap.size ≤ w7.heap.size ∧ w7.heap.size ≤ w8.heap.size ∧ w8.heap.size ≤ w9.heap.size) := Lib.hid ⟨C56.out.size, C67.out.size, C78.out.size, C89.out.size⟩
      have NO : Hid (OwnNs w9 w5.heap.size w9.heap.size A9 (ys.take i ++ X :: ys.drop i) (layT es f)) := Lib.hid (by
        rw [NEWL.out]
        have ch := (C67.out.trans C78.out)
        have a1 := (F6.out.all.chg ch (by simp)).chg C89.out (fun j hj _ => by obtain ⟨b, hb, e⟩ := of_blkOf hj; exact ⟨b, hb, e⟩)
        have s := SZ.out
        refine (a1.row (G' := A9) (fun a ha => (A9L.out a ha).imp id (fun q => by omega))).mid (by rw [YL.out]; exact IL.out) (Nat.le_refl _) ⟨by omega, by omega⟩ ((XR.out.chg C78.out).chgS C89.out (fun a ha q => ?_)) ((XB.out.chg C78.out (by simp)).chg C89.out (fun a ha q => ?_)) (fun q hq => ⟨?_, ?_, fun b hb e => ?_⟩)
        · obtain ⟨b, hb, e⟩ := of_blkOf q; have := XL7.out a ha; have := (F6.out.rowAt b hb).2; omega
        · obtain ⟨b, hb, e⟩ := of_blkOf q; have := XL7.out a ha; have := (F6.out.rowAt b hb).2; omega
        · exact XL7.out q hq
        · have := XB.out.lt q hq; omega
        · have a := XL7.out q hq
          have l := XB.out.lt q hq
          rcases A9L.out b hb with r | r
          · have := (F6.out.rowAt b r).2; omega
          · omega)
      have NL : Hid (ys.length + 1 = (ys.take i ++ X :: ys.drop i).length) := Lib.hid (by have := IL.out; have := YL.out; simp; omega)
      obtain ⟨zs, hzs⟩ : ∃ zs, ys.take i ++ X :: ys.drop i = zs := ⟨_, rfl⟩
      rw [hzs] at NL NO O9
      clear hzs
      rw [NL.out]
      go_wp2
      go_ret2
      rw [ER.out]
      refine ⟨A9, c9, zs, rfl, ⟨O9.out, fun a ha => ⟨?_, O9.out.lt_ a ha⟩, NO.out.low (C0.out.trans C.out).size⟩, ?_⟩
      · have := (C0.out.trans C.out).size
        rcases A9L.out a ha with r | r
        · have := (F6.out.rowAt a r).1; omega
        · have := SZ.out; omega
      · exact ((C0.out.trans C6.out).trans (C67.out.trans C78.out)).trans' C89.out (fun j hj => by obtain ⟨b, hb, e⟩ := of_blkOf hj; have := (F6.out.rowAt b hb).1; have := (C0.out.trans C.out).size; exact .inr (by omega))
    · skip
      have NEWL := Lib.hid (lay_there OK.out.2.1 LO.out HII.out hg)
      clear hg
      go_wp2_with fail
      clear LEN200 LEN200b
      refine FRS.out.mono ?_
      rintro r w6 ⟨A6, c6, ys, rfl, hyl, hf, hc⟩
      have F6 := Lib.hid hf
      have YL := Lib.hid hyl
      have C56 := Lib.hid hc
      have C6 := Lib.hid (C.out.trans hc)
      clear hyl hf hc FRS
      obtain ⟨_, z0, z1, z2, z3⟩ := BX.out _ C6.out
      go_wp2_with fail
      clear z0 z1 z2 z3
      refine (FE.out _ C6.out).mono ?_
      rintro r w7 ⟨X, rfl, hR, hB, hL, hc⟩
      have XR := Lib.hid hR
      have XB := Lib.hid hB
      have XL7 := Lib.hid hL
      have C67 := Lib.hid hc
      clear hR hB hL hc FE

      have IL3 : Hid (i < ys.length) := Lib.hid (by rw [YL.out, XL.out]; exact (List.getElem?_eq_some_iff.1 NEWL.out.1).1)
      have ylp : 0 < ys.length := by have := IL3.out; omega
      obtain ⟨g6, rfl⟩ : ∃ g6, A6 = some ⟨g6, 0, none⟩ := by
        rcases F6.out.row with ⟨a, b, _⟩ | ⟨g, full, a, _⟩
        · rw [b] at ylp; simp at ylp
        · exact ⟨g, a⟩
      obtain ⟨yi, hyi⟩ : ∃ yi, ys[i]? = some yi := ⟨_, List.getElem?_eq_getElem IL3.out⟩
      have RW := F6.out.row.chg C67.out (by simp)
      obtain ⟨z0, z1, z2, z3⟩ := enCells (o := 0) RW.reads hyi
      have hgc := RW
      rcases hgc with ⟨a, _⟩ | ⟨g', full, ea, hgb, hfl, hcm, hnc, hft⟩
      · cases a
      cases ea
      have f0 := free_of hgb
      have k0 : (0 : Int) ≤ (i : Int) := by omega
      have k1 : (i : Int) < (ys.length : Int) := by have := IL3.out; omega
      have OST := Lib.hid (RW.setn4 i yi X hyi)
      have GB := Lib.hid (F6.out.rowAt _ rfl)
      clear ylp hyi RW hfl hcm hnc hft hgb
      simp only [Nat.zero_add] at z0 z1 z2 z3
      go_wp2
      clear z0 z1 z2 z3 f0
      have CST := (Chg.refl [g6] w7).setn4 (g := g6) (.inl (by simp)) (i * 4) (.string X.p) (.int .i64 X.k) (.int .i64 X.m) (.slice X.A X.l X.c)
      obtain ⟨w9, hW⟩ : ∃ w9 : World, ((((w7.setCell ⟨g6, i * 4, none⟩ (.string X.p)).setCell ⟨g6, i * 4 + 1, none⟩ (.int .i64 X.k)).setCell ⟨g6, i * 4 + 2, none⟩ (.int .i64 X.m)).setCell ⟨g6, i * 4 + 3, none⟩ (.slice X.A X.l X.c)) = w9 := ⟨_, rfl⟩
      rw [hW] at CST OST ⊢
      have C79 := Lib.hid CST
      clear CST hW
      have ER : Hid (R = (0, layT es f)) := Lib.hid (by rw [← HRR.out]; unfold putT; rw [if_neg (fun q => q ⟨OK.out, ST.out⟩), if_neg (fun q => q PP.out), if_neg NK.out])
      have SZ : Hid (w5.heap.size ≤ w6.heap.size ∧ w6.heap.size ≤ w7.heap.size ∧ w7.heap.size ≤ w9.heap.size) := Lib.hid ⟨C56.out.size, C67.out.size, C79.out.size⟩
      have NO : Hid (OwnNs w9 w5.heap.size w9.heap.size (some ⟨g6, 0, none⟩) (ys.set i X) (layT es f)) := Lib.hid (by
        rw [NEWL.out.2, set_mid IL3.out, set_mid (show i < es.length by have := IL3.out; rw [YL.out, XL.out] at this; exact this)]
        have a1 := (F6.out.all.chg C67.out (by simp)).chg C79.out (fun j hj _ => by simp at hj; exact ⟨_, rfl, hj.symm⟩)
        have s := SZ.out
        refine a1.mid (Nat.le_of_lt IL3.out) (Nat.le_succ _) ⟨by omega, by omega⟩ (XR.out.chgS C79.out (fun a ha q => ?_)) (XB.out.chg C79.out (fun a ha q => ?_)) (fun q hq => ⟨XL7.out q hq, ?_, fun b hb e => ?_⟩)
        · simp at q; have := XL7.out a ha; have := GB.out.2; (try simp at this); omega
        · simp at q; have := XL7.out a ha; have := GB.out.2; (try simp at this); omega
        · have := XB.out.lt q hq; omega
        · cases hb; have := XL7.out q hq; have := GB.out.2; (try simp at this); simp at e; omega)
      have NL : Hid (ys.length = (ys.set i X).length) := Lib.hid (by simp)
      obtain ⟨zs, hzs⟩ : ∃ zs, ys.set i X = zs := ⟨_, rfl⟩
      rw [hzs] at NL NO OST
      clear hzs
      rw [NL.out]
      go_wp2
      go_ret2
      rw [ER.out]
      refine ⟨some ⟨g6, 0, none⟩, c6, zs, rfl, ⟨OST.out, fun a ha => ⟨?_, OST.out.lt_ a ha⟩, NO.out.low (C0.out.trans C.out).size⟩, ?_⟩
      · have := (C0.out.trans C.out).size
        have := (F6.out.rowAt a ha).1
        omega
      · exact ((C0.out.trans C6.out).trans C67.out).trans' C79.out (fun j hj => by simp at hj; subst hj; have := GB.out.1; (try simp at this); have := (C0.out.trans C.out).size; exact .inr (by omega))
  · skip
    have h1 : ((y.k == 2) : Bool) = false := by simpa using hk2
    have h3 : ((y.k != 2) : Bool) = true := by unfold bne; rw [h1]; rfl
    have FK : Hid (f.k ≠ 2) := Lib.hid (by rw [← HY.out.k]; exact hk2)
    clear hk2
    have AX := Lib.hid (tbany_any w4 A c xs es f.p HT.out.1 (HA.out.chg C.out (by simp)) (HX.out.chg C.out) (by have := HN.out; omega) (fun e he => (HS.out e he).1))
    go_wp2_with fail
    clear y0 y1 y2
    refine AX.out.mono ?_
    rintro r wk ⟨rfl, hc⟩
    replace C := Lib.hid (C.out.trans hc)
    clear hc AX
    rcases hany : anyT es f.p with _ | _
    rotate_left
    · have ER : Hid (R = (12, [])) := Lib.hid (by rw [← HRR.out]; unfold putT; rw [if_neg (fun q => q ⟨OK.out, ST.out⟩), if_neg (fun q => q PP.out), if_pos ⟨FK.out, hany⟩])
      clear hany
      go_wp2
      go_ret2
      rw [ER.out]
      exact ⟨none, 0, [], rfl, NsF.nil _ _ _, C0.out.trans C.out⟩
    have NK : Hid (¬ (f.k ≠ 2 ∧ anyT es f.p = true)) := Lib.hid (fun q => by rw [hany] at q; cases q.2)
    clear hany
    have BIN := Lib.hid (binen_any wk A c xs es f.p (HA.out.chg C.out (by simp)) (HX.out.chg C.out) OK.out.2.1 (by have := HN.out; omega) HT.out.1 (fun e he => (HS.out e he).1))
    go_wp2_with fail
    refine BIN.out.mono ?_
    rintro r w5 ⟨i, hi, lo, hi2, rfl, hc⟩
    replace C := Lib.hid (C.out.trans hc)
    have LO := Lib.hid lo
    have HII := Lib.hid hi2
    have IL := Lib.hid hi
    clear lo hi2 hi hc BIN
    have FRS := Lib.hid (frentries_any w5 A c xs es (HA.out.chg C.out (by simp)) (HX.out.chg C.out) (by have := HN.out; omega) (fun e he => (HS.out e he).2))
    rcases hg : getT es f.p with _ | ge
    · skip
      have NEWL := Lib.hid (lay_new LO.out HII.out hg)
      clear hg
      go_wp2_with fail
      clear LEN200 LEN200b
      refine FRS.out.mono ?_
      rintro r w6 ⟨A6, c6, ys, rfl, hyl, hf, hc⟩
      have F6 := Lib.hid hf
      have YL := Lib.hid hyl
      have C56 := Lib.hid hc
      have C6 := Lib.hid (C.out.trans hc)
      clear hyl hf hc FRS
      obtain ⟨_, z0, z1, z2, z3⟩ := BX.out _ C6.out
      go_wp2_with fail
      clear z0 z1 z2 z3
      refine (FE.out _ C6.out).mono ?_
      rintro r w7 ⟨X, rfl, hR, hB, hL, hc⟩
      have XR := Lib.hid hR
      have XB := Lib.hid hB
      have XL7 := Lib.hid hL
      have C67 := Lib.hid hc
      clear hR hB hL hc FE
      obtain ⟨w8, hw, hc, b8⟩ := news1 w7 (.cells #[.string X.p, .int .i64 X.k, .int .i64 X.m, .slice X.A X.l X.c] 55)
      have W8 := Lib.hid hw
      have R8 := Lib.hid (rd_oneEn b8)
      have C78 := Lib.hid hc
      have NB : Hid (∀ a, A6 = some a → a.block ≠ w7.heap.size) := Lib.hid (fun a ha q => by have := (F6.out.rowAt a ha).2; have := C67.out.size; omega)
      have IN := Lib.hid (insen_any w8 A6 c6 ys i w7.heap.size X ((F6.out.row.chg C67.out (by simp)).chg hc (by simp)) (by rw [YL.out]; exact IL.out) (by rw [YL.out]; have := HN.out; omega) (by simpa using b8) NB.out)
      clear hw hc b8
      go_wp2_with fail
      rw [← W8.out]
      clear W8
      refine IN.out.mono ?_
      rintro r w9 ⟨A9, c9, rfl, hO, hA, hc⟩
      have O9 := Lib.hid hO
      have A9L := Lib.hid hA
      have C89 := Lib.hid hc
      clear hO hA hc IN R8 NB
      have ER : Hid (R = (0, layT es f)) := Lib.hid (by rw [← HRR.out]; unfold putT; rw [if_neg (fun q => q ⟨OK.out, ST.out⟩), if_neg (fun q => q PP.out), if_neg NK.out])
      have SZ : Hid (w5.heap.size ≤ w6.heap.size ∧ w6.heap.size ≤ w7.heap.size ∧ w7.heap.size ≤ w8.heap.size ∧ w8.heap.size ≤ w9.heap.size) := Lib.hid ⟨C56.out.size, C67.out.size, C78.out.size, C89.out.size⟩
      have NO : Hid (OwnNs w9 w5.heap.size w9.heap.size A9 (ys.take i ++ X :: ys.drop i) (layT es f)) := Lib.hid (by
        rw [NEWL.out]
        have ch := (C67.out.trans C78.out)
        have a1 := (F6.out.all.chg ch (by simp)).chg C89.out (fun j hj _ => by obtain ⟨b, hb, e⟩ := of_blkOf hj; exact ⟨b, hb, e⟩)
        have s := SZ.out
        refine (a1.row (G' := A9) (fun a ha => (A9L.out a ha).imp id (fun q => by omega))).mid (by rw [YL.out]; exact IL.out) (Nat.le_refl _) ⟨by omega, by omega⟩ ((XR.out.chg C78.out).chgS C89.out (fun a ha q => ?_)) ((XB.out.chg C78.out (by simp)).chg C89.out (fun a ha q => ?_)) (fun q hq => ⟨?_, ?_, fun b hb e => ?_⟩)
        · obtain ⟨b, hb, e⟩ := of_blkOf q; have := XL7.out a ha; have := (F6.out.rowAt b hb).2; omega
        · obtain ⟨b, hb, e⟩ := of_blkOf q; have := XL7.out a ha; have := (F6.out.rowAt b hb).2; omega
        · exact XL7.out q hq
        · have := XB.out.lt q hq; omega
        · have a := XL7.out q hq
          have l := XB.out.lt q hq
          rcases A9L.out b hb with r | r
          · have := (F6.out.rowAt b r).2; omega
          · omega)
      have NL : Hid (ys.length + 1 = (ys.take i ++ X :: ys.drop i).length) := Lib.hid (by have := IL.out; have := YL.out; simp; omega)
      obtain ⟨zs, hzs⟩ : ∃ zs, ys.take i ++ X :: ys.drop i = zs := ⟨_, rfl⟩
      rw [hzs] at NL NO O9
      clear hzs
      rw [NL.out]
      go_wp2
      go_ret2
      rw [ER.out]
      refine ⟨A9, c9, zs, rfl, ⟨O9.out, fun a ha => ⟨?_, O9.out.lt_ a ha⟩, NO.out.low (C0.out.trans C.out).size⟩, ?_⟩
      · have := (C0.out.trans C.out).size
        rcases A9L.out a ha with r | r
        · have := (F6.out.rowAt a r).1; omega
        · have := SZ.out; omega
      · exact ((C0.out.trans C6.out).trans (C67.out.trans C78.out)).trans' C89.out (fun j hj => by obtain ⟨b, hb, e⟩ := of_blkOf hj; have := (F6.out.rowAt b hb).1; have := (C0.out.trans C.out).size; exact .inr (by omega))
    · skip
      have NEWL := Lib.hid (lay_there OK.out.2.1 LO.out HII.out hg)
      clear hg
      go_wp2_with fail
      clear LEN200 LEN200b
      refine FRS.out.mono ?_
      rintro r w6 ⟨A6, c6, ys, rfl, hyl, hf, hc⟩
      have F6 := Lib.hid hf
      have YL := Lib.hid hyl
      have C56 := Lib.hid hc
      have C6 := Lib.hid (C.out.trans hc)
      clear hyl hf hc FRS
      obtain ⟨_, z0, z1, z2, z3⟩ := BX.out _ C6.out
      go_wp2_with fail
      clear z0 z1 z2 z3
      refine (FE.out _ C6.out).mono ?_
      rintro r w7 ⟨X, rfl, hR, hB, hL, hc⟩
      have XR := Lib.hid hR
      have XB := Lib.hid hB
      have XL7 := Lib.hid hL
      have C67 := Lib.hid hc
      clear hR hB hL hc FE

      have IL3 : Hid (i < ys.length) := Lib.hid (by rw [YL.out, XL.out]; exact (List.getElem?_eq_some_iff.1 NEWL.out.1).1)
      have ylp : 0 < ys.length := by have := IL3.out; omega
      obtain ⟨g6, rfl⟩ : ∃ g6, A6 = some ⟨g6, 0, none⟩ := by
        rcases F6.out.row with ⟨a, b, _⟩ | ⟨g, full, a, _⟩
        · rw [b] at ylp; simp at ylp
        · exact ⟨g, a⟩
      obtain ⟨yi, hyi⟩ : ∃ yi, ys[i]? = some yi := ⟨_, List.getElem?_eq_getElem IL3.out⟩
      have RW := F6.out.row.chg C67.out (by simp)
      obtain ⟨z0, z1, z2, z3⟩ := enCells (o := 0) RW.reads hyi
      have hgc := RW
      rcases hgc with ⟨a, _⟩ | ⟨g', full, ea, hgb, hfl, hcm, hnc, hft⟩
      · cases a
      cases ea
      have f0 := free_of hgb
      have k0 : (0 : Int) ≤ (i : Int) := by omega
      have k1 : (i : Int) < (ys.length : Int) := by have := IL3.out; omega
      have OST := Lib.hid (RW.setn4 i yi X hyi)
      have GB := Lib.hid (F6.out.rowAt _ rfl)
      clear ylp hyi RW hfl hcm hnc hft hgb
      simp only [Nat.zero_add] at z0 z1 z2 z3
      go_wp2
      clear z0 z1 z2 z3 f0
      have CST := (Chg.refl [g6] w7).setn4 (g := g6) (.inl (by simp)) (i * 4) (.string X.p) (.int .i64 X.k) (.int .i64 X.m) (.slice X.A X.l X.c)
      obtain ⟨w9, hW⟩ : ∃ w9 : World, ((((w7.setCell ⟨g6, i * 4, none⟩ (.string X.p)).setCell ⟨g6, i * 4 + 1, none⟩ (.int .i64 X.k)).setCell ⟨g6, i * 4 + 2, none⟩ (.int .i64 X.m)).setCell ⟨g6, i * 4 + 3, none⟩ (.slice X.A X.l X.c)) = w9 := ⟨_, rfl⟩
      rw [hW] at CST OST ⊢
      have C79 := Lib.hid CST
      clear CST hW
      have ER : Hid (R = (0, layT es f)) := Lib.hid (by rw [← HRR.out]; unfold putT; rw [if_neg (fun q => q ⟨OK.out, ST.out⟩), if_neg (fun q => q PP.out), if_neg NK.out])
      have SZ : Hid (w5.heap.size ≤ w6.heap.size ∧ w6.heap.size ≤ w7.heap.size ∧ w7.heap.size ≤ w9.heap.size) := Lib.hid ⟨C56.out.size, C67.out.size, C79.out.size⟩
      have NO : Hid (OwnNs w9 w5.heap.size w9.heap.size (some ⟨g6, 0, none⟩) (ys.set i X) (layT es f)) := Lib.hid (by
        rw [NEWL.out.2, set_mid IL3.out, set_mid (show i < es.length by have := IL3.out; rw [YL.out, XL.out] at this; exact this)]
        have a1 := (F6.out.all.chg C67.out (by simp)).chg C79.out (fun j hj _ => by simp at hj; exact ⟨_, rfl, hj.symm⟩)
        have s := SZ.out
        refine a1.mid (Nat.le_of_lt IL3.out) (Nat.le_succ _) ⟨by omega, by omega⟩ (XR.out.chgS C79.out (fun a ha q => ?_)) (XB.out.chg C79.out (fun a ha q => ?_)) (fun q hq => ⟨XL7.out q hq, ?_, fun b hb e => ?_⟩)
        · simp at q; have := XL7.out a ha; have := GB.out.2; (try simp at this); omega
        · simp at q; have := XL7.out a ha; have := GB.out.2; (try simp at this); omega
        · have := XB.out.lt q hq; omega
        · cases hb; have := XL7.out q hq; have := GB.out.2; (try simp at this); simp at e; omega)
      have NL : Hid (ys.length = (ys.set i X).length) := Lib.hid (by simp)
      obtain ⟨zs, hzs⟩ : ∃ zs, ys.set i X = zs := ⟨_, rfl⟩
      rw [hzs] at NL NO OST
      clear hzs
      rw [NL.out]
      go_wp2
      go_ret2
      rw [ER.out]
      refine ⟨some ⟨g6, 0, none⟩, c6, zs, rfl, ⟨OST.out, fun a ha => ⟨?_, OST.out.lt_ a ha⟩, NO.out.low (C0.out.trans C.out).size⟩, ?_⟩
      · have := (C0.out.trans C.out).size
        have := (F6.out.rowAt a ha).1
        omega
      · exact ((C0.out.trans C6.out).trans C67.out).trans' C79.out (fun j hj => by simp at hj; subst hj; have := GB.out.1; (try simp at this); have := (C0.out.trans C.out).size; exact .inr (by omega))
end
end Go.Proofs.YtimdfpejgaidhaaGreatDoor
