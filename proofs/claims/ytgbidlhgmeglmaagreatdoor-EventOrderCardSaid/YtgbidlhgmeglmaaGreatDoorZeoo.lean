/- EventOrder. Rows of events as arguments. Nothing is asked of the variables. -/
import Derived.Test.YtgbidlhgmeglmaaGreatDoorZeoa
import Derived.Test.YtgbidlhgmeglmaaGreatDoorZeom
import Derived.Test.YtgbidlhgmeglmaaGreatDoorZeon
import Derived.Test.YtgbidlhgmeglmaaGreatDoorZeoc
import Derived.Test.YtgbidlhgmeglmaaGreatDoorZeoi
import Derived.Test.YtgbidlhgmeglmaaGreatDoorZeob
import Derived.Test.YtgbidlhgmeglmaaGreatDoorZeoh
import Derived.Deep.Cut
import Derived.Test.YtgbidlhgmeglmaaGreatDoorZeod
import Derived.Test.YtgbidlhgmeglmaaGreatDoorLaid0
namespace Go.Proofs.YtgbidlhgmeglmaaGreatDoor
section
section
open Go.RowKit Go.Lib
set_option linter.unusedSimpArgs false
set_option linter.unusedVariables false


/-- 'step_appK' for an append that is wanted by a guard. -/
theorem step_appKg {α : Type} {R : RowTy α} {ops : Array Oper} {o : Oper} {a : Act} {w : World} {K : Act → World → Prop} {Q : Exit → Act → World → Prop} {E : Prop} (hw : Region.wanted o (yielded ops a.tmps) = true) (s x : Operand)
    (ho : o.op = .call { callee := .builtin .append, args := #[s, x], argTypes := #[R.TS, R.TS] })
    {A : Option Addr} {c n : Nat} {xs : List α} (hs : a.eval s = .slice A n c) (hown : OwnK R w A c xs) (hn : xs.length = n) {B : Option Addr} {m d : Nat} {ys : List α} (hx : a.eval x = .slice B m d) (hr : RdK R w B m ys) (hlen : (n + m) * 400 ≤ 140737488355327)
    (h : ∀ A' c' w', OwnK R w' A' c' (xs ++ ys) → w.grownBy w' (A.map (·.block)) → (A' = A ∨ A' = some ⟨w.heap.size, 0, none⟩) → K (a.put o.dst (.slice A' (n + m) c')) w') :
    if Region.wanted o (yielded ops a.tmps) = true then Oper.wp Tryz.prog o a w K Q else E := by
  rw [if_pos hw]
  subst hn
  obtain ⟨A', c', w', hrun, h2, h3, h4⟩ := run_appK w o.type hown (d := d) hr hlen
  unfold Oper.wp execOp
  simp only [ho, resolve, invoke, builtin, Sem.run_bind, Sem.run_pure, Result.andThen_ok, List.map_toArray, List.map_cons, List.map_nil, hs, hx, hrun]
  exact h A' c' w' h2 h3 h4
theorem ApartE.chgA {w w' : World} {A : Option Addr} {xs : List EvT} (h : ApartE w A xs) (hc : Chg [] w w') : ApartE w' A xs := fun x hx => ⟨fun a ha => ⟨Nat.lt_of_lt_of_le ((h x hx).1 a ha).1 hc.size, ((h x hx).1 a ha).2⟩, fun a ha => ⟨Nat.lt_of_lt_of_le ((h x hx).2.1 a ha).1 hc.size, ((h x hx).2.1 a ha).2⟩, (h x hx).2.2⟩
set_option maxRecDepth 100000 in
set_option maxHeartbeats 32000000 in
theorem eventorder_yes (w : World) (A : Option Addr) (n c : Nat) (xs : List EvT) (es : List EvP) (node : Int) (hb : RdK evTy w A n xs) (hr : EvsR w xs es) (hn : n * 96 ≤ 140737488351232) (hm : n ≤ c) (hz : ∀ (i : Nat) (x : EvT) (e : EvP), xs[i]? = some x → es[i]? = some e → EvZ x e) :
    Calls Tryz.prog 7 #[.slice A n c, .int .i64 node] w fun r w' => r = .returned (.bool true) ∧ Chg [] w w' := by

  have HFT := Lib.hid (fit_args hr hz)
  have hl := hb.len
  subst hl
  have HL0 : Hid (xs.length ≤ 140737488351232) := Lib.hid (by omega)
  have XL : Hid (∀ x ∈ xs, x.l ≤ 140737488351232) := Lib.hid (fun x hx => by
    obtain ⟨i, hi⟩ := List.getElem?_of_mem hx
    obtain ⟨x2, e, ex, ee, rx⟩ := hr.at_ (show i < xs.length from (List.getElem?_eq_some_iff.1 hi).1)
    rw [hi] at ex
    cases ex
    have a := rx.l
    have b := (hz i x e hi ee).1
    omega)
  have HA := Lib.hid hb
  have HR := Lib.hid hr
  have C := Lib.hid (Chg.refl [] w)
  clear hb hr hn hm hz
  go_enter Tryz.func7, Tryz.ntmps7
  
  go_wp2_with fail
  refine (l8awake_run _).mono ?_
  rintro r w0 ⟨rfl, hc⟩
  replace C := Lib.hid (C.out.trans hc)
  clear hc
  go_wp2_with fail
  have lv := longevs_any w0 A c xs 20 (HA.out.chg C.out (by simp)) HL0.out (by omega) XL.out
  rw [show ((20 : Nat) : Int) = 20 from rfl] at lv
  refine lv.mono ?_
  rintro r w1 ⟨rfl, hc⟩
  clear lv
  replace C := Lib.hid (C.out.trans hc)
  clear hc
  rcases hlong : longE xs 20 with _ | _
  rotate_left
  · go_wp2
    go_ret
    exact ⟨rfl, C.out⟩
  have sm := smallEvs HR.out hlong
  have SM : Hid (∀ e ∈ es, EvSm e) := Lib.hid (fun e he => (sm.1 e he).1)
  have QX : Hid (∀ e ∈ es, e.b.length ≤ 140737488351232 ∧ e.q.length ≤ 100000) := Lib.hid (fun e he => ⟨by have := (sm.1 e he).2.2; omega, by have := (sm.1 e he).2.1; omega⟩)
  have LN : Hid (xs.length ≤ 1000) := Lib.hid (by have := sm.2; omega)
  have AL : Hid ((allsE es).length ≤ 4000) := Lib.hid (by
    have a := alls_bound 100 es (fun e he => (sm.1 e he).2.1)
    have b := sm.2
    have d := HR.out.1
    omega)
  clear sm hlong
  go_wp2_with fail
  refine (evclosed_any w1 A c xs es (HA.out.chg C.out (by simp)) (HR.out.chg C.out) (HFT.out.chg C.out) (by have := LN.out; omega) SM.out).mono ?_
  rintro r w2 ⟨rfl, hc⟩
  replace C := Lib.hid (C.out.trans hc)
  clear hc
  rcases hcl : closedE es with _ | _
  · go_wp2
    go_ret
    exact ⟨rfl, C.out⟩
  have O1 : Hid (∀ (i k : Nat) (a b : EvP), es[i]? = some a → es[k]? = some b → aheadP a b = true → i ≠ k ∧ aheadP b a = false) := Lib.hid (fun i k a b ha hb hx => order_one hcl ha hb hx)
  have O2 : Hid (∀ (i k j : Nat) (a b d : EvP), es[i]? = some a → es[k]? = some b → es[j]? = some d → aheadP a b = true → aheadP b d = true → aheadP a d = true) := Lib.hid (fun i k j a b d ha hb hd hx hy => order_three hcl ha hb hd hx hy)
  have CL := Lib.hid hcl
  clear hcl
  have HC : Hid (∀ w', Chg [] w w' → ∀ g o, A = some ⟨g, o, none⟩ → ∀ i x, xs[i]? = some x → (w'.cell? ⟨g, o + i * 7, none⟩ = some (.int .i64 x.n) ∧ w'.cell? ⟨g, o + i * 7 + 1, none⟩ = some (.int .i64 x.s) ∧ w'.cell? ⟨g, o + i * 7 + 2, none⟩ = some (.string x.p) ∧ w'.cell? ⟨g, o + i * 7 + 3, none⟩ = some (.int .i64 x.k) ∧ w'.cell? ⟨g, o + i * 7 + 4, none⟩ = some (.int .i64 x.m) ∧ w'.cell? ⟨g, o + i * 7 + 5, none⟩ = some (.slice x.A x.l x.c) ∧ w'.cell? ⟨g, o + i * 7 + 6, none⟩ = some (.slice x.B x.bl x.bc))) := Lib.hid (fun w' hc g o eA i x hx => by
    subst eA
    exact evCells (HA.out.chg hc (by simp)) hx)
  have AH : Hid (∀ w', Chg [] w w' → ∀ (i k : Nat) (x y : EvT) (e f : EvP), xs[i]? = some x → xs[k]? = some y → es[i]? = some e → es[k]? = some f → Calls Tryz.prog 19 #[.agg #[.int .i64 x.n, .int .i64 x.s, .string x.p, .int .i64 x.k, .int .i64 x.m, .slice x.A x.l x.c, .slice x.B x.bl x.bc], .agg #[.int .i64 y.n, .int .i64 y.s, .string y.p, .int .i64 y.k, .int .i64 y.m, .slice y.A y.l y.c, .slice y.B y.bl y.bc]] w' fun r w2 => r = .returned (.bool (aheadP e f)) ∧ Chg [] w' w2) := Lib.hid (fun w' hc i k x y e f hx hy he hf => evahead_any w' x y e f ((HR.out.2 i x e hx he).chg hc) ((HR.out.2 k y f hy hf).chg hc) (SM.out e (List.mem_of_getElem? he)) (SM.out f (List.mem_of_getElem? hf)))
  go_wp2
  go_loopw [6] (fun v6 wr => ∃ (i : Nat), i ≤ xs.length ∧ v6 = .int .i64 i ∧ Hid (Chg [] w wr)) (fun v6 _ => xs.length - (RowKit.intOf v6).toNat)
  case atStart => exact ⟨0, Nat.zero_le _, rfl, C⟩
  case round =>
    clear C
    obtain ⟨i, hi, rfl, C⟩ := hrel
    have i0 : (0 : Int) ≤ (i : Int) := by omega
    by_cases hil : i < xs.length
    · have i1 : (i : Int) < (xs.length : Int) := by omega
      have i3 : IntKind.i64.wrap ((i : Int) + 1) = (i : Int) + 1 := IntWalk.i64_in _ (by have := LN.out; omega)
      obtain ⟨g, o, eA, _⟩ := HA.out.line (by omega)
      have EA := Lib.hid eA
      rw [eA]
      clear eA
      obtain ⟨x, e, ex, ee, rx⟩ := HR.out.at_ hil
      have EX := Lib.hid ex
      have EE := Lib.hid ee
      clear ex ee rx
      go_wp2
      go_loopw [7] (fun v7 wr => ∃ (k : Nat), k ≤ xs.length ∧ v7 = .int .i64 k ∧ Hid (Chg [] w wr)) (fun v7 _ => xs.length - (RowKit.intOf v7).toNat)
      case atStart => exact ⟨0, Nat.zero_le _, rfl, C⟩
      case round =>
        clear C
        obtain ⟨k, hk, rfl, C⟩ := hrel
        have k0 : (0 : Int) ≤ (k : Int) := by omega
        by_cases hkl : k < xs.length
        rotate_left
        · have k1 : ¬ (k : Int) < (xs.length : Int) := by omega
          go_wp2
          go_round
          case rel => exact ⟨i + 1, by omega, by go_num, C⟩
          case measure => simp [RowKit.intOf]; omega
        have k1 : (k : Int) < (xs.length : Int) := by omega
        have k3 : IntKind.i64.wrap ((k : Int) + 1) = (k : Int) + 1 := IntWalk.i64_in _ (by have := LN.out; omega)
        obtain ⟨y, f, ey, ef, ry⟩ := HR.out.at_ hkl
        have EY := Lib.hid ey
        have EF := Lib.hid ef
        clear ey ef ry
        have A1 := Lib.hid (fun w' (hc : Chg [] wr w') => AH.out w' (C.out.trans hc) i k x y e f EX.out EY.out EE.out EF.out)
        have A2 := Lib.hid (fun w' (hc : Chg [] wr w') => AH.out w' (C.out.trans hc) k i y x f e EY.out EX.out EF.out EE.out)
        have HH := Lib.hid (fun w' (hc : Chg [] wr w') => And.intro (HC.out w' (C.out.trans hc) g o EA.out i x EX.out) (HC.out w' (C.out.trans hc) g o EA.out k y EY.out))
        go_upto_region 10 with fail
        rcases ah : aheadP e f with _ | _
        · skip
          refine wp_region_held_drew (S := fun w' => Chg [] wr w') (by kernel_rfl) (Chg.refl [] wr).drew (fun hHeld => ?_)
          refine sy 0 36 rfl rfl ?_
          try simp only [Act.put, sA, s0, s1]
          refine sy 1 37 rfl rfl ?_
          try simp only [Act.put, sA, s0, s1]
          refine sy 2 38 rfl rfl ?_
          try simp only [Act.put, sA, s0, s1]
          refine sy 3 39 rfl rfl ?_ (hy := by (intro w hSw; (try dsimp only at hSw); have hq := HH.out _ hSw; obtain ⟨⟨q0, q1, q2, q3, q4, q5, q6⟩, ⟨p0, p1, p2, p3, p4, p5, p6⟩⟩ := hq; go_simp; try with_reducible rfl))
          try simp only [Act.put, sA, s0, s1]
          refine sy 4 40 rfl rfl ?_
          try simp only [Act.put, sA, s0, s1]
          refine sy 5 41 rfl rfl ?_
          try simp only [Act.put, sA, s0, s1]
          refine sy 6 42 rfl rfl ?_
          try simp only [Act.put, sA, s0, s1]
          refine sy 7 43 rfl rfl ?_ (hy := by (intro w hSw; (try dsimp only at hSw); have hq := HH.out _ hSw; obtain ⟨⟨q0, q1, q2, q3, q4, q5, q6⟩, ⟨p0, p1, p2, p3, p4, p5, p6⟩⟩ := hq; go_simp; try with_reducible rfl))
          try simp only [Act.put, sA, s0, s1]
          refine wpAnyH_ready (rs := [8]) (by kernel_rfl) (by simp) ?_
          refine AllReadyH.cons rfl (fun K hK => ?_) AllReadyH.nil
          replace hK := Lib.hid hK
          go_simp
          refine (A1.out _ hHeld).mono ?_
          rintro r w8 ⟨rfl, hc⟩
          rw [ah]
          have C8 := Lib.hid (hHeld.trans hc)
          clear hc hHeld
          refine hK.out _ _ C8.out (fun hHeld => ?_)
          clear hK K
          try simp only [Act.put, sA, s0, s1]
          refine sy 9 8 rfl rfl ?_
          try simp only [Act.put, sA, s0, s1]
          refine wpAnyH_done (by kernel_rfl) ?_ _
          clear hHeld
          go_upto_region 11 with fail
          refine wp_region_held_drew (S := fun w' => Chg [] wr w') (by kernel_rfl) (C8.out.trans (Chg.refl [] w8).drew) (fun hHeld => ?_)
          have C9 := Lib.hid hHeld
          refine sy 0 45 rfl rfl ?_
          try simp only [Act.put, sA, s0, s1]
          refine sy 1 46 rfl rfl ?_
          try simp only [Act.put, sA, s0, s1]
          refine sn 2 47 rfl rfl ?_
          try simp only [Act.put, sA, s0, s1]
          refine sn 3 48 rfl rfl ?_
          try simp only [Act.put, sA, s0, s1]
          refine sn 4 49 rfl rfl ?_
          try simp only [Act.put, sA, s0, s1]
          refine sn 5 50 rfl rfl ?_
          try simp only [Act.put, sA, s0, s1]
          refine sn 6 51 rfl rfl ?_
          try simp only [Act.put, sA, s0, s1]
          refine sn 7 52 rfl rfl ?_
          try simp only [Act.put, sA, s0, s1]
          refine sn 8 53 rfl rfl ?_
          try simp only [Act.put, sA, s0, s1]
          refine sn 9 54 rfl rfl ?_
          try simp only [Act.put, sA, s0, s1]
          refine sn 10 55 rfl rfl ?_
          try simp only [Act.put, sA, s0, s1]
          refine sn 11 56 rfl rfl ?_
          try simp only [Act.put, sA, s0, s1]
          refine sn 12 57 rfl rfl ?_
          try simp only [Act.put, sA, s0, s1]
          refine sn 13 58 rfl rfl ?_
          try simp only [Act.put, sA, s0, s1]
          refine sn 14 59 rfl rfl ?_
          try simp only [Act.put, sA, s0, s1]
          refine sn 15 60 rfl rfl ?_
          try simp only [Act.put, sA, s0, s1]
          refine sy 16 61 rfl rfl ?_
          try simp only [Act.put, sA, s0, s1]
          refine wpAnyH_done (by kernel_rfl) ?_ _
          clear hHeld
          have CT := Lib.hid (C.out.trans C9.out)
          clear A1 A2 HH C8 C9
          generalize w8.drew = wd at *
          go_wp2
          go_loopw [9] (fun v9 wr => v9 = .int .i64 0 ∧ Hid (Chg [] w wr)) (fun v9 _ => 0)
          case atStart => exact ⟨rfl, CT⟩
          case round =>
            obtain ⟨rfl, C5⟩ := hrel
            go_wp2
            go_round
            case rel => exact ⟨k + 1, by omega, by go_num, C5⟩
            case measure => simp [RowKit.intOf]; omega
        have NB := Lib.hid (O1.out i k e f EE.out EF.out ah)
        have TRI : Hid (∀ (j : Nat) (d : EvP), es[j]? = some d → aheadP f d = true → aheadP e d = true) := Lib.hid (fun j d hd h => O2.out i k j e f d EE.out EF.out hd ah h)
        have nik : (((i : Nat) : Int) == ((k : Nat) : Int)) = false := by have := NB.out.1; simp; omega
        have AB := NB.out.2
        refine wp_region_held_drew (S := fun w' => Chg [] wr w') (by kernel_rfl) (Chg.refl [] wr).drew (fun hHeld => ?_)
        refine sy 0 36 rfl rfl ?_
        try simp only [Act.put, sA, s0, s1]
        refine sy 1 37 rfl rfl ?_
        try simp only [Act.put, sA, s0, s1]
        refine sy 2 38 rfl rfl ?_
        try simp only [Act.put, sA, s0, s1]
        refine sy 3 39 rfl rfl ?_ (hy := by (intro w hSw; (try dsimp only at hSw); have hq := HH.out _ hSw; obtain ⟨⟨q0, q1, q2, q3, q4, q5, q6⟩, ⟨p0, p1, p2, p3, p4, p5, p6⟩⟩ := hq; go_simp; try with_reducible rfl))
        try simp only [Act.put, sA, s0, s1]
        refine sy 4 40 rfl rfl ?_
        try simp only [Act.put, sA, s0, s1]
        refine sy 5 41 rfl rfl ?_
        try simp only [Act.put, sA, s0, s1]
        refine sy 6 42 rfl rfl ?_
        try simp only [Act.put, sA, s0, s1]
        refine sy 7 43 rfl rfl ?_ (hy := by (intro w hSw; (try dsimp only at hSw); have hq := HH.out _ hSw; obtain ⟨⟨q0, q1, q2, q3, q4, q5, q6⟩, ⟨p0, p1, p2, p3, p4, p5, p6⟩⟩ := hq; go_simp; try with_reducible rfl))
        try simp only [Act.put, sA, s0, s1]
        refine wpAnyH_ready (rs := [8]) (by kernel_rfl) (by simp) ?_
        refine AllReadyH.cons rfl (fun K hK => ?_) AllReadyH.nil
        replace hK := Lib.hid hK
        go_simp
        refine (A1.out _ hHeld).mono ?_
        rintro r w8 ⟨rfl, hc⟩
        rw [ah]
        have C8 := Lib.hid (hHeld.trans hc)
        clear hc hHeld
        refine hK.out _ _ C8.out (fun hHeld => ?_)
        clear hK K
        try simp only [Act.put, sA, s0, s1]
        refine sy 9 8 rfl rfl ?_
        try simp only [Act.put, sA, s0, s1]
        refine wpAnyH_done (by kernel_rfl) ?_ _
        clear hHeld
        go_upto_region 11 with fail
        refine wp_region_held_drew (S := fun w' => Chg [] wr w') (by kernel_rfl) (C8.out.trans (Chg.refl [] w8).drew) (fun hHeld => ?_)
        refine sy 0 45 rfl rfl ?_
        try simp only [Act.put, sA, s0, s1]
        refine sy 1 46 rfl rfl ?_
        try simp only [Act.put, sA, s0, s1]
        refine sy 2 47 rfl rfl ?_
        try simp only [Act.put, sA, s0, s1]
        refine sy 3 48 rfl rfl ?_
        try simp only [Act.put, sA, s0, s1]
        refine sy 4 49 rfl rfl ?_
        try simp only [Act.put, sA, s0, s1]
        refine sy 5 50 rfl rfl ?_
        try simp only [Act.put, sA, s0, s1]
        refine sy 6 51 rfl rfl ?_
        try simp only [Act.put, sA, s0, s1]
        refine sy 7 52 rfl rfl ?_
        try simp only [Act.put, sA, s0, s1]
        refine sy 8 53 rfl rfl ?_
        try simp only [Act.put, sA, s0, s1]
        refine sy 9 54 rfl rfl ?_ (hy := by (intro w hSw; (try dsimp only at hSw); have hq := HH.out _ hSw; obtain ⟨⟨q0, q1, q2, q3, q4, q5, q6⟩, ⟨p0, p1, p2, p3, p4, p5, p6⟩⟩ := hq; go_simp; try with_reducible rfl))
        try simp only [Act.put, sA, s0, s1]
        refine sy 10 55 rfl rfl ?_
        try simp only [Act.put, sA, s0, s1]
        refine sy 11 56 rfl rfl ?_
        try simp only [Act.put, sA, s0, s1]
        refine sy 12 57 rfl rfl ?_
        try simp only [Act.put, sA, s0, s1]
        refine sy 13 58 rfl rfl ?_ (hy := by (intro w hSw; (try dsimp only at hSw); have hq := HH.out _ hSw; obtain ⟨⟨q0, q1, q2, q3, q4, q5, q6⟩, ⟨p0, p1, p2, p3, p4, p5, p6⟩⟩ := hq; go_simp; try with_reducible rfl))
        try simp only [Act.put, sA, s0, s1]
        refine wpAnyH_ready (rs := [14]) (by kernel_rfl) (by simp) ?_
        refine AllReadyH.cons rfl (fun K hK => ?_) AllReadyH.nil
        replace hK := Lib.hid hK
        go_simp
        refine (A2.out _ hHeld).mono ?_
        rintro r w9 ⟨rfl, hc⟩
        rw [AB]
        have C9 := Lib.hid (hHeld.trans hc)
        clear hc hHeld
        refine hK.out _ _ C9.out (fun hHeld => ?_)
        clear hK K
        try simp only [Act.put, sA, s0, s1]
        refine sy 15 60 rfl rfl ?_
        try simp only [Act.put, sA, s0, s1]
        refine sy 16 61 rfl rfl ?_
        try simp only [Act.put, sA, s0, s1]
        refine wpAnyH_done (by kernel_rfl) ?_ _
        clear hHeld
        have CT := Lib.hid (C.out.trans C9.out)
        clear A1 A2 HH C8 C9 nik ah AB
        go_wp2
        go_loopw [9] (fun v9 wr => ∃ (j : Nat), j ≤ xs.length ∧ v9 = .int .i64 j ∧ Hid (Chg [] w wr)) (fun v9 _ => xs.length - (RowKit.intOf v9).toNat)
        case atStart => exact ⟨0, Nat.zero_le _, rfl, CT⟩
        case round =>
          clear CT
          obtain ⟨j, hj, rfl, C5⟩ := hrel
          have j0 : (0 : Int) ≤ (j : Int) := by omega
          by_cases hjl : j < xs.length
          rotate_left
          · have j1 : ¬ (j : Int) < (xs.length : Int) := by omega
            go_wp2
            go_round
            case rel => exact ⟨k + 1, by omega, by go_num, C5⟩
            case measure => simp [RowKit.intOf]; omega
          have j1 : (j : Int) < (xs.length : Int) := by omega
          have j3 : IntKind.i64.wrap ((j : Int) + 1) = (j : Int) + 1 := IntWalk.i64_in _ (by have := LN.out; omega)
          obtain ⟨u, d, eu, ed, ru⟩ := HR.out.at_ hjl
          have EU := Lib.hid eu
          have ED := Lib.hid ed
          clear eu ed ru
          have A3 := Lib.hid (fun w' (hc : Chg [] wr w') => AH.out w' (C5.out.trans hc) k j y u f d EY.out EU.out EF.out ED.out)
          have A4 := Lib.hid (fun w' (hc : Chg [] wr w') => AH.out w' (C5.out.trans hc) i j x u e d EX.out EU.out EE.out ED.out)
          have HH := Lib.hid (fun w' (hc : Chg [] wr w') => And.intro (And.intro (HC.out w' (C5.out.trans hc) g o EA.out i x EX.out) (HC.out w' (C5.out.trans hc) g o EA.out k y EY.out)) (HC.out w' (C5.out.trans hc) g o EA.out j u EU.out))
          go_upto_region 16 with fail
          rcases a3 : aheadP f d with _ | _
          · skip
            refine wp_region_held_drew (S := fun w' => Chg [] wr w') (by kernel_rfl) (Chg.refl [] wr).drew (fun hHeld => ?_)
            refine sy 0 71 rfl rfl ?_
            try simp only [Act.put, sA, s0, s1]
            refine sy 1 72 rfl rfl ?_
            try simp only [Act.put, sA, s0, s1]
            refine sy 2 73 rfl rfl ?_
            try simp only [Act.put, sA, s0, s1]
            refine sy 3 74 rfl rfl ?_ (hy := by (intro w hSw; (try dsimp only at hSw); have hq := HH.out _ hSw; obtain ⟨⟨⟨q0, q1, q2, q3, q4, q5, q6⟩, ⟨p0, p1, p2, p3, p4, p5, p6⟩⟩, ⟨t0, t1, t2, t3, t4, t5, t6⟩⟩ := hq; go_simp; try with_reducible rfl))
            try simp only [Act.put, sA, s0, s1]
            refine sy 4 75 rfl rfl ?_
            try simp only [Act.put, sA, s0, s1]
            refine sy 5 76 rfl rfl ?_
            try simp only [Act.put, sA, s0, s1]
            refine sy 6 77 rfl rfl ?_
            try simp only [Act.put, sA, s0, s1]
            refine sy 7 78 rfl rfl ?_ (hy := by (intro w hSw; (try dsimp only at hSw); have hq := HH.out _ hSw; obtain ⟨⟨⟨q0, q1, q2, q3, q4, q5, q6⟩, ⟨p0, p1, p2, p3, p4, p5, p6⟩⟩, ⟨t0, t1, t2, t3, t4, t5, t6⟩⟩ := hq; go_simp; try with_reducible rfl))
            try simp only [Act.put, sA, s0, s1]
            refine wpAnyH_ready (rs := [8]) (by kernel_rfl) (by simp) ?_
            refine AllReadyH.cons rfl (fun K hK => ?_) AllReadyH.nil
            replace hK := Lib.hid hK
            go_simp
            refine (A3.out _ hHeld).mono ?_
            rintro r wa ⟨rfl, hc⟩
            rw [a3]
            have Ca := Lib.hid (hHeld.trans hc)
            clear hc hHeld
            refine hK.out _ _ Ca.out (fun hHeld => ?_)
            clear hK K
            try simp only [Act.put, sA, s0, s1]
            refine sy 9 80 rfl rfl ?_
            try simp only [Act.put, sA, s0, s1]
            refine sn 10 81 rfl rfl ?_
            try simp only [Act.put, sA, s0, s1]
            refine sn 11 82 rfl rfl ?_
            try simp only [Act.put, sA, s0, s1]
            refine sn 12 83 rfl rfl ?_
            try simp only [Act.put, sA, s0, s1]
            refine sn 13 84 rfl rfl ?_
            try simp only [Act.put, sA, s0, s1]
            refine sn 14 85 rfl rfl ?_
            try simp only [Act.put, sA, s0, s1]
            refine sn 15 86 rfl rfl ?_
            try simp only [Act.put, sA, s0, s1]
            refine sn 16 87 rfl rfl ?_
            try simp only [Act.put, sA, s0, s1]
            refine sn 17 88 rfl rfl ?_
            try simp only [Act.put, sA, s0, s1]
            refine sn 18 89 rfl rfl ?_
            try simp only [Act.put, sA, s0, s1]
            refine sn 19 90 rfl rfl ?_
            try simp only [Act.put, sA, s0, s1]
            refine sy 20 91 rfl rfl ?_
            try simp only [Act.put, sA, s0, s1]
            refine wpAnyH_done (by kernel_rfl) ?_ _
            clear hHeld
            have CT := Lib.hid (C5.out.trans Ca.out)
            clear A3 A4 HH
            go_wp2
            go_round
            case rel => exact ⟨j + 1, by omega, by go_num, CT⟩
            case measure => simp [RowKit.intOf]; omega
          have a4 := TRI.out j d ED.out a3
          refine wp_region_held_drew (S := fun w' => Chg [] wr w') (by kernel_rfl) (Chg.refl [] wr).drew (fun hHeld => ?_)
          refine sy 0 71 rfl rfl ?_
          try simp only [Act.put, sA, s0, s1]
          refine sy 1 72 rfl rfl ?_
          try simp only [Act.put, sA, s0, s1]
          refine sy 2 73 rfl rfl ?_
          try simp only [Act.put, sA, s0, s1]
          refine sy 3 74 rfl rfl ?_ (hy := by (intro w hSw; (try dsimp only at hSw); have hq := HH.out _ hSw; obtain ⟨⟨⟨q0, q1, q2, q3, q4, q5, q6⟩, ⟨p0, p1, p2, p3, p4, p5, p6⟩⟩, ⟨t0, t1, t2, t3, t4, t5, t6⟩⟩ := hq; go_simp; try with_reducible rfl))
          try simp only [Act.put, sA, s0, s1]
          refine sy 4 75 rfl rfl ?_
          try simp only [Act.put, sA, s0, s1]
          refine sy 5 76 rfl rfl ?_
          try simp only [Act.put, sA, s0, s1]
          refine sy 6 77 rfl rfl ?_
          try simp only [Act.put, sA, s0, s1]
          refine sy 7 78 rfl rfl ?_ (hy := by (intro w hSw; (try dsimp only at hSw); have hq := HH.out _ hSw; obtain ⟨⟨⟨q0, q1, q2, q3, q4, q5, q6⟩, ⟨p0, p1, p2, p3, p4, p5, p6⟩⟩, ⟨t0, t1, t2, t3, t4, t5, t6⟩⟩ := hq; go_simp; try with_reducible rfl))
          try simp only [Act.put, sA, s0, s1]
          refine wpAnyH_ready (rs := [8]) (by kernel_rfl) (by simp) ?_
          refine AllReadyH.cons rfl (fun K hK => ?_) AllReadyH.nil
          replace hK := Lib.hid hK
          go_simp
          refine (A3.out _ hHeld).mono ?_
          rintro r wa ⟨rfl, hc⟩
          rw [a3]
          have Ca := Lib.hid (hHeld.trans hc)
          clear hc hHeld
          refine hK.out _ _ Ca.out (fun hHeld => ?_)
          clear hK K
          try simp only [Act.put, sA, s0, s1]
          refine sy 9 80 rfl rfl ?_
          try simp only [Act.put, sA, s0, s1]
          refine sy 10 81 rfl rfl ?_
          try simp only [Act.put, sA, s0, s1]
          refine sy 11 82 rfl rfl ?_
          try simp only [Act.put, sA, s0, s1]
          refine sy 12 83 rfl rfl ?_
          try simp only [Act.put, sA, s0, s1]
          refine sy 13 84 rfl rfl ?_ (hy := by (intro w hSw; (try dsimp only at hSw); have hq := HH.out _ hSw; obtain ⟨⟨⟨q0, q1, q2, q3, q4, q5, q6⟩, ⟨p0, p1, p2, p3, p4, p5, p6⟩⟩, ⟨t0, t1, t2, t3, t4, t5, t6⟩⟩ := hq; go_simp; try with_reducible rfl))
          try simp only [Act.put, sA, s0, s1]
          refine sy 14 85 rfl rfl ?_
          try simp only [Act.put, sA, s0, s1]
          refine sy 15 86 rfl rfl ?_
          try simp only [Act.put, sA, s0, s1]
          refine sy 16 87 rfl rfl ?_
          try simp only [Act.put, sA, s0, s1]
          refine sy 17 88 rfl rfl ?_ (hy := by (intro w hSw; (try dsimp only at hSw); have hq := HH.out _ hSw; obtain ⟨⟨⟨q0, q1, q2, q3, q4, q5, q6⟩, ⟨p0, p1, p2, p3, p4, p5, p6⟩⟩, ⟨t0, t1, t2, t3, t4, t5, t6⟩⟩ := hq; go_simp; try with_reducible rfl))
          try simp only [Act.put, sA, s0, s1]
          refine wpAnyH_ready (rs := [18]) (by kernel_rfl) (by simp) ?_
          refine AllReadyH.cons rfl (fun K hK => ?_) AllReadyH.nil
          replace hK := Lib.hid hK
          go_simp
          refine (A4.out _ hHeld).mono ?_
          rintro r wb ⟨rfl, hc⟩
          rw [a4]
          have Cb := Lib.hid (hHeld.trans hc)
          clear hc hHeld
          refine hK.out _ _ Cb.out (fun hHeld => ?_)
          clear hK K
          try simp only [Act.put, sA, s0, s1]
          refine sy 19 90 rfl rfl ?_
          try simp only [Act.put, sA, s0, s1]
          refine sy 20 91 rfl rfl ?_
          try simp only [Act.put, sA, s0, s1]
          refine wpAnyH_done (by kernel_rfl) ?_ _
          clear hHeld
          have CT := Lib.hid (C5.out.trans Cb.out)
          clear A3 A4 HH
          go_wp2
          go_round
          case rel => exact ⟨j + 1, by omega, by go_num, CT⟩
          case measure => simp [RowKit.intOf]; omega
    · obtain rfl : i = xs.length := by omega
      have i1 : ¬ (xs.length : Int) < (xs.length : Int) := by omega
      have OKA := Lib.hid (closed_ok CL.out).1
      have PE : Hid (pastE es = (0, tidyS (allsE es))) := Lib.hid (by unfold pastE; rw [if_pos OKA.out, bound_le (Nat.le_trans (tidy_len _) AL.out)])
      go_wp2_with fail
      refine (evpast_any wr A c xs es (HA.out.chg C.out (by simp)) (HR.out.chg C.out) (by have := LN.out; omega) SM.out).mono ?_
      rintro r w3 ⟨A3, c3, rfl, ho, hnw, hc⟩
      rw [PE.out] at ho ⊢
      have O3 := Lib.hid ho
      replace C := Lib.hid (C.out.trans hc)
      clear hc ho hnw PE
      have CK := Lib.hid (past_wf OKA.out AL.out)
      have PL : Hid ((tidyS (allsE es)).length ≤ 4000) := Lib.hid (Nat.le_trans (tidy_len _) AL.out)
      have m0 : 0 ≤ node % 200 := Int.emod_nonneg _ (by decide)
      have m1 : node % 200 < 200 := Int.emod_lt_of_pos _ (by decide)
      have m2 : IntKind.i64.wrap (1 + node % 200) = 1 + node % 200 := IntWalk.i64_in _ (by omega)
      go_wp2_with fail
      refine (pick_any w3 node 200 (by decide) (by decide)).mono ?_
      rintro r w4 ⟨rfl, rfl⟩
      go_wp2_with fail
      refine (last_any w3 A3 c3 (tidyS (allsE es)) (1 + node % 200) O3.out.reads (by have := PL.out; omega)).mono ?_
      rintro r w5 ⟨rfl, hc⟩
      rw [if_pos CK.out]
      replace C := Lib.hid (C.out.trans hc)
      replace O3 := Lib.hid (O3.out.chg hc (by simp))
      clear hc
      generalize hnd : 1 + node % 200 = nd at *
      have N1 : Hid (1 ≤ nd ∧ nd ≤ 200) := Lib.hid (by omega)
      clear hnd m0 m1 m2
      have LP := Lib.hid (last_pos (wf_of_chk CK.out).1 nd)
      generalize hla : lastL nd (tidyS (allsE es)) = la at *
      have HLA := Lib.hid hla
      clear hla
      by_cases hbig : (2147483647 : Int) ≤ la
      · have b1 : decide ((2147483647 : Int) ≤ la) = true := decide_eq_true hbig
        go_wp2
        go_ret
        exact ⟨rfl, C.out⟩
      have b1 : decide ((2147483647 : Int) ≤ la) = false := decide_eq_false hbig
      have b3 : IntKind.i64.wrap (la + 1) = la + 1 := IntWalk.i64_in _ (by have := LP.out; omega)
      have LB : Hid (lastL nd (tidyS (allsE es)) < 2147483647) := Lib.hid (by rw [HLA.out]; omega)
      obtain ⟨N, hN⟩ : ∃ N : EvT, N = ⟨nd, la + 1, ⟨#[97, 47, 98]⟩, 2, 0, none, 0, 0, A3, (tidyS (allsE es)).length, c3⟩ := ⟨_, rfl⟩
      have RN0 : Hid (EvR w5 N (nextE es nd)) := Lib.hid (by
        rw [hN]
        exact ⟨rfl, by show la + 1 = lastL nd (tidyS (allsE es)) + 1; rw [HLA.out], rfl, rfl, rfl, rfl, rfl, Bs.nil _ _, O3.out.reads⟩)
      have FN0 : Hid (FitW w5 N.B N.bl N.bc) := Lib.hid (by
        rw [hN]
        exact ⟨O3.out.cap.1, O3.out.cap.2, .inr O3.out.lt_⟩)
      have NL : Hid (∀ a, N.B = some a → a.block < w5.heap.size) := Lib.hid (by rw [hN]; exact O3.out.lt_)
      have NA : Hid (N.A = none) := Lib.hid (by rw [hN])
      have NS : Hid (EvSm (nextE es nd)) := Lib.hid ⟨by show (3 : Nat) ≤ _; omega, by show (0 : Nat) ≤ _; omega, by show (tidyS (allsE es)).length ≤ _; have := PL.out; omega⟩
      obtain ⟨w6, hw, hc, b6⟩ := news1 w5 (.cells #[.int .i64 N.n, .int .i64 N.s, .string N.p, .int .i64 N.k, .int .i64 N.m, .slice N.A N.l N.c, .slice N.B N.bl N.bc] 29)
      have W6 := Lib.hid hw
      have B6 := Lib.hid b6
      have RN := Lib.hid (RN0.out.chg hc)
      have FN := Lib.hid (FN0.out.chg hc)
      have SZ5 := Lib.hid (And.intro (lt_of_heap b6) hc.size)
      replace C := Lib.hid (C.out.trans hc)
      clear hw hc b6 RN0 FN0 O3
      have VN : Hid ((.cells #[.int .i64 nd, .int .i64 (la + 1), .string ⟨#[97, 47, 98]⟩, .int .i64 2, .int .i64 0, .slice none 0 0, .slice A3 (tidyS (allsE es)).length c3] 29 : Obj) = .cells #[.int .i64 N.n, .int .i64 N.s, .string N.p, .int .i64 N.k, .int .i64 N.m, .slice N.A N.l N.c, .slice N.B N.bl N.bc] 29) := Lib.hid (by rw [hN])
      clear hN
      have NH := Lib.hid (fun (a : EvP) (ha : a ∈ es) => next_ahead OKA.out AL.out N1.out.1 N1.out.2 LB.out ha)
      have NC := Lib.hid (next_chk OKA.out AL.out N1.out.1 N1.out.2 LB.out)
      have NX := Lib.hid (next_closed CL.out AL.out N1.out.1 N1.out.2 LB.out)
      go_upto_region 24 with fail
      rw [VN.out, ← W6.out]
      generalize nextE es nd = nx at *
      generalize w5.heap.size = g6 at *
      clear W6 VN b1 b3 hbig CK PL LP HLA LB
      go_wp2
      go_loopw [14] (fun v14 wr => ∃ (i : Nat), i ≤ xs.length ∧ v14 = .int .i64 i ∧ Hid (Chg [] w6 wr)) (fun v14 _ => xs.length - (RowKit.intOf v14).toNat)
      case atStart => exact ⟨0, Nat.zero_le _, rfl, Lib.hid (Chg.refl [] w6)⟩
      case round =>
        obtain ⟨i, hi, rfl, D⟩ := hrel
        have i0 : (0 : Int) ≤ (i : Int) := by omega
        by_cases hil : i < xs.length
        · have i1 : (i : Int) < (xs.length : Int) := by omega
          have i3 : IntKind.i64.wrap ((i : Int) + 1) = (i : Int) + 1 := IntWalk.i64_in _ (by have := LN.out; omega)
          obtain ⟨g, o, eA, _⟩ := HA.out.line (by omega)
          have EA := Lib.hid eA
          rw [eA]
          clear eA
          obtain ⟨x, e, ex, ee, rx⟩ := HR.out.at_ hil
          have NE := NH.out e (List.mem_of_getElem? ee)
          have n1 := NE.1
          have n2 := NE.2
          have A1 := Lib.hid (fun w' (hc : Chg [] wr w') => evahead_any w' x N e nx (rx.chg (C.out.trans (D.out.trans hc))) (RN.out.chg (D.out.trans hc)) (SM.out e (List.mem_of_getElem? ee)) NS.out)
          have A2 := Lib.hid (fun w' (hc : Chg [] wr w') => evahead_any w' N x nx e (RN.out.chg (D.out.trans hc)) (rx.chg (C.out.trans (D.out.trans hc))) NS.out (SM.out e (List.mem_of_getElem? ee)))
          have HB : Hid (∀ w', Chg [] wr w' → w'.cell? ⟨g6, 0, none⟩ = some (.int .i64 N.n) ∧ w'.cell? ⟨g6, 1, none⟩ = some (.int .i64 N.s) ∧ w'.cell? ⟨g6, 2, none⟩ = some (.string N.p) ∧ w'.cell? ⟨g6, 3, none⟩ = some (.int .i64 N.k) ∧ w'.cell? ⟨g6, 4, none⟩ = some (.int .i64 N.m) ∧ w'.cell? ⟨g6, 5, none⟩ = some (.slice N.A N.l N.c) ∧ w'.cell? ⟨g6, 6, none⟩ = some (.slice N.B N.bl N.bc)) := Lib.hid (fun w' hc => by
            have b := (D.out.trans hc).at_ B6.out (by simp)
            exact ⟨cell_of b 0, cell_of b 1, cell_of b 2, cell_of b 3, cell_of b 4, cell_of b 5, cell_of b 6⟩)
          have HH := Lib.hid (fun w' (hc : Chg [] wr w') => And.intro (HC.out w' (C.out.trans (D.out.trans hc)) g o EA.out i x ex) (HB.out w' hc))
          clear ex ee rx NE HB
          go_upto_region 27 with fail
          refine wp_region_held_drew (S := fun w' => Chg [] wr w') (by kernel_rfl) (Chg.refl [] wr).drew (fun hHeld => ?_)
          refine sy 0 127 rfl rfl ?_
          try simp only [Act.put, sA, s0, s1]
          refine sy 1 128 rfl rfl ?_
          try simp only [Act.put, sA, s0, s1]
          refine sy 2 129 rfl rfl ?_
          try simp only [Act.put, sA, s0, s1]
          refine sy 3 130 rfl rfl ?_ (hy := by (intro w hSw; (try dsimp only at hSw); have hq := HH.out _ hSw; obtain ⟨⟨q0, q1, q2, q3, q4, q5, q6⟩, ⟨p0, p1, p2, p3, p4, p5, p6⟩⟩ := hq; go_simp; try with_reducible rfl))
          try simp only [Act.put, sA, s0, s1]
          refine sy 4 131 rfl rfl ?_ (hy := by (intro w hSw; (try dsimp only at hSw); have hq := HH.out _ hSw; obtain ⟨⟨q0, q1, q2, q3, q4, q5, q6⟩, ⟨p0, p1, p2, p3, p4, p5, p6⟩⟩ := hq; go_simp; try with_reducible rfl))
          try simp only [Act.put, sA, s0, s1]
          refine wpAnyH_ready (rs := [5]) (by kernel_rfl) (by simp) ?_
          refine AllReadyH.cons rfl (fun K hK => ?_) AllReadyH.nil
          replace hK := Lib.hid hK
          go_simp
          refine (A1.out _ hHeld).mono ?_
          rintro r wa ⟨rfl, hc⟩
          rw [n1]
          have Ca := Lib.hid (hHeld.trans hc)
          clear hc hHeld
          refine hK.out _ _ Ca.out (fun hHeld => ?_)
          clear hK K
          try simp only [Act.put, sA, s0, s1]
          refine sy 6 133 rfl rfl ?_
          try simp only [Act.put, sA, s0, s1]
          refine sy 7 134 rfl rfl ?_
          try simp only [Act.put, sA, s0, s1]
          refine sy 8 135 rfl rfl ?_ (hy := by (intro w hSw; (try dsimp only at hSw); have hq := HH.out _ hSw; obtain ⟨⟨q0, q1, q2, q3, q4, q5, q6⟩, ⟨p0, p1, p2, p3, p4, p5, p6⟩⟩ := hq; go_simp; try with_reducible rfl))
          try simp only [Act.put, sA, s0, s1]
          refine sy 9 136 rfl rfl ?_
          try simp only [Act.put, sA, s0, s1]
          refine sy 10 137 rfl rfl ?_
          try simp only [Act.put, sA, s0, s1]
          refine sy 11 138 rfl rfl ?_
          try simp only [Act.put, sA, s0, s1]
          refine sy 12 139 rfl rfl ?_ (hy := by (intro w hSw; (try dsimp only at hSw); have hq := HH.out _ hSw; obtain ⟨⟨q0, q1, q2, q3, q4, q5, q6⟩, ⟨p0, p1, p2, p3, p4, p5, p6⟩⟩ := hq; go_simp; try with_reducible rfl))
          try simp only [Act.put, sA, s0, s1]
          refine wpAnyH_ready (rs := [13]) (by kernel_rfl) (by simp) ?_
          refine AllReadyH.cons rfl (fun K hK => ?_) AllReadyH.nil
          replace hK := Lib.hid hK
          go_simp
          refine (A2.out _ hHeld).mono ?_
          rintro r wb ⟨rfl, hc⟩
          rw [n2]
          have Cb := Lib.hid (hHeld.trans hc)
          clear hc hHeld
          refine hK.out _ _ Cb.out (fun hHeld => ?_)
          clear hK K
          try simp only [Act.put, sA, s0, s1]
          refine sy 14 141 rfl rfl ?_
          try simp only [Act.put, sA, s0, s1]
          refine wpAnyH_done (by kernel_rfl) ?_ _
          clear hHeld
          have DT := Lib.hid (D.out.trans Cb.out)
          clear A1 A2 HH
          go_wp2
          go_round
          case rel => exact ⟨i + 1, by omega, by go_num, DT⟩
          case measure => simp [RowKit.intOf]; omega
        · obtain rfl : i = xs.length := by omega
          have i1 : ¬ (xs.length : Int) < (xs.length : Int) := by omega
          go_upto_region 29 with fail
          have BW := D.out.at_ B6.out (by simp)
          have z0 := cell_of BW 0
          have z1 := cell_of BW 1
          have z2 := cell_of BW 2
          have z3 := cell_of BW 3
          have z4 := cell_of BW 4
          have z5 := cell_of BW 5
          have z6 := cell_of BW 6
          simp only [List.getElem?_toArray, List.getElem?_cons_succ, List.getElem?_cons_zero] at z0 z1 z2 z3 z4 z5 z6
          refine wp_region_held_drew (S := fun w' => w'.cell? ⟨g6, 0, none⟩ = some (.int .i64 N.n) ∧ w'.cell? ⟨g6, 1, none⟩ = some (.int .i64 N.s) ∧ w'.cell? ⟨g6, 2, none⟩ = some (.string N.p) ∧ w'.cell? ⟨g6, 3, none⟩ = some (.int .i64 N.k) ∧ w'.cell? ⟨g6, 4, none⟩ = some (.int .i64 N.m) ∧ w'.cell? ⟨g6, 5, none⟩ = some (.slice N.A N.l N.c) ∧ w'.cell? ⟨g6, 6, none⟩ = some (.slice N.B N.bl N.bc)) (by kernel_rfl) ⟨z0, z1, z2, z3, z4, z5, z6⟩ (fun hHeld => ?_)
          have CD := Lib.hid (D.out.trans (Chg.refl [] wr).drew)
          have BD := CD.out.at_ B6.out (by simp)
          have RD := Lib.hid (RN.out.chg CD.out)
          have FD := Lib.hid (FN.out.chg CD.out)
          have TD := Lib.hid (C.out.trans CD.out)
          have L6 := Lib.hid (show g6 < wr.drew.heap.size ∧ ∀ a, N.B = some a → a.block < wr.drew.heap.size from ⟨by have := SZ5.out.1; have := CD.out.size; omega, fun a ha => by have := NL.out a ha; have := SZ5.out.1; have := CD.out.size; omega⟩)
          clear hHeld BW z0 z1 z2 z3 z4 z5 z6 CD RN FN D i1
          generalize wr.drew = wd at *
          have DX : Hid (∀ w', Chg [] wd w' → w'.cell? ⟨g6, 0, none⟩ = some (.int .i64 N.n) ∧ w'.cell? ⟨g6, 1, none⟩ = some (.int .i64 N.s) ∧ w'.cell? ⟨g6, 2, none⟩ = some (.string N.p) ∧ w'.cell? ⟨g6, 3, none⟩ = some (.int .i64 N.k) ∧ w'.cell? ⟨g6, 4, none⟩ = some (.int .i64 N.m) ∧ w'.cell? ⟨g6, 5, none⟩ = some (.slice N.A N.l N.c) ∧ w'.cell? ⟨g6, 6, none⟩ = some (.slice N.B N.bl N.bc)) := Lib.hid (fun w' hc => by
            have b := hc.at_ BD (by simp)
            exact ⟨cell_of b 0, cell_of b 1, cell_of b 2, cell_of b 3, cell_of b 4, cell_of b 5, cell_of b 6⟩)
          clear BD
          obtain ⟨wc, hwc⟩ : ∃ wc, wd = wc := ⟨_, rfl⟩
          have CC : Hid (Chg [] wd wc) := Lib.hid (hwc ▸ Chg.refl [] wd)
          rw [hwc]
          clear hwc
          refine sy 0 142 rfl rfl ?_ (hS := (DX.out _ CC.out))
          try simp only [Act.put, sA, s0, s1]
          refine sy 1 143 rfl rfl ?_ (hS := (DX.out _ CC.out))
          try simp only [Act.put, sA, s0, s1]
          refine sy 2 144 rfl rfl ?_ (hS := (DX.out _ CC.out)) (hy := by (intro w hSw; (try dsimp only at hSw); obtain ⟨q0, q1, q2, q3, q4, q5, q6⟩ := hSw; go_simp; try with_reducible rfl))
          try simp only [Act.put, sA, s0, s1]
          refine wpAnyH_ready (rs := [3]) (by kernel_rfl) (by simp) ?_
          refine AllReadyH.cons rfl (fun K hK => ?_) AllReadyH.nil
          replace hK := Lib.hid hK
          go_simp
          refine (evcheck_any wc N nx (RD.out.chg CC.out) NS.out).mono ?_
          rintro r wc ⟨rfl, hc⟩
          rw [NC.out]
          replace CC := Lib.hid (CC.out.trans hc)
          clear hc
          refine hK.out _ _ (DX.out _ CC.out) (fun hHeld => ?_)
          clear hK K
          try simp only [Act.put, sA, s0, s1]
          refine sy 4 146 rfl rfl ?_ (hS := (DX.out _ CC.out))
          try simp only [Act.put, sA, s0, s1]
          refine sy 5 147 rfl rfl ?_ (hS := (DX.out _ CC.out))
          try simp only [Act.put, sA, s0, s1]
          refine sy 6 148 rfl rfl ?_ (hS := (DX.out _ CC.out))
          try simp only [Act.put, sA, s0, s1]
          refine sy 7 149 rfl rfl ?_ (hS := (DX.out _ CC.out))
          try simp only [Act.put, sA, s0, s1]
          refine sy 9 151 rfl rfl ?_ (hS := (DX.out _ CC.out)) (hy := by (intro w hSw; (try dsimp only at hSw); obtain ⟨q0, q1, q2, q3, q4, q5, q6⟩ := hSw; go_simp; try with_reducible rfl))
          try simp only [Act.put, sA, s0, s1]
          refine wpAnyH_ready (rs := [8, 10]) (by kernel_rfl) (by simp) ?_
          refine AllReadyH.cons rfl (fun K hK => ?_) (AllReadyH.cons rfl (fun K hK => ?_) AllReadyH.nil)
          · skip
            replace hK := Lib.hid hK
            go_simp
            refine (copyevs_any wc A c xs es (HA.out.chg (TD.out.trans CC.out) (by simp)) (HR.out.chg (TD.out.trans CC.out)) (by have := LN.out; omega) QX.out).mono ?_
            rintro r wc ⟨A9, c9, ys, rfl, hyl, ho, hy, hap, hnw, hc⟩
            have OC := Lib.hid ho
            have RC := Lib.hid hy
            have AP := Lib.hid hap
            have NW : Hid (∀ a, A9 = some a → wd.heap.size ≤ a.block) := Lib.hid (fun a ha => by have := hnw a ha; have := CC.out.size; omega)
            have YL := Lib.hid hyl
            try replace XR := Lib.hid (XR.out.chg hc (by simp))
            replace CC := Lib.hid (CC.out.trans hc)
            clear hc ho hy hap hnw hyl
            refine hK.out _ _ (DX.out _ CC.out) (fun hHeld => ?_)
            clear hK K
            try simp only [Act.put, sA, s0, s1]
            refine wpAnyH_ready (rs := [10]) (by kernel_rfl) (by simp) ?_
            refine AllReadyH.cons rfl (fun K hK => ?_) AllReadyH.nil
            replace hK := Lib.hid hK
            have hHeld := DX.out _ CC.out
            obtain ⟨q0, q1, q2, q3, q4, q5, q6⟩ := hHeld
            go_simp
            clear q0 q1 q2 q3 q4 q5 q6
            obtain ⟨wc, hw, cn, bn⟩ := news1 wc (.cells #[.int .i64 N.n, .int .i64 N.s, .string N.p, .int .i64 N.k, .int .i64 N.m, .slice N.A N.l N.c, .slice N.B N.bl N.bc] 29)
            rw [← hw]
            have XR := Lib.hid (rd_oneEc bn)
            try replace OC := Lib.hid (OC.out.chg cn (by simp))
            try replace RC := Lib.hid (RC.out.chg cn)
            try replace AP := Lib.hid (AP.out.chgA cn)
            replace CC := Lib.hid (CC.out.trans cn)
            clear hw cn bn
            refine hK.out _ _ (DX.out _ CC.out) (fun hHeld => ?_)
            clear hK K
            try simp only [Act.put, sA, s0, s1]
            refine wpAnyH_ready (rs := [11]) (by kernel_rfl) (by simp) ?_
            refine AllReadyH.cons rfl (fun K hK => ?_) AllReadyH.nil
            replace hK := Lib.hid hK
            have N4 : Hid ((ys.length + 1) * 400 ≤ 140737488355327) := Lib.hid (by have := YL.out; have := LN.out; omega)
            have LA9 := Lib.hid (OC.out.lt_)
            refine step_appKg (R := evTy) rfl (.tmp 150) (.tmp 152) rfl rfl (A := A9) (n := ys.length) (m := 1) (c := c9) (d := 1) (xs := ys) (ys := [N]) OC.out rfl rfl XR.out N4.out ?_
            intro Ab cb we ob gb eb
            have OB := Lib.hid ob
            have CG : Chg (blkOf A9) wc we := (Chg.refl (blkOf A9) wc).grown gb (fun i hi => by
              cases A9 with
              | none => simp at hi
              | some a => simp at hi; subst hi; exact .inl (mem_blkOf rfl))
            have RE : Hid (EvsR we (ys ++ [N]) (es ++ [nx])) := Lib.hid (EvsR.snoc (RC.out.chgS CG (fun y hy => ⟨fun a ha q => by obtain ⟨b, hb, e⟩ := of_blkOf q; exact ((AP.out y hy).1 a ha).2 b hb e.symm, fun a ha q => by obtain ⟨b, hb, e⟩ := of_blkOf q; exact ((AP.out y hy).2.1 a ha).2 b hb e.symm⟩)) ((RD.out.chg CC.out).chgS CG (fun a ha q => by rw [NA.out] at ha; cases ha) (fun a ha q => by obtain ⟨b, hb, e⟩ := of_blkOf q; have := NW.out b hb; have := L6.out.2 a ha; omega)))
            have FE : Hid (FitE we (ys ++ [N])) := Lib.hid (fun y hy => by
              rcases List.mem_append.1 hy with q | q
              · exact (AP.out.fit y q).chg CG
              · rw [List.mem_singleton.1 q]; exact (FD.out.chg CC.out).chg CG)
            replace CC := Lib.hid (fresh_appE NW.out CC.out gb eb).2
            obtain ⟨wc, hwc⟩ : ∃ wc, we = wc := ⟨_, rfl⟩
            rw [hwc] at OB RE FE CC ⊢
            clear ob gb eb CG OC RC AP XR N4 LA9
            refine hK.out _ _ (DX.out _ CC.out) (fun hHeld => ?_)
            clear hK K
            try simp only [Act.put, sA, s0, s1]
            refine wpAnyH_ready (rs := [12]) (by kernel_rfl) (by simp) ?_
            refine AllReadyH.cons rfl (fun K hK => ?_) AllReadyH.nil
            replace hK := Lib.hid hK
            have SN : Hid (∀ e ∈ es ++ [nx], EvSm e) := Lib.hid (fun e he => by
              rcases List.mem_append.1 he with q | q
              · exact SM.out e q
              · rw [List.mem_singleton.1 q]; exact NS.out)
            have LZ : Hid ((ys ++ [N]).length ≤ 100000) := Lib.hid (by have := YL.out; have := LN.out; simp; omega)
            have LQ : (ys ++ [N]).length = ys.length + 1 := by simp
            have CX := Lib.hid (evclosed_any wc Ab cb (ys ++ [N]) (es ++ [nx]) OB.out.reads RE.out FE.out LZ.out SN.out)
            rw [LQ, NX.out] at CX
            clear LQ
            go_simp
            refine CX.out.mono ?_
            rintro r wf ⟨rfl, hc⟩
            have CF := Lib.hid (CC.out.trans hc)
            clear hc CX
            refine hK.out _ _ (DX.out _ CF.out) (fun hHeld => ?_)
            clear hK K
            try simp only [Act.put, sA, s0, s1]
            refine sy 13 155 rfl rfl ?_ (hS := (DX.out _ CF.out))
            try simp only [Act.put, sA, s0, s1]
            refine sy 14 4 rfl rfl ?_ (hS := (DX.out _ CF.out))
            try simp only [Act.put, sA, s0, s1]
            refine wpAnyH_done (by kernel_rfl) ?_ _
            clear hHeld
            have CT := Lib.hid (TD.out.trans CF.out)
            go_wp2
            go_ret
            exact ⟨(by first | rfl | simp), CT.out⟩
          · skip
            replace hK := Lib.hid hK
            have hHeld := DX.out _ CC.out
            obtain ⟨q0, q1, q2, q3, q4, q5, q6⟩ := hHeld
            go_simp
            clear q0 q1 q2 q3 q4 q5 q6
            obtain ⟨wc, hw, cn, bn⟩ := news1 wc (.cells #[.int .i64 N.n, .int .i64 N.s, .string N.p, .int .i64 N.k, .int .i64 N.m, .slice N.A N.l N.c, .slice N.B N.bl N.bc] 29)
            rw [← hw]
            have XR := Lib.hid (rd_oneEc bn)
            try replace OC := Lib.hid (OC.out.chg cn (by simp))
            try replace RC := Lib.hid (RC.out.chg cn)
            try replace AP := Lib.hid (AP.out.chgA cn)
            replace CC := Lib.hid (CC.out.trans cn)
            clear hw cn bn
            refine hK.out _ _ (DX.out _ CC.out) (fun hHeld => ?_)
            clear hK K
            try simp only [Act.put, sA, s0, s1]
            refine wpAnyH_ready (rs := [8]) (by kernel_rfl) (by simp) ?_
            refine AllReadyH.cons rfl (fun K hK => ?_) AllReadyH.nil
            replace hK := Lib.hid hK
            go_simp
            refine (copyevs_any wc A c xs es (HA.out.chg (TD.out.trans CC.out) (by simp)) (HR.out.chg (TD.out.trans CC.out)) (by have := LN.out; omega) QX.out).mono ?_
            rintro r wc ⟨A9, c9, ys, rfl, hyl, ho, hy, hap, hnw, hc⟩
            have OC := Lib.hid ho
            have RC := Lib.hid hy
            have AP := Lib.hid hap
            have NW : Hid (∀ a, A9 = some a → wd.heap.size ≤ a.block) := Lib.hid (fun a ha => by have := hnw a ha; have := CC.out.size; omega)
            have YL := Lib.hid hyl
            try replace XR := Lib.hid (XR.out.chg hc (by simp))
            replace CC := Lib.hid (CC.out.trans hc)
            clear hc ho hy hap hnw hyl
            refine hK.out _ _ (DX.out _ CC.out) (fun hHeld => ?_)
            clear hK K
            try simp only [Act.put, sA, s0, s1]
            refine wpAnyH_ready (rs := [11]) (by kernel_rfl) (by simp) ?_
            refine AllReadyH.cons rfl (fun K hK => ?_) AllReadyH.nil
            replace hK := Lib.hid hK
            have N4 : Hid ((ys.length + 1) * 400 ≤ 140737488355327) := Lib.hid (by have := YL.out; have := LN.out; omega)
            have LA9 := Lib.hid (OC.out.lt_)
            refine step_appKg (R := evTy) rfl (.tmp 150) (.tmp 152) rfl rfl (A := A9) (n := ys.length) (m := 1) (c := c9) (d := 1) (xs := ys) (ys := [N]) OC.out rfl rfl XR.out N4.out ?_
            intro Ab cb we ob gb eb
            have OB := Lib.hid ob
            have CG : Chg (blkOf A9) wc we := (Chg.refl (blkOf A9) wc).grown gb (fun i hi => by
              cases A9 with
              | none => simp at hi
              | some a => simp at hi; subst hi; exact .inl (mem_blkOf rfl))
            have RE : Hid (EvsR we (ys ++ [N]) (es ++ [nx])) := Lib.hid (EvsR.snoc (RC.out.chgS CG (fun y hy => ⟨fun a ha q => by obtain ⟨b, hb, e⟩ := of_blkOf q; exact ((AP.out y hy).1 a ha).2 b hb e.symm, fun a ha q => by obtain ⟨b, hb, e⟩ := of_blkOf q; exact ((AP.out y hy).2.1 a ha).2 b hb e.symm⟩)) ((RD.out.chg CC.out).chgS CG (fun a ha q => by rw [NA.out] at ha; cases ha) (fun a ha q => by obtain ⟨b, hb, e⟩ := of_blkOf q; have := NW.out b hb; have := L6.out.2 a ha; omega)))
            have FE : Hid (FitE we (ys ++ [N])) := Lib.hid (fun y hy => by
              rcases List.mem_append.1 hy with q | q
              · exact (AP.out.fit y q).chg CG
              · rw [List.mem_singleton.1 q]; exact (FD.out.chg CC.out).chg CG)
            replace CC := Lib.hid (fresh_appE NW.out CC.out gb eb).2
            obtain ⟨wc, hwc⟩ : ∃ wc, we = wc := ⟨_, rfl⟩
            rw [hwc] at OB RE FE CC ⊢
            clear ob gb eb CG OC RC AP XR N4 LA9
            refine hK.out _ _ (DX.out _ CC.out) (fun hHeld => ?_)
            clear hK K
            try simp only [Act.put, sA, s0, s1]
            refine wpAnyH_ready (rs := [12]) (by kernel_rfl) (by simp) ?_
            refine AllReadyH.cons rfl (fun K hK => ?_) AllReadyH.nil
            replace hK := Lib.hid hK
            have SN : Hid (∀ e ∈ es ++ [nx], EvSm e) := Lib.hid (fun e he => by
              rcases List.mem_append.1 he with q | q
              · exact SM.out e q
              · rw [List.mem_singleton.1 q]; exact NS.out)
            have LZ : Hid ((ys ++ [N]).length ≤ 100000) := Lib.hid (by have := YL.out; have := LN.out; simp; omega)
            have LQ : (ys ++ [N]).length = ys.length + 1 := by simp
            have CX := Lib.hid (evclosed_any wc Ab cb (ys ++ [N]) (es ++ [nx]) OB.out.reads RE.out FE.out LZ.out SN.out)
            rw [LQ, NX.out] at CX
            clear LQ
            go_simp
            refine CX.out.mono ?_
            rintro r wf ⟨rfl, hc⟩
            have CF := Lib.hid (CC.out.trans hc)
            clear hc CX
            refine hK.out _ _ (DX.out _ CF.out) (fun hHeld => ?_)
            clear hK K
            try simp only [Act.put, sA, s0, s1]
            refine sy 13 155 rfl rfl ?_ (hS := (DX.out _ CF.out))
            try simp only [Act.put, sA, s0, s1]
            refine sy 14 4 rfl rfl ?_ (hS := (DX.out _ CF.out))
            try simp only [Act.put, sA, s0, s1]
            refine wpAnyH_done (by kernel_rfl) ?_ _
            clear hHeld
            have CT := Lib.hid (TD.out.trans CF.out)
            go_wp2
            go_ret
            exact ⟨(by first | rfl | simp), CT.out⟩
end
section
open Go.RowKit Go.WideShapes Go.ChangeShapes Go.Deep
set_option linter.unusedSimpArgs false
set_option linter.unusedVariables false

section
variable {H : Type} {enc : TypeId × Value → H} {w : World} {base : Nat} {spare : Nat → Bool} {held : Bool}
set_option maxRecDepth 100000 in
set_option maxHeartbeats 1000000 in
theorem open_events {n : Nat} {cs : List Value} {y : DataW H × List MemPlace} (h : DataW.trod enc Tryz.prog w base spare held n 31 cs = some y) (hz : ∀ k ∈ y.1.weights Tryz.prog 31, k ≤ reachBytes) :
    ∃ A m d zs es, cs = [.slice A m d] ∧ RdK evTy w A m zs ∧ EvsR w zs es ∧ m * 96 ≤ 140737488351232 ∧ m ≤ d ∧ ∀ (i : Nat) (x : EvT) (e : EvP), zs[i]? = some x → es[i]? = some e → EvZ x e := by
  rcases open_slice Tryz.underlying31 h with ⟨rfl, _⟩ | ⟨a, len, cap, m, k, D, Pl, rfl, _, hl, hm, hmm, rfl, hi⟩
  · exact ⟨none, 0, 0, [], [], rfl, RdK.nil _ _, EvsR.nil _, by decide, by decide, by simp⟩
  · have hlm : len ≤ m := by rw [hmm]; split <;> omega
    obtain ⟨hw, hwd⟩ := weights_slice Tryz.underlying31 hz
    rw [show Tryz.prog.bytesOf 29 = 96 by kernel_rfl] at hw
    simp [reachBytes] at hw
    have hC : Tryz.prog.cellsOf 29 = 7 := by kernel_rfl
    obtain ⟨l, hll, hat⟩ := list_of (Q := fun i (x : EvT × EvP) => (w.cell? (a.add (i * 7)) = some (.int .i64 x.1.n) ∧ w.cell? (a.add (i * 7 + 1)) = some (.int .i64 x.1.s) ∧ w.cell? (a.add (i * 7 + 2)) = some (.string x.1.p) ∧ w.cell? (a.add (i * 7 + 3)) = some (.int .i64 x.1.k) ∧ w.cell? (a.add (i * 7 + 4)) = some (.int .i64 x.1.m) ∧ w.cell? (a.add (i * 7 + 5)) = some (.slice x.1.A x.1.l x.1.c) ∧ w.cell? (a.add (i * 7 + 6)) = some (.slice x.1.B x.1.bl x.1.bc)) ∧ EvR w x.1 x.2 ∧ EvZ x.1 x.2) len (fun i hilt => by
      obtain ⟨cs', hc, ht⟩ := hi i (by omega)
      rw [hC] at hc
      obtain ⟨_, hcl, hat⟩ := World.cells?_some hc
      obtain ⟨x, e, rfl, hr, hz2⟩ := open_event ht (fun k hk => hwd (D i) (List.mem_map.2 ⟨i, List.mem_range.2 hilt, rfl⟩) k hk)
      have g0 := hat 0 (by simp)
      have g1 := hat 1 (by simp)
      have g2 := hat 2 (by simp)
      have g3 := hat 3 (by simp)
      have g4 := hat 4 (by simp)
      have g5 := hat 5 (by simp)
      have g6 := hat 6 (by simp)
      rw [add_add] at g0 g1 g2 g3 g4 g5 g6
      exact ⟨(x, e), ⟨g0, g1, g2, g3, g4, g5, g6⟩, hr, hz2⟩)
    refine ⟨some a, len, cap, l.map (·.1), l.map (·.2), rfl, ⟨by rw [List.length_map]; exact hll, fun j v hj => ⟨a, rfl, ?_⟩⟩, ⟨by simp, fun i x e hx he => ?_⟩, by omega, hl, fun i x e hx he => ?_⟩
    rotate_left
    · rw [List.getElem?_map, Option.map_eq_some_iff] at hx he
      obtain ⟨p, hp, rfl⟩ := hx
      obtain ⟨q, hq, rfl⟩ := he
      rw [hp] at hq
      cases hq
      exact (hat i _ hp).2.1
    · rw [List.getElem?_map, Option.map_eq_some_iff] at hx he
      obtain ⟨p, hp, rfl⟩ := hx
      obtain ⟨q, hq, rfl⟩ := he
      rw [hp] at hq
      cases hq
      exact (hat i _ hp).2.2
    have hj2 := (List.getElem?_eq_some_iff.1 hj).1
    rw [evTy.flat_len, List.length_map] at hj2
    have hk : evTy.k = 7 := rfl
    rw [hk] at hj2
    have hq : j / 7 < l.length := by omega
    have e := evTy.flat_at (l.map (·.1)) (j / 7) (j % 7) _ (by rw [List.getElem?_map, List.getElem?_eq_getElem hq]; rfl) (Nat.mod_lt _ (by decide))
    rw [hk, Nat.div_add_mod', hj] at e
    obtain ⟨g0, g1, g2, g3, g4, g5, g6⟩ := (hat (j / 7) _ (List.getElem?_eq_getElem hq)).1
    rcases (show j % 7 = 0 ∨ j % 7 = 1 ∨ j % 7 = 2 ∨ j % 7 = 3 ∨ j % 7 = 4 ∨ j % 7 = 5 ∨ j % 7 = 6 by omega) with h0 | h0 | h0 | h0 | h0 | h0 | h0
    · rw [h0] at e
      rw [show j / 7 * 7 = j by omega] at g0
      rw [g0]
      exact e.symm
    · rw [h0] at e
      rw [show j / 7 * 7 + 1 = j by omega] at g1
      rw [g1]
      exact e.symm
    · rw [h0] at e
      rw [show j / 7 * 7 + 2 = j by omega] at g2
      rw [g2]
      exact e.symm
    · rw [h0] at e
      rw [show j / 7 * 7 + 3 = j by omega] at g3
      rw [g3]
      exact e.symm
    · rw [h0] at e
      rw [show j / 7 * 7 + 4 = j by omega] at g4
      rw [g4]
      exact e.symm
    · rw [h0] at e
      rw [show j / 7 * 7 + 5 = j by omega] at g5
      rw [g5]
      exact e.symm
    · rw [h0] at e
      rw [show j / 7 * 7 + 6 = j by omega] at g6
      rw [g6]
      exact e.symm
end
end
section
def TabN (_ : World) : Prop := True
theorem TabN.laid {W : World} (_h : laidMetH Tryz.prog tables W) : TabN W := trivial
end
end
end Go.Proofs.YtgbidlhgmeglmaaGreatDoor
