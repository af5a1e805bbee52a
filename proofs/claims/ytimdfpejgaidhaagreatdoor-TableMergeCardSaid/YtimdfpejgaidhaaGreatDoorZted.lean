/- order.Of over texts. Where an entry stands in a tree: purely. An entry is looked for by its path. table.whose. A row that the library has sorted, or cleared from some place on. path.compare: what it draws only grows. A strict order of any elements: what is told once, in order, is one list; one more put where it belongs; what follows its equal left out. No memory here, no function of the program. path.Sort. The kit's functions on bytes: same, lent, kept, written over. Package dot: Check, compare, Less, Next; the document's Check, Less, Next. Package dot: compare, Less, Next; the document's Less, Next. Dots in slices: the kit's functions on them. Spans in slices: the functions of the kit on them. Rows of events, and events handed in: what their cells are, and what their slices read as. -/
import Derived.Test.YtimdfpejgaidhaaGreatDoorZtec
import Derived.Deep.Cut
import Derived.Deep.RegionHeld3
import Derived.Test.YtimdfpejgaidhaaGreatDoorZtea
import Derived.Shelf.SlSortCmp.NoneTotal
import Derived.Lib.SlicesCompact
import Derived.Lib.SliceRun
import Derived.Test.YtimdfpejgaidhaaGreatDoorShelf3
import Derived.Shelf.Slices.CompactS
import Derived.Deep.QuietTactic
import Derived.BigQuiet
import Derived.RegionTactic
import Derived.Test.YtimdfpejgaidhaaGreatDoorZteb
namespace Go.Proofs.YtimdfpejgaidhaaGreatDoor
section
open Go.RowKit Go.Lib
set_option linter.unusedSimpArgs false
set_option linter.unusedVariables false


/-- A text beside a text. -/
def cmpL (a b : List UInt8) : Int := if lessL a b = true then -1 else if lessL b a = true then 1 else 0
theorem cmpL_neg {a b : List UInt8} : cmpL a b < 0 ↔ lessL a b = true := by
  unfold cmpL
  split
  · rename_i h; exact ⟨fun _ => h, fun _ => by decide⟩
  · rename_i h; split <;> exact ⟨fun q => absurd q (by decide), fun q => absurd q h⟩
set_option maxRecDepth 100000 in
set_option maxHeartbeats 2000000 in
theorem orderofs_any (w : World) (a b : List UInt8) (ha : a.length ≤ 10000000) (hb : b.length ≤ 10000000) :
    Calls Tryz.prog 94 #[.string (strOf a), .string (strOf b), .func (.func 32) #[] #[]] w fun e w' => e = .returned (.int .i64 (cmpL a b)) ∧ Chg [] w w' := by
  have L1 := Lib.hid (fun w => phless_any w a b ha hb)
  have L2 := Lib.hid (fun w => phless_any w b a hb ha)
  unfold cmpL
  generalize lessL a b = u at *
  generalize lessL b a = v at *
  clear ha hb
  go_enter Tryz.func94, Tryz.ntmps94
  go_wp2_with fail
  refine (L1.out _).mono ?_
  rintro e w1 ⟨rfl, hc⟩
  have C1 := Lib.hid hc
  clear hc
  cases u
  · go_wp2_with fail
    refine (L2.out _).mono ?_
    rintro e w2 ⟨rfl, hc⟩
    have C2 := Lib.hid (C1.out.trans hc)
    clear hc
    cases v
    · go_wp2
      go_ret
      exact ⟨rfl, C2.out⟩
    · go_wp2
      go_ret
      exact ⟨rfl, C2.out⟩
  · go_wp2
    go_ret
    exact ⟨rfl, C1.out⟩
end
section
open Go.RowKit Go.Lib
set_option linter.unusedSimpArgs false
set_option linter.unusedVariables false

theorem cmpL_zero {a b : List UInt8} : cmpL a b = 0 ↔ a = b := by
  unfold cmpL
  constructor
  · intro h
    split at h
    · cases h
    · rename_i h1
      split at h
      · cases h
      · rename_i h2
        rcases less_tri a b with q | q | q
        · exact q
        · exact absurd q h1
        · exact absurd q h2
  · rintro rfl
    rw [less_self]
    rfl
def LoN (es : List EnP) (q : List UInt8) (i : Nat) : Prop := ∀ p x, es[p]? = some x → p < i → lessL x.p q = true
def HiN (es : List EnP) (q : List UInt8) (j : Nat) : Prop := ∀ p x, es[p]? = some x → j ≤ p → lessL x.p q = false
theorem en_at {l : List EnP} (h : l.Pairwise ltT) {p q : Nat} {x y : EnP} (hx : l[p]? = some x) (hy : l[q]? = some y) (hl : p < q) : lessL x.p y.p = true := by
  obtain ⟨l1, e1⟩ := List.getElem?_eq_some_iff.1 hx
  obtain ⟨l2, e2⟩ := List.getElem?_eq_some_iff.1 hy
  have := List.pairwise_iff_getElem.1 h p q l1 l2 hl
  rw [e1, e2] at this
  exact this
theorem loN_next {es : List EnP} {q : List UInt8} (hn : es.Pairwise ltT) {h : Nat} {x : EnP} (hx : es[h]? = some x) (hc : lessL x.p q = true) : LoN es q (h + 1) := by
  intro p y hy hp
  by_cases e : p = h
  · subst e; rw [hx] at hy; cases hy; exact hc
  · exact less_trans _ _ _ (en_at hn hy hx (by omega)) hc
theorem hiN_next {es : List EnP} {q : List UInt8} (hn : es.Pairwise ltT) {h : Nat} {x : EnP} (hx : es[h]? = some x) (hc : lessL x.p q = false) : HiN es q h := by
  intro p y hy hp
  by_cases e : p = h
  · subst e; rw [hx] at hy; cases hy; exact hc
  · rcases r : lessL y.p q with _ | _
    · rfl
    · rw [less_trans _ _ _ (en_at hn hx hy (by omega)) r] at hc
      cases hc
theorem get_here {es : List EnP} {q : List UInt8} (hn : es.Pairwise ltT) {i : Nat} {x : EnP} (hx : es[i]? = some x) (hl : LoN es q i) (hh : HiN es q i) : (getT es q).isSome = decide (cmpL x.p q = 0) := by
  by_cases e : x.p = q
  · rw [decide_eq_true (cmpL_zero.2 e), (get_iff hn).2 ⟨List.mem_of_getElem? hx, e⟩]
    rfl
  · rw [decide_eq_false (fun h => e (cmpL_zero.1 h))]
    rcases h : getT es q with _ | y
    · rfl
    · obtain ⟨hy, hp⟩ := get_some h
      obtain ⟨k, hk, rfl⟩ := List.getElem_of_mem hy
      have ek := List.getElem?_eq_getElem hk
      rcases Nat.lt_trichotomy k i with r | r | r
      · exact absurd hp (less_ne (hl k _ ek r))
      · subst r; rw [hx] at ek; cases ek; exact absurd hp e
      · have a := en_at hn hx ek r
        rw [hp] at a
        rw [hh i _ hx (Nat.le_refl _)] at a
        cases a
theorem get_end {es : List EnP} {q : List UInt8} {i : Nat} (hi : es.length ≤ i) (hl : LoN es q i) : getT es q = none := get_none.2 (fun e he hp => by
  obtain ⟨k, hk, rfl⟩ := List.getElem_of_mem he
  exact less_ne (hl k _ (List.getElem?_eq_getElem hk) (by omega)) hp)
theorem split_at {es : List EnP} {q : List UInt8} {i : Nat} (hl : LoN es q i) (hh : HiN es q i) : es.filter (fun e => lessL e.p q) = es.take i ∧ es.filter (fun e => !lessL e.p q) = es.drop i := by
  have a : ∀ x ∈ es.take i, lessL x.p q = true := fun x hx => by
    obtain ⟨k, hk, rfl⟩ := List.getElem_of_mem hx
    rw [List.length_take] at hk
    rw [List.getElem_take]
    exact hl k _ (List.getElem?_eq_getElem (by omega)) (by omega)
  have b : ∀ x ∈ es.drop i, lessL x.p q = false := fun x hx => by
    obtain ⟨k, hk, rfl⟩ := List.getElem_of_mem hx
    rw [List.length_drop] at hk
    rw [List.getElem_drop]
    exact hh (i + k) _ (List.getElem?_eq_getElem (by omega)) (by omega)
  have e : es = es.take i ++ es.drop i := (List.take_append_drop i es).symm
  constructor
  · conv => lhs; rw [e]
    rw [List.filter_append, List.filter_eq_self.2 a, List.filter_eq_nil_iff.2 (fun x hx => by rw [b x hx]; simp), List.append_nil]
  · conv => lhs; rw [e]
    rw [List.filter_append, List.filter_eq_nil_iff.2 (fun x hx => by rw [a x hx]; simp), List.filter_eq_self.2 (fun x hx => by rw [b x hx]; rfl), List.nil_append]
/-- Where nothing stands at the path. -/
theorem lay_new {es : List EnP} {x : EnP} {i : Nat} (hl : LoN es x.p i) (hh : HiN es x.p i) (hg : getT es x.p = none) : layT es x = es.take i ++ x :: es.drop i := by
  obtain ⟨a, b⟩ := split_at hl hh
  unfold layT
  rw [a, ← b]
  congr 2
  refine List.filter_congr (fun e he => ?_)
  rcases less_tri e.p x.p with q | q | q
  · exact absurd q (get_none.1 hg e he)
  · rw [q, less_not _ _ q]; rfl
  · rw [q, less_not _ _ q]; rfl
/-- Where something stands there. -/
theorem lay_there {es : List EnP} {x e : EnP} {i : Nat} (hn : es.Pairwise ltT) (hl : LoN es x.p i) (hh : HiN es x.p i) (hg : getT es x.p = some e) : es[i]? = some e ∧ layT es x = es.set i x := by
  obtain ⟨a, b⟩ := split_at hl hh
  obtain ⟨he, hp⟩ := get_some hg
  have hi : i < es.length := by
    rcases Nat.lt_or_ge i es.length with q | q
    · exact q
    · rw [get_end q hl] at hg; cases hg
  have ei := List.getElem?_eq_getElem hi
  have hx : es[i] = e := by
    have q := get_here hn ei hl hh
    rw [hg] at q
    have := cmpL_zero.1 (of_decide_eq_true q.symm)
    exact same_path hn (List.mem_of_getElem? ei) he (this.trans hp.symm)
  refine ⟨by rw [ei, hx], ?_⟩
  unfold layT
  rw [a]
  have hd : es.drop i = e :: es.drop (i + 1) := by rw [List.drop_eq_getElem_cons hi, hx]
  have hf : es.filter (fun f => lessL x.p f.p) = es.drop (i + 1) := by
    have e0 : es = es.take i ++ e :: es.drop (i + 1) := by rw [← hd]; exact (List.take_append_drop i es).symm
    have hn2 := hn
    rw [e0, List.pairwise_append, List.pairwise_cons] at hn2
    conv => lhs; rw [e0]
    rw [List.filter_append, List.filter_cons, ← hp, less_self]
    rw [List.filter_eq_nil_iff.2 (fun y hy => by
      have : lessL y.p e.p = true := hn2.2.2 y hy e (by simp)
      rw [less_not _ _ this]; simp), List.filter_eq_self.2 (fun y hy => hn2.2.1.1 y hy)]
    rfl
  rw [hf, List.set_eq_take_append_cons_drop, if_pos hi]
end
section
open Go.RowKit Go.Lib
set_option linter.unusedSimpArgs false
set_option linter.unusedVariables false

set_option maxRecDepth 100000 in
set_option maxHeartbeats 2000000 in
theorem tbbypath_any (w : World) (x : EnT) (a b : List UInt8) (hx : x.p = strOf a) (ha : a.length ≤ 10000000) (hb : b.length ≤ 10000000) :
    Calls Tryz.prog 60 #[.agg #[.string x.p, .int .i64 x.k, .int .i64 x.m, .slice x.A x.l x.c], .string (strOf b)] w fun e w' => e = .returned (.int .i64 (cmpL a b)) ∧ Chg [] w w' := by
  obtain ⟨w1, hw1, c1, b1⟩ := news1 w (.cells #[.string x.p, .int .i64 x.k, .int .i64 x.m, .slice x.A x.l x.c] 55)
  have W1 := Lib.hid hw1
  have C1 := Lib.hid c1
  have CC := Lib.hid (orderofs_any w1 a b ha hb)
  have z0 := cell_of b1 0
  simp only [List.getElem?_toArray, List.getElem?_cons_succ, List.getElem?_cons_zero] at z0
  rw [hx] at z0
  clear hw1 c1 b1 hx ha hb
  go_enter Tryz.func60, Tryz.ntmps60
  go_upto_region 1 with fail
  rw [← W1.out]
  generalize w.heap.size = g1 at *
  clear W1
  go_wp2_with fail
  clear z0
  refine CC.out.mono ?_
  rintro r w2 ⟨rfl, hc⟩
  replace C1 := Lib.hid (C1.out.trans hc)
  clear hc CC
  go_wp2
  go_ret
  exact ⟨rfl, C1.out⟩
set_option maxRecDepth 100000 in
set_option maxHeartbeats 8000000 in
theorem binen_any (w : World) (A : Option Addr) (c : Nat) (xs : List EnT) (es : List EnP) (q : List UInt8) (h : RdK enTy w A xs.length xs) (hx : EnsR w xs es) (hn : es.Pairwise ltT) (hl : xs.length ≤ 100000) (hq : q.length ≤ 10000000) (he : ∀ e ∈ es, e.p.length ≤ 10000000) :
    Calls Tryz.prog 77 #[.slice A xs.length c, .string (strOf q), .func (.func 60) #[] #[]] w fun r w' => ∃ i : Nat, i ≤ xs.length ∧ LoN es q i ∧ HiN es q i ∧ r = .returned (.tuple #[.int .i64 (i : Int), .bool (getT es q).isSome]) ∧ Chg [] w w' := by
  have HA := Lib.hid h
  have HX := Lib.hid hx
  have HNM := Lib.hid hn
  have HL := Lib.hid hl
  have HCMP : Hid (∀ (w' : World) (k : Nat) (x : EnT) (e : EnP), xs[k]? = some x → es[k]? = some e → Calls Tryz.prog 60 #[.agg #[.string x.p, .int .i64 x.k, .int .i64 x.m, .slice x.A x.l x.c], .string (strOf q)] w' fun r w2 => r = .returned (.int .i64 (cmpL e.p q)) ∧ Chg [] w' w2) := Lib.hid (fun w' k x e h1 h2 => tbbypath_any w' x e.p q (hx.2 k x e h1 h2).p (he e (List.mem_of_getElem? h2)) hq)
  have HP := Lib.hid (fun e h => he e h)
  clear h hx hn hl hq he
  go_enter Tryz.func77, Tryz.ntmps77
  go_wp2
  go_loopw [9, 10] (fun v9 v10 wr => ∃ (i j : Nat), i ≤ j ∧ j ≤ xs.length ∧ v9 = .int .i64 (i : Int) ∧ v10 = .int .i64 (j : Int) ∧ Hid (LoN es q i ∧ HiN es q j) ∧ Hid (Chg [] w wr)) (fun v9 v10 _ => (RowKit.intOf v10).toNat - (RowKit.intOf v9).toNat)
  case atStart => exact ⟨0, xs.length, Nat.zero_le _, Nat.le_refl _, rfl, rfl, Lib.hid ⟨fun p x _ h => absurd h (by omega), fun p x hx h => absurd ((List.getElem?_eq_some_iff.1 hx).1) (by have := HX.out.1; omega)⟩, Chg.refl _ _⟩
  case round =>
    obtain ⟨i, j, hij, hj, rfl, rfl, HI, HC⟩ := hrel
    have i0 : (0 : Int) ≤ (i : Int) := by omega
    have hl := HL.out
    have i1 : IntKind.i64.wrap ((i : Int) + (j : Int)) = ((i + j : Nat) : Int) := by rw [IntWalk.i64_in _ (by omega)]; omega
    by_cases hlt : i < j
    · have i2 : (i : Int) < (j : Int) := by omega
      go_upto_region 5 with fail
      obtain ⟨k, hk⟩ : ∃ k : Nat, k = (i + j) / 2 := ⟨_, rfl⟩
      have e1 : ((i : Int) + (j : Int)) / 2 = (k : Int) := by omega
      rw [e1]
      have hk1 : i ≤ k ∧ k < j := by omega
      clear hk e1 i1 i2
      obtain ⟨x, e, ex, ee, _⟩ := HX.out.at_ (show k < xs.length by omega)
      obtain ⟨g, o, eA, _⟩ := HA.out.line (by omega)
      subst eA
      obtain ⟨z0, z1, z2, z3⟩ := enCells (HA.out.chg HC.out (by simp)) ex
      have k0 : (0 : Int) ≤ (k : Int) := by omega
      have k1 : (k : Int) < (xs.length : Int) := by omega
      have EE := Lib.hid ee
      have CL := Lib.hid (HCMP.out wr k x e ex ee)
      clear ex ee
      go_wp2_with fail
      clear z0 z1 z2 z3
      refine CL.out.mono ?_
      rintro r w2 ⟨rfl, hc⟩
      have CE := Lib.hid (HC.out.trans hc)
      clear hc CL
      by_cases hneg : cmpL e.p q < 0
      · have LO := Lib.hid (loN_next HNM.out EE.out (cmpL_neg.1 hneg))
        have dn1 : decide (cmpL e.p q < 0) = true := decide_eq_true hneg
        have w1' : IntKind.i64.wrap ((k : Int) + 1) = (k : Int) + 1 := IntWalk.i64_in _ (by omega)
        go_wp2
        go_round
        case rel => exact ⟨k + 1, j, by omega, hj, by go_num, rfl, Lib.hid ⟨LO.out, HI.out.2⟩, CE⟩
        case measure => simp [RowKit.intOf]; omega
      · have HIN := Lib.hid (hiN_next HNM.out EE.out (by
          rcases t : lessL e.p q with _ | _
          · rfl
          · exact absurd (cmpL_neg.2 t) hneg))
        have dn1 : decide (cmpL e.p q < 0) = false := decide_eq_false hneg
        go_wp2
        go_round
        case rel => exact ⟨i, k, by omega, by omega, rfl, rfl, Lib.hid ⟨HI.out.1, HIN.out⟩, CE⟩
        case measure => simp [RowKit.intOf]; omega
    · obtain rfl : i = j := by omega
      have i2 : ¬ (i : Int) < (i : Int) := by omega
      by_cases hin : i < xs.length
      · have k1 : (i : Int) < (xs.length : Int) := by omega
        obtain ⟨x, e, ex, ee, _⟩ := HX.out.at_ hin
        obtain ⟨g, o, eA, _⟩ := HA.out.line (by omega)
        subst eA
        obtain ⟨z0, z1, z2, z3⟩ := enCells (HA.out.chg HC.out (by simp)) ex
        have CL := Lib.hid (HCMP.out wr i x e ex ee)
        have ANS : Hid ((getT es q).isSome = decide (cmpL e.p q = 0)) := Lib.hid (get_here HNM.out ee HI.out.1 HI.out.2)
        clear ex ee
        go_wp2_with fail
        clear z0 z1 z2 z3
        refine CL.out.mono ?_
        rintro r w2 ⟨rfl, hc⟩
        have CE := Lib.hid (HC.out.trans hc)
        clear hc CL
        by_cases hz : cmpL e.p q = 0
        · have AN : (getT es q).isSome = true := by rw [ANS.out, decide_eq_true hz]
          have dz : ((cmpL e.p q == 0) : Bool) = true := by simpa using hz
          clear ANS
          go_wp2
          go_ret2
          exact ⟨i, by omega, HI.out.1, HI.out.2, by rw [AN]; first | rfl | (rw [dz]), CE.out⟩
        · have AN : (getT es q).isSome = false := by rw [ANS.out, decide_eq_false hz]
          have dz : ((cmpL e.p q == 0) : Bool) = false := by simpa using hz
          clear ANS
          go_wp2
          go_ret2
          exact ⟨i, by omega, HI.out.1, HI.out.2, by rw [AN]; first | rfl | (rw [dz]), CE.out⟩
      · have k1 : ¬ (i : Int) < (xs.length : Int) := by omega
        have k2 : decide ((i : Int) < (xs.length : Int)) = false := by simp; omega
        have AN : (getT es q).isSome = false := by rw [get_end (by have := HX.out.1; omega) HI.out.1]; rfl
        go_wp2
        go_ret2
        exact ⟨i, by omega, HI.out.1, HI.out.2, by first | rfl | (rw [AN]; rfl), HC.out⟩
end
section
open Go.RowKit Go.Lib
set_option linter.unusedSimpArgs false
set_option linter.unusedVariables false

set_option maxRecDepth 100000 in
set_option maxHeartbeats 2000000 in
theorem tbwalk1_any (w : World) (x y : EnT) (a b : List UInt8) (hx : x.p = strOf a) (hy : y.p = strOf b) (ha : a.length ≤ 10000000) (hb : b.length ≤ 10000000) :
    Calls Tryz.prog 59 #[.agg #[.string x.p, .int .i64 x.k, .int .i64 x.m, .slice x.A x.l x.c], .agg #[.string y.p, .int .i64 y.k, .int .i64 y.m, .slice y.A y.l y.c]] w fun e w' => e = .returned (.int .i64 (cmpL a b)) ∧ Chg [] w w' := by
  obtain ⟨w1, hw1, c1, b0, b1⟩ := news2 w (.cells #[.string x.p, .int .i64 x.k, .int .i64 x.m, .slice x.A x.l x.c] 55) (.cells #[.string y.p, .int .i64 y.k, .int .i64 y.m, .slice y.A y.l y.c] 55)
  have W1 := Lib.hid hw1
  have C1 := Lib.hid c1
  have CC := Lib.hid (tbbypath_any w1 x a b hx ha hb)
  have z0 := cell_of b0 0
  have z1 := cell_of b0 1
  have z2 := cell_of b0 2
  have z3 := cell_of b0 3
  have y0 := cell_of b1 0
  simp only [List.getElem?_toArray, List.getElem?_cons_succ, List.getElem?_cons_zero] at z0 z1 z2 z3 y0
  rw [hy] at y0
  clear hw1 c1 b0 b1 hx hy ha hb
  go_enter Tryz.func59, Tryz.ntmps59
  go_upto_region 1 with fail
  rw [← W1.out]
  generalize w.heap.size + 1 = g1 at *
  generalize w.heap.size = g0 at *
  clear W1
  go_wp2_with fail
  clear z0 z1 z2 z3 y0
  refine CC.out.mono ?_
  rintro r w2 ⟨rfl, hc⟩
  have C2 := Lib.hid (C1.out.trans hc)
  clear hc CC
  go_wp2
  go_ret
  exact ⟨rfl, C2.out⟩
def whoV : List EnP → List EnP → Int
  | [], _ => 1
  | _ :: _, [] => -1
  | x :: _, y :: _ => cmpL x.p y.p
theorem EnsR.drop {w : World} {xs : List EnT} {es : List EnP} (h : EnsR w xs es) (k : Nat) : EnsR w (xs.drop k) (es.drop k) :=
  ⟨by simp [h.1], fun i x e hx he => h.2 (k + i) x e (by simpa using hx) (by simpa using he)⟩
set_option maxRecDepth 100000 in
set_option maxHeartbeats 8000000 in
theorem tbwhose_any (w : World) (A B : Option Addr) (c d : Nat) (xs ys : List EnT) (es fs : List EnP) (h : RdK enTy w A xs.length xs) (h' : RdK enTy w B ys.length ys) (hx : EnsR w xs es) (hy : EnsR w ys fs) (hs : (∀ e ∈ es, e.p.length ≤ 10000000) ∧ ∀ e ∈ fs, e.p.length ≤ 10000000) :
    Calls Tryz.prog 93 #[.slice A xs.length c, .slice B ys.length d, .func (.func 59) #[] #[]] w fun r w' => r = .returned (.int .i64 (whoV es fs)) ∧ Chg [] w w' := by
  rcases xs with _ | ⟨x, xs⟩
  · have : es = [] := List.eq_nil_of_length_eq_zero (by rw [← hx.1]; rfl)
    subst this
    show Calls Tryz.prog 93 #[.slice A 0 c, .slice B ys.length d, .func (.func 59) #[] #[]] w fun r w' => r = .returned (.int .i64 1) ∧ Chg [] w w'
    clear h h' hx hy hs
    go_enter Tryz.func93, Tryz.ntmps93
    go_wp2
    go_ret
    exact ⟨rfl, Chg.refl _ _⟩
  rcases es with _ | ⟨e, es⟩
  · exact absurd hx.1 (by simp)
  have n1 : ¬ ((xs.length : Int) + 1 = 0) := by omega
  have n2 : (((xs.length : Int) + 1 == 0) : Bool) = false := by simpa using n1
  have n3 : ((((xs.length + 1 : Nat) : Int) == 0) : Bool) = false := by simp; omega
  rcases ys with _ | ⟨y, ys⟩
  · have : fs = [] := List.eq_nil_of_length_eq_zero (by rw [← hy.1]; rfl)
    subst this
    show Calls Tryz.prog 93 #[.slice A (xs.length + 1) c, .slice B 0 d, .func (.func 59) #[] #[]] w fun r w' => r = .returned (.int .i64 (-1)) ∧ Chg [] w w'
    clear h h' hx hy hs
    go_enter Tryz.func93, Tryz.ntmps93
    go_wp2
    go_ret
    exact ⟨rfl, Chg.refl _ _⟩
  rcases fs with _ | ⟨f, fs⟩
  · exact absurd hy.1 (by simp)
  have m1 : ¬ ((ys.length : Int) + 1 = 0) := by omega
  have m2 : (((ys.length : Int) + 1 == 0) : Bool) = false := by simpa using m1
  have m3 : ((((ys.length + 1 : Nat) : Int) == 0) : Bool) = false := by simp; omega
  have i1 : (0 : Int) < (xs.length : Int) + 1 := by omega
  have j1 : (0 : Int) < (ys.length : Int) + 1 := by omega
  have i2 : (0 : Int) < ((xs.length + 1 : Nat) : Int) := by omega
  have j2 : (0 : Int) < ((ys.length + 1 : Nat) : Int) := by omega
  have HA := Lib.hid h
  have HB := Lib.hid h'
  obtain ⟨g, o, eA, _⟩ := h.line (by simp)
  obtain ⟨g', o', eB, _⟩ := h'.line (by simp)
  subst eA eB
  have XP : Hid (x.p = strOf e.p) := Lib.hid (hx.2 0 x e rfl rfl).p
  have YP : Hid (y.p = strOf f.p) := Lib.hid (hy.2 0 y f rfl rfl).p
  have SP : Hid (e.p.length ≤ 10000000 ∧ f.p.length ≤ 10000000) := Lib.hid ⟨hs.1 e (by simp), hs.2 f (by simp)⟩
  have DX : Hid (∀ w', Chg [] w w' → (w'.cell? ⟨g, o, none⟩ = some (.string x.p) ∧ w'.cell? ⟨g, o + 1, none⟩ = some (.int .i64 x.k) ∧ w'.cell? ⟨g, o + 2, none⟩ = some (.int .i64 x.m) ∧ w'.cell? ⟨g, o + 3, none⟩ = some (.slice x.A x.l x.c)) ∧ (w'.cell? ⟨g', o', none⟩ = some (.string y.p) ∧ w'.cell? ⟨g', o' + 1, none⟩ = some (.int .i64 y.k) ∧ w'.cell? ⟨g', o' + 2, none⟩ = some (.int .i64 y.m) ∧ w'.cell? ⟨g', o' + 3, none⟩ = some (.slice y.A y.l y.c))) := Lib.hid (fun w' hc => by
    have a := enCells (j := 0) (HA.out.chg hc (by simp)) (x := x) rfl
    have b := enCells (j := 0) (HB.out.chg hc (by simp)) (x := y) rfl
    rw [Nat.zero_mul, Nat.add_zero] at a b
    exact ⟨a, b⟩)
  show Calls Tryz.prog 93 #[.slice (some ⟨g, o, none⟩) (xs.length + 1) c, .slice (some ⟨g', o', none⟩) (ys.length + 1) d, .func (.func 59) #[] #[]] w fun r w' => r = .returned (.int .i64 (cmpL e.p f.p)) ∧ Chg [] w w'
  clear h h' hx hy hs HA HB
  go_enter Tryz.func93, Tryz.ntmps93
  go_upto_region 5 with fail
  refine wp_region_held_drew (S := fun w' => Chg [] w w') (by kernel_rfl) (Chg.refl [] w).drew (fun hHeld => ?_)
  refine sy 0 15 rfl rfl ?_
  try simp only [Act.put, sA, s0, s1]
  refine sy 1 16 rfl rfl ?_
  try simp only [Act.put, sA, s0, s1]
  refine sy 2 17 rfl rfl ?_
  try simp only [Act.put, sA, s0, s1]
  refine sy 3 18 rfl rfl ?_ (hy := by (intro w hSw; (try dsimp only at hSw); have hq := DX.out _ hSw; obtain ⟨⟨q0, q1, q2, q3⟩, r0, r1, r2, r3⟩ := hq; go_simp; try with_reducible rfl))
  try simp only [Act.put, sA, s0, s1]
  refine sy 4 19 rfl rfl ?_
  try simp only [Act.put, sA, s0, s1]
  refine sy 5 20 rfl rfl ?_
  try simp only [Act.put, sA, s0, s1]
  refine sy 6 21 rfl rfl ?_ (hy := by (intro w hSw; (try dsimp only at hSw); have hq := DX.out _ hSw; obtain ⟨⟨q0, q1, q2, q3⟩, r0, r1, r2, r3⟩ := hq; go_simp; try with_reducible rfl))
  try simp only [Act.put, sA, s0, s1]
  refine wpAnyH_ready (rs := [7]) (by kernel_rfl) (by simp) ?_
  refine AllReadyH.cons rfl (fun K hK => ?_) AllReadyH.nil
  replace hK := Lib.hid hK
  go_simp
  refine (tbwalk1_any _ x y e.p f.p XP.out YP.out SP.out.1 SP.out.2).mono ?_
  rintro r w5 ⟨rfl, hc⟩
  have D5 := Lib.hid (hHeld.trans hc)
  clear hc hHeld
  refine hK.out _ _ D5.out (fun hHeld => ?_)
  clear hK K
  try simp only [Act.put, sA, s0, s1]
  refine sy 8 6 rfl rfl ?_
  try simp only [Act.put, sA, s0, s1]
  refine wpAnyH_done (by kernel_rfl) ?_ _
  clear hHeld DX
  go_wp2
  go_ret
  exact ⟨rfl, D5.out⟩
end
section
open Go.RowKit Go.Sort
set_option linter.unusedSimpArgs false
set_option linter.unusedVariables false
section
variable {α : Type} [Inhabited α] {R : RowTy α}

theorem flatK_flat (d : Array α) : (flatK R.enc R.k d).toList = R.flat d.toList := by
  refine R.flat_ext _ _ (by simp) ?_
  intro q i x hx hi
  rw [Array.getElem?_toList] at hx ⊢
  have hq : q < d.size := (Array.getElem?_eq_some_iff.1 hx).1
  have hlt : q * R.k + i < d.size * R.k := by
    have := Nat.mul_le_mul_right R.k (show q + 1 ≤ d.size by omega)
    rw [Nat.succ_mul] at this
    omega
  have e := get_flatK R.enc R.k d (q * R.k + i) hlt
  have h1 : (q * R.k + i) / R.k = q := by
    rw [Nat.add_comm, Nat.add_mul_div_right _ _ R.kpos, Nat.div_eq_of_lt hi, Nat.zero_add]
  have h2 : (q * R.k + i) % R.k = i := by rw [Nat.add_comm, Nat.add_mul_mod_self_right, Nat.mod_eq_of_lt hi]
  rw [h1, h2] at e
  have hd : d[q]! = x := by
    rw [getElem!_pos d q hq]
    rw [Array.getElem?_eq_getElem hq] at hx
    exact Option.some.inj hx
  rw [hd] at e
  have hs : q * R.k + i < (flatK R.enc R.k d).size := by simpa using hlt
  rw [getElem!_pos (flatK R.enc R.k d) _ hs] at e
  have hi2 : i < (R.enc x).length := by rw [R.klen]; exact hi
  rw [getElem!_pos (R.enc x) _ hi2] at e
  rw [Array.getElem?_eq_getElem hs, List.getElem?_eq_getElem hi2, e]
theorem OwnK.holds {w : World} {g c : Nat} {xs : List α} (h : OwnK R w (some ⟨g, 0, none⟩) c xs) : HoldsK R.enc R.k w g 0 xs.toArray := by
  rcases h with ⟨h, _⟩ | ⟨g', full, h, hg, hl, _, hn, ht⟩
  · cases h
  · cases h
    intro j hj
    refine ⟨?_, free_of hg _⟩
    rw [Nat.zero_add, cell_of hg]
    have hs : j < (flatK R.enc R.k xs.toArray).size := hj
    rw [getElem!_pos (flatK R.enc R.k xs.toArray) _ hs]
    have e := flatK_flat (R := R) xs.toArray
    simp only at e
    have e2 : (flatK R.enc R.k xs.toArray)[j]? = (R.flat xs)[j]? := by rw [← Array.getElem?_toList, e]
    rw [Array.getElem?_eq_getElem hs] at e2
    have e3 : (R.flat full)[j]? = (R.flat xs)[j]? := by
      have hj2 : j < xs.length * R.k := by simpa using hj
      conv => rhs; rw [← ht, R.flat_take, List.getElem?_take, if_pos hj2]
    show (R.flat full).toArray[j]? = some (id _)
    rw [List.getElem?_toArray, e3, ← e2]
    rfl
theorem putCells_flat (xs ys full : List α) (hl : ys.length = xs.length) (hf : full.take xs.length = xs) (hn : xs.length ≤ full.length) :
    (putCells id 0 (flatK R.enc R.k ys.toArray) (R.flat full).toArray) = (R.flat (ys ++ full.drop xs.length)).toArray := by
  apply Array.toList_inj.1
  apply List.ext_getElem?
  intro p
  have hsz : (flatK R.enc R.k ys.toArray).size = xs.length * R.k := by simp [hl]
  rw [show (R.flat (ys ++ full.drop xs.length)).toArray.toList = R.flat (ys ++ full.drop xs.length) by simp, R.flat_app, R.flat_drop]
  rw [Array.getElem?_toList]
  unfold putCells
  rw [Array.getElem?_mapIdx, List.getElem?_toArray]
  by_cases hp : p < xs.length * R.k
  · have hs : p < (flatK R.enc R.k ys.toArray).size := by omega
    have hp2 : p < (R.flat full).length := by rw [R.flat_len]; exact Nat.lt_of_lt_of_le hp (Nat.mul_le_mul_right _ hn)
    rw [List.getElem?_append_left (by rw [R.flat_len, hl]; exact hp), List.getElem?_eq_getElem hp2]
    simp only [Option.map_some, Nat.zero_le, true_and, Nat.zero_add]
    rw [if_pos hs, Nat.sub_zero, getElem!_pos (flatK R.enc R.k ys.toArray) _ hs]
    have e := flatK_flat (R := R) ys.toArray
    have e2 : (flatK R.enc R.k ys.toArray)[p]? = (R.flat ys)[p]? := by rw [← Array.getElem?_toList, e]
    rw [← e2, Array.getElem?_eq_getElem hs]
    rfl
  · rw [List.getElem?_append_right (by rw [R.flat_len, hl]; omega), R.flat_len, hl, List.getElem?_drop, show xs.length * R.k + (p - xs.length * R.k) = p by omega]
    cases (R.flat full)[p]? with
    | none => rfl
    | some v =>
      simp only [Option.map_some]
      rw [if_neg (by rw [hsz]; omega)]
theorem OwnK.sorted {w : World} {g c : Nat} {xs ys : List α} (h : OwnK R w (some ⟨g, 0, none⟩) c xs) (hl : ys.length = xs.length) (n : Nat) (os : Array Obj) :
    OwnK R (sortWorldK R.enc R.k w g 0 n ys.toArray os) (some ⟨g, 0, none⟩) c ys ∧ Chg [g] w (sortWorldK R.enc R.k w g 0 n ys.toArray os) := by
  rcases h with ⟨h, _⟩ | ⟨g', full, h, hg, hfl, hm, hn, ht⟩
  · cases h
  · cases h
    have hsz : (sortWorldK R.enc R.k w g 0 n ys.toArray os).heap = (w.heap.modify g (onCells (putCells id 0 (flatK R.enc R.k ys.toArray)))) ++ os := rfl
    have hgl := lt_of_heap hg
    refine ⟨.inr ⟨g, ys ++ full.drop xs.length, rfl, ?_, by simp; omega, hm, by omega, ?_⟩, ⟨rfl, rfl, rfl, by rw [hsz]; simp, fun i hi hne => ?_⟩⟩
    · rw [hsz, Array.getElem?_append_left (by simpa using hgl), Array.getElem?_modify, if_pos rfl, hg]
      simp only [Option.map_some, onCells]
      rw [putCells_flat xs ys full hl ht (by omega)]
    · exact List.take_left
    · rw [hsz, Array.getElem?_append_left (by simpa using hi), Array.getElem?_modify, if_neg (by simp at hne; exact fun h => hne h.symm)]
end
end
section
open Go.RowKit
set_option linter.unusedSimpArgs false
set_option linter.unusedVariables false



set_option maxRecDepth 100000 in
set_option maxHeartbeats 4000000 in
theorem genSplit_d (w : World) (l : List UInt8) (hlen : l.length ≤ 10000000) :
    Calls Tryz.prog 131 #[.string (strOf l), .string ⟨#[47]⟩, .int .i64 0, .int .i64 (-1)] w fun e w' => e = .returned (.slice (some ⟨w.heap.size, 0, none⟩) (cutL l).length (cutL l).length) ∧ w'.heap[w.heap.size]? = some (.cells ((cutL l).map tv).toArray 9 (0, 0)) ∧ (Chg [] w w' ∧ w.drawn ≤ w'.drawn) := by
  obtain ⟨N, hN⟩ : ∃ N, (cutL l).length = N := ⟨_, rfl⟩
  have hcn : l.count 47 + 1 = N := by rw [← hN]; exact (cutA_count l []).symm
  have hNl : N ≤ l.length + 1 := by rw [← hN]; exact cutA_len l []
  have hs := strOf_size l
  have HN := Lib.hid hN
  have HCN := Lib.hid hcn
  rw [hN]
  have hN1 : ((l.count 47 : Nat) : Int) + 1 = (N : Int) := by omega
  have k1 : IntKind.i64.wrap ((N : Int)) = (N : Int) := IntWalk.i64_in _ (by omega)
  have k2 : IntKind.i64.wrap ((N : Int) - 1) = (N : Int) - 1 := IntWalk.i64_in _ (by omega)
  have hmk := fun W => run_mkT N (by omega) W
  have C1 := Lib.hid (fun w => strcount_any w l)
  generalize hcc : ((l.count 47 : Nat) : Int) = cc at *
  have hmin : min (N : Int) ((l.length : Int) + 1) = (N : Int) := by omega
  have hN0 : 1 ≤ N := by have := HCN.out; omega
  obtain ⟨w5, hw5, c5, b5⟩ := news1 w (.cells (Array.replicate N (tv [])) 9)
  have W5 := Lib.hid hw5
  have B5 := Lib.hid (show w5.heap[w.heap.size]? = some (.cells ((List.replicate N []).map tv).toArray 9 (0, 0)) by rw [List.map_replicate, List.toArray_replicate]; exact b5)
  have C5 := Lib.hid (show Chg [] w w5 ∧ w.drawn ≤ w5.drawn from ⟨c5, by rw [hw5]; exact Nat.le_refl _⟩)
  clear hN hcn hw5 c5 b5
  go_enter Tryz.func131, Tryz.ntmps131
  go_wp2_with fail
  refine (C1.out _).mono ?_
  rintro e w1 ⟨rfl, rfl⟩
  go_wp2
  rw [← W5.out]
  go_loopw [0, 10, 11] (fun v0 v10 v11 wr => ∃ (pre : List (List UInt8)) (rest : List UInt8), v0 = .string (strOf rest) ∧ v10 = .int .i64 (pre.length : Int) ∧ Hid (pre ++ cutA [] rest = cutL l ∧ rest.length ≤ l.length ∧ pre.length + rest.count 47 + 1 = N) ∧
      Hid (wr.heap[w1.heap.size]? = some (.cells ((pre ++ List.replicate (N - pre.length) []).map tv).toArray 9 (0, 0)) ∧ (Chg [] w1 wr ∧ w1.drawn ≤ wr.drawn))) (fun _ v10 _ _ => N - (RowKit.intOf v10).toNat)
  case atStart => exact ⟨[], l, rfl, rfl, ⟨rfl, Nat.le_refl _, by have := HCN.out; simp; omega⟩, by simpa using B5.out, C5.out⟩
  case round =>
    obtain ⟨pre, rest, rfl, rfl, HP, HI⟩ := hrel
    rcases at47 rest with hno | ⟨a, b, rfl, hno⟩
    · have hc0 : rest.count 47 = 0 := List.count_eq_zero.2 hno
      have hpl : pre.length + 1 = N := by have := HP.out.2.2; omega
      have i1 : ¬ ((pre.length : Int) < (N : Int) - 1) := by omega
      have i2 : (pre.length : Int) < (N : Int) := by omega
      have i3 : (0 : Int) ≤ (pre.length : Int) := by omega
      have i4 : (pre.length : Int) + 1 ≤ (N : Int) := by omega
      have k3 : IntKind.i64.wrap ((pre.length : Int) + 1) = (pre.length : Int) + 1 := IntWalk.i64_in _ (by omega)
      have hcut := HP.out.1
      rw [cutA_no _ _ hno, List.nil_append] at hcut
      have hq := HI.out.1
      rw [show N - pre.length = 0 + 1 by omega] at hq
      have f0 := free_of hq pre.length
      have q1 := heap_setCell_same wr w1.heap.size pre.length _ _ (.string (strOf rest)) hq
      rw [row_set, List.replicate_zero, List.append_nil, hcut] at q1
      have Q1 := Lib.hid q1
      have CW := Lib.hid (show Chg [] w1 (wr.setCell ⟨w1.heap.size, pre.length, none⟩ (.string (strOf rest))) ∧ w1.drawn ≤ (wr.setCell ⟨w1.heap.size, pre.length, none⟩ (.string (strOf rest))).drawn from ⟨HI.out.2.1.setCell (p := ⟨w1.heap.size, pre.length, none⟩) (.inr (Nat.le_refl _)) (.string (strOf rest)), HI.out.2.2⟩)
      have z : ∃ u, wr.cell? ⟨w1.heap.size, pre.length, none⟩ = some u := ⟨.string (strOf []), by rw [cell_of hq]; simp [tv]⟩
      obtain ⟨u, z⟩ := z
      clear hq q1 hcut hno hc0
      go_wp2
      go_ret
      exact ⟨rfl, Q1.out, CW.out⟩
    · have hcb : (a ++ 47 :: b).count 47 = b.count 47 + 1 := by
        rw [List.count_append, List.count_eq_zero.2 hno]
        simp
      have hpl : pre.length + b.count 47 + 2 = N := by have := HP.out.2.2; omega
      have ez : (strOf (a ++ 47 :: b)).size = a.length + 1 + b.length := by rw [strOf_size]; simp; omega
      have hrl' : a.length + 1 + b.length ≤ l.length := by have := HP.out.2.1; rw [← strOf_size, ez] at this; exact this
      have i0 : (0 : Int) ≤ (a.length : Int) := by omega
      have i1 : (pre.length : Int) < (N : Int) - 1 := by omega
      have i2 : (pre.length : Int) < (N : Int) := by omega
      have i3 : (0 : Int) ≤ (pre.length : Int) := by omega
      have i5 : ¬ ((a.length : Int) < 0) := by omega
      have i6 : (a.length : Int) ≤ ((strOf (a ++ 47 :: b)).size : Int) := by rw [ez]; omega
      have i7 : (a.length : Int) + 1 ≤ ((strOf (a ++ 47 :: b)).size : Int) := by rw [ez]; omega
      have i8 : a.length + 1 ≤ 140737488351232 := by omega
      have k3 : IntKind.i64.wrap ((pre.length : Int) + 1) = (pre.length : Int) + 1 := IntWalk.i64_in _ (by omega)
      have e1 : (strOf (a ++ 47 :: b)).extract 0 a.length = strOf a := by rw [strOf_ext]; simp
      have e2 : (strOf (a ++ 47 :: b)).extract (a.length + 1) (a.length + 1 + b.length) = strOf b := by
        rw [strOf_ext]
        congr 1
        rw [show (a ++ 47 :: b).drop (a.length + 1) = b by rw [show a ++ 47 :: b = (a ++ [47]) ++ b by simp]; exact List.drop_left' (by simp)]
        exact List.take_of_length_le (by omega)
      have hcut := HP.out.1
      rw [cutA_at _ _ _ hno, List.nil_append] at hcut
      have hq := HI.out.1
      rw [show N - pre.length = (N - (pre.length + 1)) + 1 by omega] at hq
      have f0 := free_of hq pre.length
      have q1 := heap_setCell_same wr w1.heap.size pre.length _ _ (.string (strOf a)) hq
      rw [row_set] at q1
      have Q1 := Lib.hid q1
      have CW := Lib.hid (show Chg [] w1 (wr.setCell ⟨w1.heap.size, pre.length, none⟩ (.string (strOf a))) ∧ w1.drawn ≤ (wr.setCell ⟨w1.heap.size, pre.length, none⟩ (.string (strOf a))).drawn from ⟨HI.out.2.1.setCell (p := ⟨w1.heap.size, pre.length, none⟩) (.inr (Nat.le_refl _)) (.string (strOf a)), HI.out.2.2⟩)
      have z : ∃ u, wr.cell? ⟨w1.heap.size, pre.length, none⟩ = some u := ⟨.string (strOf []), by rw [cell_of hq]; simp [tv, List.replicate_succ]⟩
      obtain ⟨u, z⟩ := z
      have CI := Lib.hid (fun w => index_at w a b hno)
      have HQ := Lib.hid hcut
      have HPL := Lib.hid hpl
      clear hq q1 hcut hno hcb hpl
      go_wp2_with fail
      refine (CI.out _).mono ?_
      rintro e w2 ⟨rfl, rfl⟩
      go_wp2
      refine ⟨⟨pre ++ [a], b, ?_, by simp, ⟨by rw [← HQ.out]; simp, by omega, by have := HPL.out; simp; omega⟩, ⟨by have := Q1.out; simpa using this, CW.out⟩⟩, by simp [RowKit.intOf]; omega⟩
      first | rfl | (rw [e2]) | (simp only [ez, e2])

theorem split_d (w : World) (l : List UInt8) (hlen : l.length ≤ 10000000) :
    Calls Tryz.prog 104 #[.string (strOf l), .string ⟨#[47]⟩] w fun e w' => e = .returned (.slice (some ⟨w.heap.size, 0, none⟩) (cutL l).length (cutL l).length) ∧ w'.heap[w.heap.size]? = some (.cells ((cutL l).map tv).toArray 9 (0, 0)) ∧ (Chg [] w w' ∧ w.drawn ≤ w'.drawn) := by
  have CG := Lib.hid (fun w => genSplit_d w l hlen)
  generalize cutL l = xs at *
  go_enter Tryz.func104, Tryz.ntmps104
  go_wp2_with fail
  refine (CG.out _).mono ?_
  rintro e w1 ⟨rfl, hq, hc⟩
  have HQ := Lib.hid hq
  clear hq
  go_wp2
  go_ret
  exact ⟨rfl, HQ.out, hc⟩

set_option maxHeartbeats 2000000 in
theorem phcompare_d (w : World) (a b : List UInt8) (ha : a.length ≤ 10000000) (hb : b.length ≤ 10000000) :
    Calls Tryz.prog 75 #[.string (strOf a), .string (strOf b)] w fun e w' => e = .returned (.int .i64 (cmpT (cutL a) (cutL b))) ∧ (Chg [] w w' ∧ w.drawn ≤ w'.drawn) := by
  by_cases hab : a = b
  · subst hab
    rw [cmpT_self]
    have h1 : (a == a) = true := by simp
    go_enter Tryz.func75, Tryz.ntmps75
    go_wp2
    go_ret
    exact ⟨rfl, Chg.refl _ _, Nat.le_refl _⟩
  · have h1 : (a == b) = false := by simpa using hab
    have h2 := str_ne hab
    have S1 := Lib.hid (fun w => split_d w a ha)
    have S2 := Lib.hid (fun w => split_d w b hb)
    have L1 := Lib.hid (show (cutL a).length ≤ 100000000 by have := cutA_len a []; show (cutA [] a).length ≤ _; omega)
    have L2 := Lib.hid (show (cutL b).length ≤ 100000000 by have := cutA_len b []; show (cutA [] b).length ≤ _; omega)
    generalize cutL a = xs at *
    generalize cutL b = ys at *
    go_enter Tryz.func75, Tryz.ntmps75
    go_wp2_with fail
    refine (S1.out _).mono ?_
    rintro e w1 ⟨rfl, hq1, hc1⟩
    have Q1 := Lib.hid hq1
    have C1 := Lib.hid hc1
    have hg := lt_of_heap hq1
    clear hq1 hc1
    go_wp2_with fail
    refine (S2.out _).mono ?_
    rintro e w2 ⟨rfl, hq2, hc2⟩
    have RA := Lib.hid (rd_text (hc2.1.at_ Q1.out (by simp)) (by have := L1.out; unfold maxLen; omega))
    have RB := Lib.hid (rd_text hq2 (by have := L2.out; unfold maxLen; omega))
    have C2 := Lib.hid (show Chg [] w w2 ∧ w.drawn ≤ w2.drawn from ⟨C1.out.1.trans hc2.1, Nat.le_trans C1.out.2 hc2.2⟩)
    clear hq2 hc2
    go_wp2_with fail
    refine (compareFunc_any _ _ _ _ _ xs ys RA.out RB.out L1.out L2.out).mono ?_
    rintro e w3 ⟨rfl, rfl⟩
    go_wp2
    go_ret
    exact ⟨rfl, C2.out⟩
end
section
open Go.Lib
set_option linter.unusedSimpArgs false
set_option linter.unusedVariables false
structure OrdT {α : Type} (lt : α → α → Bool) : Prop where
  irr : ∀ x, lt x x = false
  tr : ∀ x y z, lt x y = true → lt y z = true → lt x z = true
  conn : ∀ x y, lt x y = false → lt y x = false → x = y
section
variable {α : Type} {lt : α → α → Bool}
/-- Rising. -/
def RiseT (lt : α → α → Bool) (l : List α) : Prop := l.Pairwise fun x y => lt x y = true
theorem rise_ext (O : OrdT lt) : ∀ {l m : List α}, RiseT lt l → RiseT lt m → (∀ x, x ∈ l ↔ x ∈ m) → l = m
  | [], [], _, _, _ => rfl
  | [], y :: m, _, _, h => absurd ((h y).2 (by simp)) (by simp)
  | x :: l, [], _, _, h => absurd ((h x).1 (by simp)) (by simp)
  | x :: l, y :: m, hl, hm, h => by
    unfold RiseT at hl hm
    rw [List.pairwise_cons] at hl hm
    have ir : ∀ {a}, ¬ lt a a = true := fun {a} h => by rw [O.irr] at h; cases h
    have hxy : x = y := by
      have h1 := (h x).1 (by simp)
      have h2 := (h y).2 (by simp)
      rw [List.mem_cons] at h1 h2
      rcases h1 with h1 | h1
      · exact h1
      · rcases h2 with h2 | h2
        · exact h2.symm
        · exact absurd (O.tr _ _ _ (hm.1 x h1) (hl.1 y h2)) ir
    subst hxy
    congr 1
    refine rise_ext O hl.2 hm.2 fun z => ?_
    have := h z
    rw [List.mem_cons, List.mem_cons] at this
    constructor
    · intro hz
      rcases this.1 (.inr hz) with e | e
      · subst e; exact absurd (hl.1 z hz) ir
      · exact e
    · intro hz
      rcases this.2 (.inr hz) with e | e
      · subst e; exact absurd (hm.1 z hz) ir
      · exact e
/-- How many of a list come ahead. -/
def cntT (lt : α → α → Bool) (x : α) : List α → Nat
  | [] => 0
  | y :: l => if lt y x then cntT lt x l + 1 else 0
theorem cntT_le (x : α) : ∀ l, cntT lt x l ≤ l.length
  | [] => Nat.le_refl _
  | y :: l => by unfold cntT; split <;> have := cntT_le x l <;> simp <;> omega
theorem cntT_lt (x : α) : ∀ (l : List α) (i : Nat) (y : α), l[i]? = some y → i < cntT lt x l → lt y x = true
  | [], i, y, h, _ => by simp at h
  | z :: l, 0, y, h, hi => by
    simp at h; subst h
    unfold cntT at hi
    split at hi
    · assumption
    · omega
  | z :: l, i + 1, y, h, hi => by
    unfold cntT at hi
    split at hi
    · exact cntT_lt x l i y (by simpa using h) (by omega)
    · omega
theorem cntT_at (x : α) : ∀ (l : List α) (y : α), l[cntT lt x l]? = some y → lt y x = false
  | [], y, h => by simp at h
  | z :: l, y, h => by
    unfold cntT at h
    split at h
    · exact cntT_at x l y (by simpa using h)
    · rename_i hz
      simp at h; subst h; simpa using hz
section
variable [DecidableEq α]
/-- One more, if it is not there. -/
def insT (lt : α → α → Bool) (x : α) (l : List α) : List α :=
  if l[cntT lt x l]? = some x then l else l.take (cntT lt x l) ++ x :: l.drop (cntT lt x l)
theorem insT_len (x : α) (l : List α) : (insT lt x l).length ≤ l.length + 1 := by
  unfold insT
  have := cntT_le (lt := lt) x l
  split <;> simp <;> omega
theorem insT_mem (x y : α) (l : List α) : y ∈ insT lt x l ↔ y = x ∨ y ∈ l := by
  unfold insT
  split
  · rename_i h
    constructor
    · exact .inr
    · rintro (rfl | h2)
      · exact List.mem_of_getElem? h
      · exact h2
  · rw [List.mem_append, List.mem_cons]
    conv => rhs; rw [← List.take_append_drop (cntT lt x l) l, List.mem_append]
    constructor
    · rintro (h | h | h)
      · exact .inr (.inl h)
      · exact .inl h
      · exact .inr (.inr h)
    · rintro (h | h | h)
      · exact .inr (.inl h)
      · exact .inl h
      · exact .inr (.inr h)
theorem insT_rise (O : OrdT lt) (x : α) (l : List α) (h : RiseT lt l) : RiseT lt (insT lt x l) := by
  unfold insT
  split
  · exact h
  · rename_i hne
    have hs : RiseT lt (l.take (cntT lt x l) ++ l.drop (cntT lt x l)) := by rw [List.take_append_drop]; exact h
    unfold RiseT at *
    rw [List.pairwise_append] at hs ⊢
    obtain ⟨a, b, c⟩ := hs
    have hd : ∀ y ∈ l.drop (cntT lt x l), lt x y = true := by
      cases hdr : l.drop (cntT lt x l) with
      | nil => simp
      | cons z r =>
        have hz : l[cntT lt x l]? = some z := by
          have := List.getElem?_drop (xs := l) (i := cntT lt x l) (j := 0)
          rw [hdr] at this
          simpa using this.symm
        have h1 := cntT_at x l z hz
        have hxz : lt x z = true := by
          cases hc : lt x z with
          | true => rfl
          | false => exact absurd (by rw [hz, O.conn _ _ h1 hc]) hne
        rw [hdr, List.pairwise_cons] at b
        intro y hy
        rcases List.mem_cons.1 hy with rfl | hy
        · exact hxz
        · exact O.tr _ _ _ hxz (b.1 y hy)
    have ht : ∀ y ∈ l.take (cntT lt x l), lt y x = true := by
      intro y hy
      obtain ⟨i, hi, e⟩ := List.getElem_of_mem hy
      rw [List.length_take] at hi
      rw [List.getElem_take] at e
      subst e
      exact cntT_lt x l i _ (List.getElem?_eq_getElem (by omega)) (by omega)
    refine ⟨a, ?_, ?_⟩
    · rw [List.pairwise_cons]; exact ⟨hd, b⟩
    · intro y hy z hz
      rcases List.mem_cons.1 hz with rfl | hz
      · exact ht y hy
      · exact c y hy z hz
/-- All of a list, one by one. -/
def insAllT (lt : α → α → Bool) (xs : List α) : List α := xs.foldl (fun l x => insT lt x l) []
theorem insAllT_snoc (xs : List α) (x : α) : insAllT lt (xs ++ [x]) = insT lt x (insAllT lt xs) := by simp [insAllT]
theorem insAllT_props (O : OrdT lt) (xs : List α) : RiseT lt (insAllT lt xs) ∧ (∀ x, x ∈ insAllT lt xs ↔ x ∈ xs) ∧ (insAllT lt xs).length ≤ xs.length := by
  have : ∀ m : List α, RiseT lt (insAllT lt m.reverse) ∧ (∀ x, x ∈ insAllT lt m.reverse ↔ x ∈ m.reverse) ∧ (insAllT lt m.reverse).length ≤ m.length := by
    intro m
    induction m with
    | nil => simp [insAllT, RiseT]
    | cons y m ih =>
      rw [List.reverse_cons, insAllT_snoc]
      refine ⟨insT_rise O _ _ ih.1, fun x => ?_, ?_⟩
      · rw [insT_mem, ih.2.1, List.mem_append, List.mem_singleton]
        constructor
        · rintro (h | h); exact .inr h; exact .inl h
        · rintro (h | h); exact .inr h; exact .inl h
      · have := insT_len (lt := lt) y (insAllT lt m.reverse)
        simp; omega
  have h := this xs.reverse
  rw [List.reverse_reverse, List.length_reverse] at h
  exact h
end
end
end
section
open Go.RowKit Go.Sort Go.Lib
set_option linter.unusedSimpArgs false
set_option linter.unusedVariables false



theorem ordL : OrdT lessL where
  irr := less_self
  tr := fun x y z h k => less_trans x y z h k
  conn := fun x y h k => by
    have := less_eq x y
    rw [h, k] at this
    simpa using this
theorem less_ntr {x y z : List UInt8} (h1 : lessL x y = false) (h2 : lessL y z = false) : lessL x z = false := by
  cases h3 : lessL x z with
  | false => rfl
  | true =>
    cases h4 : lessL y x with
    | true => rw [less_trans y x z h4 h3] at h2; cases h2
    | false => have := ordL.conn x y h1 h4; subst this; rw [h3] at h2; cases h2
end
section
open Go.RowKit

set_option maxHeartbeats 400000 in
theorem same_any (w : World) (A B : Option Addr) (n m c d : Nat) (xs ys : List UInt8) (h : Bs w A n xs) (k : Bs w B m ys) :
    Calls Tryz.prog 48 #[.slice A n c, .slice B m d] w fun e w' => e = .returned (.bool (xs == ys)) ∧ w = w' := by
  have h1 := run_str w (c := c) h
  have k1 := run_str w (c := d) k
  go_enter Tryz.func48, Tryz.ntmps48
  go_wp2
  go_ret
  exact ⟨rfl, rfl⟩
end
end Go.Proofs.YtimdfpejgaidhaaGreatDoor
